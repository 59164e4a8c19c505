/-
  PositionTurned: fills may come in any order, and one that is taken back leaves what was. For every list of executions and every execution, no condition.
-/
import Derived.Test.YtbmmokdccfajmaaPoAwake
import Derived.Test.YtbmmokdccfajmaaPoTurn
namespace Go.Proofs.Ytbmmokdccfajmaa
open Go.ChangeShapes Go.WideShapes Go.ChangeAt Go.RowKit Go.Deep Go.WideElems Go.Lib PO

/-- What the law stands on: the execution in block ob, two positions, one behind the other. -/
structure Tw (w wr : World) (ob n1 n2 : Nat) (a s d q p : Int) (k : Bool) (b c : Pk) : Prop where
  bel : Below w.heap.size w wr
  kp : PosAt wr n1 b
  kq : PosAt wr n2 c
  c0 : wr.cell? ⟨ob, 0, none⟩ = some (.int .i64 a)
  c1 : wr.cell? ⟨ob, 1, none⟩ = some (.int .i64 s)
  c2 : wr.cell? ⟨ob, 2, none⟩ = some (.int .i64 d)
  c3 : wr.cell? ⟨ob, 3, none⟩ = some (.int .i64 q)
  c4 : wr.cell? ⟨ob, 4, none⟩ = some (.int .i64 p)
  c5 : wr.cell? ⟨ob, 5, none⟩ = some (.bool k)
  fz : wr.frozen? ⟨ob, 5, none⟩ = false
  o1 : w.heap.size ≤ ob
  o2 : ob < n1
  o3 : n1 + 4 ≤ n2
  nb : b.nA = 2
  nc : c.nA = 2
theorem Tw.kept {w wr wx : World} {ob n1 n2 : Nat} {a s d q p : Int} {k : Bool} {b c b' c' : Pk} {T : Nat → Prop} (h : Tw w wr ob n1 n2 a s d q p k b c) (x : But T wr wx) (hT : ∀ i, T i → n1 ≤ i) (kp : PosAt wx n1 b') (kq : PosAt wx n2 c') (nb : b'.nA = 2) (nc : c'.nA = 2) : Tw w wx ob n1 n2 a s d q p k b' c' := by
  have lo := World.block_lt_of_cell? _ _ h.c0
  have ho : ¬ T ob := fun t => by have := hT ob t; have := h.o2; omega
  have g := fun o => x.cell (k := ob) (o := o) lo ho
  have z := h.bel.size
  have z1 := h.kp.lt (i := n1) ⟨Nat.le_refl _, by omega⟩
  exact ⟨h.bel.trans (x.below z (fun i hi => by have := hT i hi; have := h.o1; have := h.o2; omega)), kp, kq, (g 0).trans h.c0, (g 1).trans h.c1, (g 2).trans h.c2, (g 3).trans h.c3, (g 4).trans h.c4, (g 5).trans h.c5, (x.frozen lo ho).trans h.fz, h.o1, h.o2, h.o3, nb, nc⟩
theorem Tw.below {w wr wx : World} {ob n1 n2 : Nat} {a s d q p : Int} {k : Bool} {b c : Pk} (h : Tw w wr ob n1 n2 a s d q p k b c) (x : Below wr.heap.size wr wx) : Tw w wx ob n1 n2 a s d q p k b c :=
  h.kept (T := fun _ => False) (But.of_below x) (fun _ t => t.elim) (h.kp.below x) (h.kq.below x) h.nb h.nc
theorem Tw.moveP {w wr wx : World} {ob n1 n2 : Nat} {a s d q p : Int} {k : Bool} {b c b' : Pk} (h : Tw w wr ob n1 n2 a s d q p k b c) (x : But (rows n1 b.nA) wr wx) (kp : PosAt wx n1 b') (nb : b'.nA = 2) : Tw w wx ob n1 n2 a s d q p k b' c :=
  h.kept x (fun i t => by have := t.1; omega) kp (h.kq.kept x (fun i hi t => by have h1 := hi.1; have h2 := t.2; have h3 := h.nb; have := h.o3; omega)) nb h.nc
theorem Tw.moveQ {w wr wx : World} {ob n1 n2 : Nat} {a s d q p : Int} {k : Bool} {b c c' : Pk} (h : Tw w wr ob n1 n2 a s d q p k b c) (x : But (rows n2 c.nA) wr wx) (kq : PosAt wx n2 c') (nc : c'.nA = 2) : Tw w wx ob n1 n2 a s d q p k b c' :=
  h.kept x (fun i t => by have := t.1; have := h.o3; omega) (h.kp.kept x (fun i hi t => by have h1 := hi.2; have h2 := t.1; have h3 := h.nb; have := h.o3; omega)) kq h.nb nc
theorem Tw.back {w wr : World} {ob n1 n2 : Nat} {a s d q p : Int} {k : Bool} {b c : Pk} (h : Tw w wr ob n1 n2 a s d q p k b c) (k' : Bool) : Tw w (wr.setCell ⟨ob, 5, none⟩ (.bool k')) ob n1 n2 a s d q p k' b c := by
  have x : But (fun i => i = ob) wr (wr.setCell ⟨ob, 5, none⟩ (.bool k')) := (But.refl _ _).setCell ob 5 _ (fun _ => rfl)
  have g : ∀ j, j ≠ 5 → (wr.setCell ⟨ob, 5, none⟩ (.bool k')).cell? ⟨ob, j, none⟩ = wr.cell? ⟨ob, j, none⟩ := fun j hj => by
    rw [World.cell?_setCell_other _ _ _ _ (by intro e; injection e with _ e2; exact hj e2.symm)]
  exact ⟨h.bel.setCell h.o1 _, h.kp.kept x (fun i hi t => by have := hi.1; have := h.o2; have t' : i = ob := t; omega), h.kq.kept x (fun i hi t => by have := hi.1; have := h.o2; have := h.o3; have t' : i = ob := t; omega), (g 0 (by omega)).trans h.c0, (g 1 (by omega)).trans h.c1, (g 2 (by omega)).trans h.c2, (g 3 (by omega)).trans h.c3, (g 4 (by omega)).trans h.c4, World.cell?_setCell_same' _ _ _ (by rw [h.c5]; rfl), by rw [World.frozen?_setCell]; exact h.fz, h.o1, h.o2, h.o3, h.nb, h.nc⟩
theorem Tw.start {w w1 w2 w3 : World} {a s d q p : Int} {k : Bool} {b c : Pk} (b1 : Below (w.heap.size + 1) (w.alloc (.cells #[.int .i64 a, .int .i64 s, .int .i64 d, .int .i64 q, .int .i64 p, .bool k] 30)) w1) (b2 : Below w1.heap.size w1 w2) (z2 : w2.heap.size = w1.heap.size + 4) (kp : PosAt w2 w1.heap.size b) (b3 : Below w2.heap.size w2 w3) (kq : PosAt w3 w2.heap.size c) (nb : b.nA = 2) (nc : c.nA = 2) :
    Tw w w3 w.heap.size w1.heap.size w2.heap.size a s d q p k b c := by
  have z1 := b1.size
  have z0 : (w.alloc (.cells #[.int .i64 a, .int .i64 s, .int .i64 d, .int .i64 q, .int .i64 p, .bool k] 30)).heap.size = w.heap.size + 1 := by simp
  have b0 := (Below.refl _ w).alloc (Nat.le_refl _) (.cells #[.int .i64 a, .int .i64 s, .int .i64 d, .int .i64 q, .int .i64 p, .bool k] 30)
  have b4 : Below w1.heap.size w1 w3 := b2.trans (b3.mono b2.size)
  have b5 : Below (w.heap.size + 1) (w.alloc (.cells #[.int .i64 a, .int .i64 s, .int .i64 d, .int .i64 q, .int .i64 p, .bool k] 30)) w3 := b1.trans (b4.mono (by omega))
  have g := fun j => b5.cell (p := ⟨w.heap.size, j, none⟩) (by show w.heap.size < _; omega)
  have g5 := b5.frozen (p := ⟨w.heap.size, 5, none⟩) (by show w.heap.size < _; omega)
  exact ⟨b0.trans (b5.mono (by omega)), kp.below b3, kq, (g 0).trans (by simp), (g 1).trans (by simp), (g 2).trans (by simp), (g 3).trans (by simp), (g 4).trans (by simp), (g 5).trans (by simp), g5.trans (by simp), Nat.le_refl _, by omega, by omega, nb, nc⟩
set_option maxRecDepth 100000 in
set_option maxHeartbeats 16000000 in
theorem turned_walk (w : World) (v : Value) (n : Nat) (X : Nat → Ex) (h : Ops w v n X) (a s d q p : Int) (k : Bool) : Calls Try.prog 5 #[v, .agg #[.int .i64 a, .int .i64 s, .int .i64 d, .int .i64 q, .int .i64 p, .bool k]] w fun e w' => e = .returned (.bool true) ∧ Below w.heap.size w w' := by
  obtain ⟨ad, cap, rfl, q1, q2, h3⟩ := h
  unfold maxLen at q2
  have F1 := awake_any (w.alloc (.cells #[.int .i64 a, .int .i64 s, .int .i64 d, .int .i64 q, .int .i64 p, .bool k] 30))
  have HB0 : Hid (Below w.heap.size w (w.alloc (.cells #[.int .i64 a, .int .i64 s, .int .i64 d, .int .i64 q, .int .i64 p, .bool k] 30))) := (Below.refl _ w).alloc (Nat.le_refl _) _
  have H3 : Hid (∀ i, i < n → ∃ b off, ad = some ⟨b, off, none⟩ ∧ w.cell? ⟨b, off + i * 6, none⟩ = some (.int .i64 (X i).a) ∧ w.cell? ⟨b, off + i * 6 + 1, none⟩ = some (.int .i64 (X i).s) ∧ w.cell? ⟨b, off + i * 6 + 2, none⟩ = some (.int .i64 (X i).d) ∧ w.cell? ⟨b, off + i * 6 + 3, none⟩ = some (.int .i64 (X i).q) ∧ w.cell? ⟨b, off + i * 6 + 4, none⟩ = some (.int .i64 (X i).p) ∧ w.cell? ⟨b, off + i * 6 + 5, none⟩ = some (.bool (X i).k)) := h3
  clear h3
  go_enter Try.func5, Try.ntmps5
  go_wp2_with fail
  refine F1.mono ?_
  rintro e w1 ⟨rfl, hb1⟩
  simp only [World.size_alloc] at hb1
  have HB1 : Hid (Below (w.heap.size + 1) (w.alloc (.cells #[.int .i64 a, .int .i64 s, .int .i64 d, .int .i64 q, .int .i64 p, .bool k] 30)) w1) := hb1
  clear F1 hb1
  by_cases hn : 60 < n
  · have t : (60 : Int) < (n : Int) := by omega
    go_wp2_with fail
    go_ret
    exact ⟨rfl, HB0.out.trans (HB1.out.mono (by omega))⟩
  have t : ¬ (60 : Int) < (n : Int) := by omega
  have F2 := new_in 2 2 w1 (by omega) (by omega) (by omega) (by omega)
  go_wp2_with fail
  refine F2.mono ?_
  rintro e w2 ⟨rfl, K2, B2, Z2⟩
  have HK2 : Hid (PosAt w2 w1.heap.size (newP 2 2) ∧ Below w1.heap.size w1 w2 ∧ w2.heap.size = w1.heap.size + 4) := ⟨K2, B2, Z2⟩
  clear F2 K2 B2 Z2
  have F2 := new_in 2 2 w2 (by omega) (by omega) (by omega) (by omega)
  go_wp2_with fail
  refine F2.mono ?_
  rintro e w3 ⟨rfl, K3, B3, Z3⟩
  have I0 : Hid (Tw w w3 w.heap.size w1.heap.size w2.heap.size a s d q p k (newP 2 2) (newP 2 2)) := Tw.start HB1.out HK2.out.2.1 HK2.out.2.2 HK2.out.1 B3 K3 rfl rfl
  clear F2 K3 B3 Z3 HK2
  go_wp2_with fail
  obtain ⟨ob, hob⟩ : ∃ ob, ob = w.heap.size := ⟨_, rfl⟩
  obtain ⟨n1, hn1⟩ : ∃ n1, n1 = w1.heap.size := ⟨_, rfl⟩
  obtain ⟨n2, hn2⟩ : ∃ n2, n2 = w2.heap.size := ⟨_, rfl⟩
  rw [← hob, ← hn1, ← hn2] at I0
  rw [← hob, ← hn1, ← hn2]
  clear hob hn1 hn2 HB0 HB1
  go_loopw [44] (fun c wr => ∃ (i : Nat) (bp bq : Pk), c = .int .i64 (i : Int) ∧ i ≤ n ∧ Hid (Tw w wr ob n1 n2 a s d q p k bp bq) ∧ Hid (St bp X i) ∧ Hid (St bq (fun j => X (n - 1 - j)) i)) (fun c _ => n - (RowKit.intOf c).toNat)
  case atStart => exact ⟨0, _, _, rfl, Nat.zero_le _, I0.out, St.start _, St.start _⟩
  case round =>
    clear I0
    obtain ⟨i, bp, bq, rfl, hi, I, S1, S2⟩ := hrel
    by_cases hlt : i < n
    · obtain ⟨m, hm⟩ : ∃ m, m = n - 1 - i := ⟨_, rfl⟩
      have em : (n : Int) - 1 - (i : Int) = (m : Int) := by omega
      have t1 : (i : Int) < (n : Int) := by omega
      have t2 : (m : Int) < (n : Int) := by omega
      obtain ⟨b1, o1, e1, y0, y1, y2, y3, y4, y5⟩ := H3.out i hlt
      obtain ⟨b2, o2, e2, u0, u1, u2, u3, u4, u5⟩ := H3.out m (by omega)
      have HE : Hid (X (n - 1 - i) = X m) := by show _ = _; rw [← hm]
      have l1 := World.block_lt_of_cell? _ _ y0
      have l2 := World.block_lt_of_cell? _ _ u0
      subst e1
      injection e2 with e2
      injection e2 with e3 e4
      subst e3 e4
      replace y0 := (I.out.bel.cell (p := ⟨b1, o1 + i * 6, none⟩) l1).trans y0
      replace y1 := (I.out.bel.cell (p := ⟨b1, o1 + i * 6 + 1, none⟩) l1).trans y1
      replace y2 := (I.out.bel.cell (p := ⟨b1, o1 + i * 6 + 2, none⟩) l1).trans y2
      replace y3 := (I.out.bel.cell (p := ⟨b1, o1 + i * 6 + 3, none⟩) l1).trans y3
      replace y4 := (I.out.bel.cell (p := ⟨b1, o1 + i * 6 + 4, none⟩) l1).trans y4
      replace y5 := (I.out.bel.cell (p := ⟨b1, o1 + i * 6 + 5, none⟩) l1).trans y5
      replace u0 := (I.out.bel.cell (p := ⟨b1, o1 + m * 6, none⟩) l1).trans u0
      replace u1 := (I.out.bel.cell (p := ⟨b1, o1 + m * 6 + 1, none⟩) l1).trans u1
      replace u2 := (I.out.bel.cell (p := ⟨b1, o1 + m * 6 + 2, none⟩) l1).trans u2
      replace u3 := (I.out.bel.cell (p := ⟨b1, o1 + m * 6 + 3, none⟩) l1).trans u3
      replace u4 := (I.out.bel.cell (p := ⟨b1, o1 + m * 6 + 4, none⟩) l1).trans u4
      replace u5 := (I.out.bel.cell (p := ⟨b1, o1 + m * 6 + 5, none⟩) l1).trans u5
      replace l1 := Nat.lt_of_lt_of_le l1 I.out.bel.size
      clear l2 hm
      obtain ⟨x1, hx1⟩ : ∃ x1, X i = x1 := ⟨_, rfl⟩
      obtain ⟨x2, hx2⟩ : ∃ x2, X m = x2 := ⟨_, rfl⟩
      rw [hx1] at y0 y1 y2 y3 y4 y5
      rw [hx2] at HE u0 u1 u2 u3 u4 u5
      have HX1 : Hid (X i = x1) := hx1
      clear hx1 hx2
      obtain ⟨aa, sa, da, qa, pa, ka⟩ := x1
      obtain ⟨ab, sb, db, qb, pb, kb⟩ := x2
      simp only at y0 y1 y2 y3 y4 y5 u0 u1 u2 u3 u4 u5
      go_upto_region 12 with fail
      go_cut [10, 11] from 47 to 58 (fun s1 s2 wx => ∃ g1 g2 : Nat, s1 = .pointer (some ⟨g1, 0, none⟩) ∧ s2 = .pointer (some ⟨g2, 0, none⟩) ∧ (wx.cell? ⟨g1, 0, none⟩ = some (.int .i64 aa) ∧ wx.cell? ⟨g1, 1, none⟩ = some (.int .i64 sa) ∧ wx.cell? ⟨g1, 2, none⟩ = some (.int .i64 da) ∧ wx.cell? ⟨g1, 3, none⟩ = some (.int .i64 qa) ∧ wx.cell? ⟨g1, 4, none⟩ = some (.int .i64 pa) ∧ wx.cell? ⟨g1, 5, none⟩ = some (.bool ka)) ∧ (wx.cell? ⟨g2, 0, none⟩ = some (.int .i64 ab) ∧ wx.cell? ⟨g2, 1, none⟩ = some (.int .i64 sb) ∧ wx.cell? ⟨g2, 2, none⟩ = some (.int .i64 db) ∧ wx.cell? ⟨g2, 3, none⟩ = some (.int .i64 qb) ∧ wx.cell? ⟨g2, 4, none⟩ = some (.int .i64 pb) ∧ wx.cell? ⟨g2, 5, none⟩ = some (.bool kb)) ∧ wr.heap.size ≤ g2 ∧ Below wr.heap.size wr wx)
      case first =>
        go_region
        all_goals
          go_wp2_with fail
          go_meet
          case rel =>
            refine ⟨_, _, rfl, rfl, ?_, ?_, ?_, ?_⟩
            · simp
            · simp
            · omega
            · exact (((Below.refl _ _).alloc (Nat.le_refl _) _).alloc (by simp) _).drew
      case rest =>
        obtain ⟨g1, g2, rfl, rfl, ⟨r0, r1, r2, r3, r4, r5⟩, ⟨z0, z1, z2, z3, z4, z5⟩, hg2, hb⟩ := hcut
        have I2 : Hid (Tw w wc ob n1 n2 a s d q p k bp bq) := I.out.below hb
        have lz1 := World.block_lt_of_cell? _ _ z0
        have NR : Hid (¬ rows n1 bp.nA g2) := fun t => by
          have t1 := I.out.kp.lt (i := n1 + 3) ⟨by omega, by have := I.out.nb; omega⟩
          have t2 := t.2
          have t3 := I.out.nb
          omega
        clear y0 y1 y2 y3 y4 y5 u0 u1 u2 u3 u4 u5 I hb l1 hg2
        cases ka
        rotate_left
        · go_wp2_with fail
          go_ret
          exact ⟨rfl, I2.out.bel⟩
        cases kb
        rotate_left
        · go_wp2_with fail
          go_ret
          exact ⟨rfl, I2.out.bel⟩
        by_cases wqa : (1048576 : Int) < qa
        · go_wp2_with fail
          go_ret
          exact ⟨rfl, I2.out.bel⟩
        by_cases wqb : (1048576 : Int) < qb
        · go_wp2_with fail
          go_ret
          exact ⟨rfl, I2.out.bel⟩
        by_cases wpa : (1048576 : Int) < pa
        · go_wp2_with fail
          go_ret
          exact ⟨rfl, I2.out.bel⟩
        by_cases wpb : (1048576 : Int) < pb
        · go_wp2_with fail
          go_ret
          exact ⟨rfl, I2.out.bel⟩
        have SM1 : Hid (Small ⟨aa, sa, da, qa, pa, false⟩) := ⟨show qa ≤ 1048576 by omega, show pa ≤ 1048576 by omega⟩
        have SM2 : Hid (Small ⟨ab, sb, db, qb, pb, false⟩) := ⟨show qb ≤ 1048576 by omega, show pb ≤ 1048576 by omega⟩
        have G1 := move_any I2.out.kp aa sa da qa pa false
        have N1 : Hid (St (chB bp false aa sa da qa pa) X (i + 1)) := S1.out.next (by omega) HX1.out SM1.out
        have N2 : Hid (St (chB bq false ab sb db qb pb) (fun j => X (n - 1 - j)) (i + 1)) := S2.out.next (by omega) HE.out SM2.out
        obtain ⟨E1, hE1⟩ : ∃ E1, chE bp false aa sa da qa pa = E1 := ⟨_, rfl⟩
        rw [hE1] at G1
        clear hE1
        go_wp2_with fail
        refine G1.mono ?_
        rintro e w4 ⟨rfl, M1, k1⟩
        have I3 : Hid (Tw w w4 ob n1 n2 a s d q p k (chB bp false aa sa da qa pa) bq) := I2.out.moveP k1 M1 N1.out.nA
        replace z0 := (k1.cell (k := g2) (o := 0) lz1 NR.out).trans z0
        replace z1 := (k1.cell (k := g2) (o := 1) lz1 NR.out).trans z1
        replace z2 := (k1.cell (k := g2) (o := 2) lz1 NR.out).trans z2
        replace z3 := (k1.cell (k := g2) (o := 3) lz1 NR.out).trans z3
        replace z4 := (k1.cell (k := g2) (o := 4) lz1 NR.out).trans z4
        replace z5 := (k1.cell (k := g2) (o := 5) lz1 NR.out).trans z5
        clear G1 M1 k1 I2 r0 r1 r2 r3 r4 r5 NR lz1 SM1 SM2
        have G2 := move_any I3.out.kq ab sb db qb pb false
        obtain ⟨E2, hE2⟩ : ∃ E2, chE bq false ab sb db qb pb = E2 := ⟨_, rfl⟩
        rw [hE2] at G2
        clear hE2
        go_wp2_with fail
        refine G2.mono ?_
        rintro e w5 ⟨rfl, M2, k2⟩
        have I4 : Hid (Tw w w5 ob n1 n2 a s d q p k (chB bp false aa sa da qa pa) (chB bq false ab sb db qb pb)) := I3.out.moveQ k2 M2 N2.out.nA
        clear G2 M2 k2 I3 z0 z1 z2 z3 z4 z5
        go_wp2_with fail
        go_roundw
        case rel => exact ⟨i + 1, _, _, by simp, by omega, I4.out, N1.out, N2.out⟩
        case measure => simp [RowKit.intOf]; omega
    · obtain rfl : i = n := by omega
      have t5 : ¬ (i : Int) < (i : Int) := by omega
      have EQ : Hid (∀ a j, a < 2 → j < 8 → bp.V a j = bq.V a j) := S1.out.turned S2.out
      have T1 : Hid (Two bp) := S1.out.two (by omega)
      have Z2 : Hid (bq.nS = 2) := S2.out.nS
      clear S1 S2 H3
      have c3 := I.out.c3
      have c4 := I.out.c4
      have c5 := I.out.c5
      have fz := I.out.fz
      have I2 : Hid (Tw w (wr.setCell ⟨ob, 5, none⟩ (.bool false)) ob n1 n2 a s d q p false bp bq) := I.out.back false
      go_upto_region 19 with fail
      generalize wr.setCell ⟨ob, 5, none⟩ (.bool false) = wA at *
      clear I c3 c4 c5 fz t5
      have c3 := I2.out.c3
      have c4 := I2.out.c4
      by_cases wq : (1048576 : Int) < q
      · go_wp2_with fail
        go_ret
        exact ⟨rfl, I2.out.bel⟩
      by_cases wp : (1048576 : Int) < p
      · go_wp2_with fail
        go_ret
        exact ⟨rfl, I2.out.bel⟩
      have SM : Hid (Small ⟨a, s, d, q, p, false⟩) := ⟨show q ≤ 1048576 by omega, show p ≤ 1048576 by omega⟩
      have FS := fill_small T1.out SM.out
      have BS := bust_small T1.out SM.out
      simp only at FS BS
      obtain ⟨f1, f2, f3, f4, f5⟩ := FS
      have G1 := move_any I2.out.kp a s d q p false
      have c0 := I2.out.c0
      have c1 := I2.out.c1
      have c2 := I2.out.c2
      have c5 := I2.out.c5
      have fz := I2.out.fz
      rw [f1] at G1
      have HF : Hid ((chB bp false a s d q p).nA = 2 ∧ (chB bp false a s d q p).nS = 2) := ⟨f2, f3⟩
      clear f1 f2 f3 f4 f5
      cases ok : ok2 ⟨a, s, d, q, p, false⟩
      · rw [ok] at G1
        simp only [Bool.false_eq_true, if_false] at G1
        go_wp2_with fail
        refine G1.mono ?_
        rintro e w4 ⟨rfl, M1, k1⟩
        have I3 : Hid (Tw w w4 ob n1 n2 a s d q p false (chB bp false a s d q p) bq) := I2.out.moveP k1 M1 HF.out.1
        have EQ2 : Hid (∀ a' j, a' < 2 → j < 8 → (chB bp false a s d q p).V a' j = bq.V a' j) := fun a' j ha hj => by
          have := (fill_small T1.out SM.out).2.2.2.2 a' j ha hj
          simp only at this
          rw [this, EQ.out a' j ha hj]
          unfold amt
          rw [if_neg (fun h => by rw [ok] at h; exact absurd h.1 Bool.noConfusion)]
          omega
        have NB : Hid ((chB bp false a s d q p).nA = 2 ∧ (chB bp false a s d q p).nS = 2) := HF.out
        generalize chB bp false a s d q p = B at *
        clear EQ M1 k1 I2 G1 c0 c1 c2 c3 c4 c5 fz BS HF T1 SM
        have EQ := EQ2
        have c5 := I3.out.c5
        have fz := I3.out.fz
        have J0 : Hid (Tw w (w4.setCell ⟨ob, 5, none⟩ (.bool true)) ob n1 n2 a s d q p true B bq) := I3.out.back true
        clear I3 EQ2 ok
        go_upto_region 23 with fail
        generalize w4.setCell ⟨ob, 5, none⟩ (.bool true) = wB at *
        clear c5 fz
        go_wp2_with fail
        go_loopw [113] (fun c wr => ∃ i2 : Nat, c = .int .i64 (i2 : Int) ∧ i2 ≤ 2 ∧ Hid (Tw w wr ob n1 n2 a s d q p true B bq)) (fun c _ => 2 - (RowKit.intOf c).toNat)
        case atStart => exact ⟨0, rfl, by omega, J0.out⟩
        case round =>
          clear J0
          obtain ⟨i2, rfl, hi2, J⟩ := hrel
          by_cases hlt2 : i2 < 2
          · have t2 : (i2 : Int) < 2 := by omega
            go_wp2_with fail
            go_loopw [116] (fun c wr => ∃ j2 : Nat, c = .int .i64 (j2 : Int) ∧ j2 ≤ 2 ∧ Hid (Tw w wr ob n1 n2 a s d q p true B bq)) (fun c _ => 2 - (RowKit.intOf c).toNat)
            case atStart => exact ⟨0, rfl, by omega, J.out⟩
            case round =>
              clear J
              obtain ⟨j2, rfl, hj2, J⟩ := hrel
              by_cases hlt3 : j2 < 2
              · have t3 : (j2 : Int) < 2 := by omega
                have V1 := to_same NB.out.1 NB.out.2 J.out.nc Z2.out EQ.out (i2 : Int) (j2 : Int) 1 (by omega)
                have V2 := to_same NB.out.1 NB.out.2 J.out.nc Z2.out EQ.out (i2 : Int) (j2 : Int) 2 (by omega)
                obtain ⟨x1, hx1⟩ : ∃ x, toQ B (i2 : Int) (j2 : Int) 1 = x := ⟨_, rfl⟩
                obtain ⟨y1, hy1⟩ : ∃ x, toW B (i2 : Int) (j2 : Int) 1 = x := ⟨_, rfl⟩
                obtain ⟨x2, hx2⟩ : ∃ x, toQ B (i2 : Int) (j2 : Int) 2 = x := ⟨_, rfl⟩
                obtain ⟨y2, hy2⟩ : ∃ x, toW B (i2 : Int) (j2 : Int) 2 = x := ⟨_, rfl⟩
                have H1 : Hid (∀ W, PosAt W n1 B → Calls Try.prog 11 #[.pointer (some ⟨n1 + 1, 0, none⟩), .int .i64 (i2 : Int), .int .i64 (j2 : Int)] W fun e w' => e = .returned (.tuple #[.int .i64 x1, .int .i64 y1]) ∧ Below W.heap.size W w') := fun W K => by have := bought_any K (i2 : Int) (j2 : Int); rwa [hx1, hy1] at this
                have H2 : Hid (∀ W, PosAt W n2 bq → Calls Try.prog 11 #[.pointer (some ⟨n2 + 1, 0, none⟩), .int .i64 (i2 : Int), .int .i64 (j2 : Int)] W fun e w' => e = .returned (.tuple #[.int .i64 x1, .int .i64 y1]) ∧ Below W.heap.size W w') := fun W K => by have := bought_any K (i2 : Int) (j2 : Int); rwa [V1.1, V1.2, hx1, hy1] at this
                have H3 : Hid (∀ W, PosAt W n1 B → Calls Try.prog 12 #[.pointer (some ⟨n1 + 1, 0, none⟩), .int .i64 (i2 : Int), .int .i64 (j2 : Int)] W fun e w' => e = .returned (.tuple #[.int .i64 x2, .int .i64 y2]) ∧ Below W.heap.size W w') := fun W K => by have := sold_any K (i2 : Int) (j2 : Int); rwa [hx2, hy2] at this
                have H4 : Hid (∀ W, PosAt W n2 bq → Calls Try.prog 12 #[.pointer (some ⟨n2 + 1, 0, none⟩), .int .i64 (i2 : Int), .int .i64 (j2 : Int)] W fun e w' => e = .returned (.tuple #[.int .i64 x2, .int .i64 y2]) ∧ Below W.heap.size W w') := fun W K => by have := sold_any K (i2 : Int) (j2 : Int); rwa [V2.1, V2.2, hx2, hy2] at this
                clear V1 V2 hx1 hy1 hx2 hy2
                have G := H1.out _ J.out.kp
                go_wp2_with fail
                refine G.mono ?_
                rintro e v0 ⟨rfl, hb⟩
                have J1 : Hid (Tw w v0 ob n1 n2 a s d q p true B bq) := J.out.below hb
                clear G hb J H1
                have G := H2.out _ J1.out.kq
                go_wp2_with fail
                refine G.mono ?_
                rintro e v1 ⟨rfl, hb⟩
                have J2 : Hid (Tw w v1 ob n1 n2 a s d q p true B bq) := J1.out.below hb
                clear G hb J1 H2
                have G := H3.out _ J2.out.kp
                go_wp2_with fail
                refine G.mono ?_
                rintro e v2 ⟨rfl, hb⟩
                have J3 : Hid (Tw w v2 ob n1 n2 a s d q p true B bq) := J2.out.below hb
                clear G hb J2 H3
                have G := H4.out _ J3.out.kq
                go_wp2_with fail
                refine G.mono ?_
                rintro e v3 ⟨rfl, hb⟩
                have J4 : Hid (Tw w v3 ob n1 n2 a s d q p true B bq) := J3.out.below hb
                clear G hb J3 H4
                go_wp2_with fail
                go_roundw
                case rel => exact ⟨j2 + 1, by simp, by omega, J4.out⟩
                case measure => simp [RowKit.intOf]; omega
              · obtain rfl : j2 = 2 := by omega
                go_wp2_with fail
                go_roundw
                case rel => exact ⟨i2 + 1, by simp, by omega, J.out⟩
                case measure => simp [RowKit.intOf]; omega
          · obtain rfl : i2 = 2 := by omega
            go_wp2_with fail
            go_ret
            exact ⟨rfl, J.out.bel⟩
      · rw [ok] at G1
        simp only [if_true] at G1
        obtain ⟨BE, BV⟩ := BS ok
        go_wp2_with fail
        refine G1.mono ?_
        rintro e w4 ⟨rfl, M1, k1⟩
        have I3 : Hid (Tw w w4 ob n1 n2 a s d q p false (chB bp false a s d q p) bq) := I2.out.moveP k1 M1 HF.out.1
        have EQ2 : Hid (∀ a' j, a' < 2 → j < 8 → (chB (chB bp false a s d q p) true a s d q p).V a' j = bq.V a' j) := fun a' j ha hj => by rw [BV a' j ha hj, EQ.out a' j ha hj]
        have NB : Hid ((chB (chB bp false a s d q p) true a s d q p).nA = 2 ∧ (chB (chB bp false a s d q p) true a s d q p).nS = 2) := ⟨(ch_sizes _ _ _ _ _ _ _).1.trans HF.out.1, (ch_sizes _ _ _ _ _ _ _).2.trans HF.out.2⟩
        generalize chB bp false a s d q p = C at *
        clear EQ M1 k1 I2 G1 c0 c1 c2 c3 c4 c5 fz BS BV HF T1 SM
        have EQ := EQ2
        have c5 := I3.out.c5
        have fz := I3.out.fz
        have J1 : Hid (Tw w (w4.setCell ⟨ob, 5, none⟩ (.bool true)) ob n1 n2 a s d q p true C bq) := I3.out.back true
        clear I3 EQ2 ok
        go_upto_region 23 with fail
        generalize w4.setCell ⟨ob, 5, none⟩ (.bool true) = wB at *
        clear c5 fz
        have c0 := J1.out.c0
        have c1 := J1.out.c1
        have c2 := J1.out.c2
        have c3 := J1.out.c3
        have c4 := J1.out.c4
        have c5 := J1.out.c5
        have G1 := move_any J1.out.kp a s d q p true
        rw [BE] at G1
        go_wp2_with fail
        refine G1.mono ?_
        rintro e w5 ⟨rfl, M1, k1⟩
        have J0 : Hid (Tw w w5 ob n1 n2 a s d q p true (chB C true a s d q p) bq) := J1.out.moveP k1 M1 NB.out.1
        generalize chB C true a s d q p = B at *
        clear c0 c1 c2 c3 c4 c5 G1 M1 k1 BE J1
        go_wp2_with fail
        go_loopw [113] (fun c wr => ∃ i2 : Nat, c = .int .i64 (i2 : Int) ∧ i2 ≤ 2 ∧ Hid (Tw w wr ob n1 n2 a s d q p true B bq)) (fun c _ => 2 - (RowKit.intOf c).toNat)
        case atStart => exact ⟨0, rfl, by omega, J0.out⟩
        case round =>
          clear J0
          obtain ⟨i2, rfl, hi2, J⟩ := hrel
          by_cases hlt2 : i2 < 2
          · have t2 : (i2 : Int) < 2 := by omega
            go_wp2_with fail
            go_loopw [116] (fun c wr => ∃ j2 : Nat, c = .int .i64 (j2 : Int) ∧ j2 ≤ 2 ∧ Hid (Tw w wr ob n1 n2 a s d q p true B bq)) (fun c _ => 2 - (RowKit.intOf c).toNat)
            case atStart => exact ⟨0, rfl, by omega, J.out⟩
            case round =>
              clear J
              obtain ⟨j2, rfl, hj2, J⟩ := hrel
              by_cases hlt3 : j2 < 2
              · have t3 : (j2 : Int) < 2 := by omega
                have V1 := to_same NB.out.1 NB.out.2 J.out.nc Z2.out EQ.out (i2 : Int) (j2 : Int) 1 (by omega)
                have V2 := to_same NB.out.1 NB.out.2 J.out.nc Z2.out EQ.out (i2 : Int) (j2 : Int) 2 (by omega)
                obtain ⟨x1, hx1⟩ : ∃ x, toQ B (i2 : Int) (j2 : Int) 1 = x := ⟨_, rfl⟩
                obtain ⟨y1, hy1⟩ : ∃ x, toW B (i2 : Int) (j2 : Int) 1 = x := ⟨_, rfl⟩
                obtain ⟨x2, hx2⟩ : ∃ x, toQ B (i2 : Int) (j2 : Int) 2 = x := ⟨_, rfl⟩
                obtain ⟨y2, hy2⟩ : ∃ x, toW B (i2 : Int) (j2 : Int) 2 = x := ⟨_, rfl⟩
                have H1 : Hid (∀ W, PosAt W n1 B → Calls Try.prog 11 #[.pointer (some ⟨n1 + 1, 0, none⟩), .int .i64 (i2 : Int), .int .i64 (j2 : Int)] W fun e w' => e = .returned (.tuple #[.int .i64 x1, .int .i64 y1]) ∧ Below W.heap.size W w') := fun W K => by have := bought_any K (i2 : Int) (j2 : Int); rwa [hx1, hy1] at this
                have H2 : Hid (∀ W, PosAt W n2 bq → Calls Try.prog 11 #[.pointer (some ⟨n2 + 1, 0, none⟩), .int .i64 (i2 : Int), .int .i64 (j2 : Int)] W fun e w' => e = .returned (.tuple #[.int .i64 x1, .int .i64 y1]) ∧ Below W.heap.size W w') := fun W K => by have := bought_any K (i2 : Int) (j2 : Int); rwa [V1.1, V1.2, hx1, hy1] at this
                have H3 : Hid (∀ W, PosAt W n1 B → Calls Try.prog 12 #[.pointer (some ⟨n1 + 1, 0, none⟩), .int .i64 (i2 : Int), .int .i64 (j2 : Int)] W fun e w' => e = .returned (.tuple #[.int .i64 x2, .int .i64 y2]) ∧ Below W.heap.size W w') := fun W K => by have := sold_any K (i2 : Int) (j2 : Int); rwa [hx2, hy2] at this
                have H4 : Hid (∀ W, PosAt W n2 bq → Calls Try.prog 12 #[.pointer (some ⟨n2 + 1, 0, none⟩), .int .i64 (i2 : Int), .int .i64 (j2 : Int)] W fun e w' => e = .returned (.tuple #[.int .i64 x2, .int .i64 y2]) ∧ Below W.heap.size W w') := fun W K => by have := sold_any K (i2 : Int) (j2 : Int); rwa [V2.1, V2.2, hx2, hy2] at this
                clear V1 V2 hx1 hy1 hx2 hy2
                have G := H1.out _ J.out.kp
                go_wp2_with fail
                refine G.mono ?_
                rintro e v0 ⟨rfl, hb⟩
                have J1 : Hid (Tw w v0 ob n1 n2 a s d q p true B bq) := J.out.below hb
                clear G hb J H1
                have G := H2.out _ J1.out.kq
                go_wp2_with fail
                refine G.mono ?_
                rintro e v1 ⟨rfl, hb⟩
                have J2 : Hid (Tw w v1 ob n1 n2 a s d q p true B bq) := J1.out.below hb
                clear G hb J1 H2
                have G := H3.out _ J2.out.kp
                go_wp2_with fail
                refine G.mono ?_
                rintro e v2 ⟨rfl, hb⟩
                have J3 : Hid (Tw w v2 ob n1 n2 a s d q p true B bq) := J2.out.below hb
                clear G hb J2 H3
                have G := H4.out _ J3.out.kq
                go_wp2_with fail
                refine G.mono ?_
                rintro e v3 ⟨rfl, hb⟩
                have J4 : Hid (Tw w v3 ob n1 n2 a s d q p true B bq) := J3.out.below hb
                clear G hb J3 H4
                go_wp2_with fail
                go_roundw
                case rel => exact ⟨j2 + 1, by simp, by omega, J4.out⟩
                case measure => simp [RowKit.intOf]; omega
              · obtain rfl : j2 = 2 := by omega
                go_wp2_with fail
                go_roundw
                case rel => exact ⟨i2 + 1, by simp, by omega, J.out⟩
                case measure => simp [RowKit.intOf]; omega
          · obtain rfl : i2 = 2 := by omega
            go_wp2_with fail
            go_ret
            exact ⟨rfl, J.out.bel⟩
theorem positionTurned_walk (w : World) (v : Value) (n : Nat) (X : Nat → Ex) (h : Ops w v n X) (x : Ex) : Calls Try.prog 5 #[v, .agg x.cells] w fun e w' => e = .returned (.bool true) ∧ Below w.heap.size w w' := turned_walk w v n X h x.a x.s x.d x.q x.p x.k
theorem positionTurned_own : ownKnob Try.prog.godebug = none := by kernel_rfl
theorem positionTurned_laidOut : laidOutB Try.prog = true := by kernel_rfl
set_option maxRecDepth 100000 in
theorem positionTurned_lifted (os : Os) (started : os.Started) (H : Type) (enc : TypeId × Value → H) :
    ReturnsInHanded {} Try.checked os 5 .any (Rows.positionTurnedSpec.pre6 enc Try.prog Try.f5 Rows.positionTurnedRow.domain false) (Rows.positionTurnedSpec.post enc Try.prog Try.f5 false true false false) := by
  refine returnsInHanded_of_change (C := Try.checked) positionTurned_own started (by kernel_rfl) Try.func5
    (ChangeSpec.witness6 (enc := enc) (C := Try.checked) false ⟨#[], #[.slice none 0 0, .agg #[.int .i64 0, .int .i64 0, .int .i64 0, .int .i64 0, .int .i64 0, .bool false]], []⟩ 8 (by kernel_rfl) (by kernel_rfl) (by kernel_rfl) (by kernel_rfl)) ?_
  intro W base args ds gs before hval0 hW hcnd _
  have hval : ∀ (j : Nat) t v, Try.f5.params[j]? = some t → args[j]? = some v → Value.okWide Try.prog W .any base t v := hval0
  have hW' := hW
  obtain ⟨p, q, hA0, hV, rfl, hfz, hnd⟩ := hW
  have hA : DataW.TrodAll enc Try.prog W 0 (fun _ => true) true Try.f5.params.toList args.toList ds p := hA0
  rw [Try.params5] at hA hval
  obtain ⟨v0, vs0, d0, ds0, p0, q0, hargs, rfl, rfl, h0, r0⟩ := trodAll_cons hA
  obtain ⟨v1, vs1, d1, ds1, p1, q1, rfl, rfl, rfl, h1, r1⟩ := trodAll_cons r0
  obtain ⟨rfl, rfl, rfl⟩ := trodAll_nil r1
  obtain rfl : args = #[v0, v1] := by cases args; simp_all
  obtain ⟨rfl, rfl⟩ := trodVars_none hV
  obtain ⟨ad0, n0, cap0, rfl⟩ := okWide_slice Try.underlying22 (hval 0 22 v0 rfl rfl)
  have k0 := h0
  have lt0 : ∀ x ∈ p0, x.block < W.heap.size := by obtain ⟨m, hm⟩ := k0; exact DataW.trod_lt m _ _ _ hm
  obtain ⟨X0, ops0⟩ : ∃ X, Ops W (.slice ad0 n0 cap0) n0 X := by obtain ⟨fuel, hf⟩ := h0; exact open_ops hf
  have k1 := h1
  have lt1 : ∀ x ∈ p1, x.block < W.heap.size := by obtain ⟨m, hm⟩ := k1; exact DataW.trod_lt m _ _ _ hm
  obtain ⟨x1, rfl⟩ := open_op (hval 1 30 v1 rfl rfl) h1
  clear hA0 hval0
  simp only [List.append_nil] at hW'
  refine (positionTurned_walk W _ n0 X0 ops0 x1).mono fun e W' ⟨he, bel⟩ => ?_
  subst he
  exact ⟨_, rfl, _, _, _, [], _, [], hW', trodAll_mk1 (shut_bool Try.underlying4 _), (trodAll_cons_mk (Below.trod positionTurned_laidOut (by kernel_rfl) (of_decide_eq_true (by kernel_rfl)) k0 bel lt0) (trodAll_cons_mk (Below.trod positionTurned_laidOut (by kernel_rfl) (of_decide_eq_true (by kernel_rfl)) k1 bel lt1) trodAll_mk0)), rfl, bel.frame _, fun h => by cases h⟩

/-- THE STATEMENT. -/
theorem positionTurned_proved : Rows.PositionTurnedSaid :=
  OpenClaim.holds_of_wide 5 Try.f5 rfl rfl rfl rfl rfl rfl rfl ⟨rfl, rfl, rfl, rfl, rfl⟩ rfl rfl rfl rfl rfl (by kernel_rfl) Try.func5 (by kernel_rfl)
    (of_decide_eq_true (by kernel_rfl)) (by unfold Func.isWrapper; first | (rw [if_pos (by decide +kernel)]; kernel_rfl) | (rw [if_neg (by decide +kernel)]; exact ⟨rfl, rfl⟩))
    (fun os started H enc _ => positionTurned_lifted os started H enc)
#print axioms positionTurned_proved
end Go.Proofs.Ytbmmokdccfajmaa
