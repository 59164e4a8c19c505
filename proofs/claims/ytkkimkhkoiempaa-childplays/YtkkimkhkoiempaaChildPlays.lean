/-
  ChildPlays: every play of what happens to an order at a venue is the document's. For everything that a child is made of and every list of steps, no condition.
-/
import Derived.Test.YtkkimkhkoiempaaChAwake
import Derived.Test.YtkkimkhkoiempaaChDoc
import Derived.Test.YtkkimkhkoiempaaFrame21
import Derived.Deep.RegionHeld3
import Derived.Laws.StructEq
namespace Go.Proofs.Ytkkimkhkoiempaa
open Go.ChangeShapes Go.WideShapes Go.ChangeAt Go.RowKit Go.Deep Go.WideElems Go.Lib MA CH

/-- A block holds what a child is made of. -/
def OrdAt (w : World) (g : Nat) (xi xv : ByteArray) (xs xq xp : Int) : Prop :=
  w.cell? ⟨g, 0, none⟩ = some (.string xi) ∧ w.cell? ⟨g, 1, none⟩ = some (.string xv) ∧ w.cell? ⟨g, 2, none⟩ = some (.int .i64 xs) ∧ w.cell? ⟨g, 3, none⟩ = some (.int .i64 xq) ∧ w.cell? ⟨g, 4, none⟩ = some (.int .i64 xp)
theorem ord_new (w : World) (xi xv : ByteArray) (xs xq xp : Int) (t : TypeId) : OrdAt (w.alloc (.cells #[.string xi, .string xv, .int .i64 xs, .int .i64 xq, .int .i64 xp] t)) w.heap.size xi xv xs xq xp :=
  ⟨by simp, by simp, by simp, by simp, by simp⟩
theorem OrdAt.below {w w' : World} {g : Nat} {xi xv : ByteArray} {xs xq xp : Int} (h : OrdAt w g xi xv xs xq xp) (k : Below w.heap.size w w') : OrdAt w' g xi xv xs xq xp := by
  obtain ⟨c0, c1, c2, c3, c4⟩ := h
  have l := World.block_lt_of_cell? _ _ c0
  exact ⟨(k.cell (p := ⟨g, 0, none⟩) l).trans c0, (k.cell (p := ⟨g, 1, none⟩) l).trans c1, (k.cell (p := ⟨g, 2, none⟩) l).trans c2, (k.cell (p := ⟨g, 3, none⟩) l).trans c3, (k.cell (p := ⟨g, 4, none⟩) l).trans c4⟩
theorem op3_new (w : World) (k a b : Int) (t : TypeId) : (w.alloc (.cells #[.int .i64 k, .int .i64 a, .int .i64 b] t)).cell? ⟨w.heap.size, 0, none⟩ = some (.int .i64 k) ∧ (w.alloc (.cells #[.int .i64 k, .int .i64 a, .int .i64 b] t)).cell? ⟨w.heap.size, 1, none⟩ = some (.int .i64 a) ∧ (w.alloc (.cells #[.int .i64 k, .int .i64 a, .int .i64 b] t)).cell? ⟨w.heap.size, 2, none⟩ = some (.int .i64 b) :=
  ⟨by simp, by simp, by simp⟩
/-- A region's condition may be made stronger on the way. -/
theorem anyH_mono {P : Program} {md : Region.Mode} {ops : Array Oper} {Q : Exit → Act → World → Prop} {S S' : World → Prop} (hS : ∀ w, S' w → S w) : ∀ (fuel : Nat) (listed : Array Bool) (a : Act) (w : World), wpAnyH P md ops Q S' fuel listed a w → wpAnyH P md ops Q S fuel listed a w
  | 0, _, _, _, h => h
  | fuel + 1, _, _, _, h => ⟨h.1, fun i hi => wpOp_mono (fun a' w' h' => ⟨hS _ h'.1, anyH_mono hS fuel _ a' w' h'.2⟩) (h.2 i hi)⟩
/-- The child at block n beside the document's, at block g. -/
structure Duo (w wr : World) (n g : Nat) (y : Ch) : Prop where
  bel : Below w.heap.size w wr
  ch : ChAt wr n y
  rf : RfAt wr g y (clm y)
  o1 : w.heap.size ≤ n
  o2 : n < g
theorem Duo.below {w wr wx : World} {n g : Nat} {y : Ch} (h : Duo w wr n g y) (k : Below wr.heap.size wr wx) : Duo w wx n g y := ⟨h.bel.trans (k.mono h.bel.size), h.ch.below k, Box.below h.rf k, h.o1, h.o2⟩
/-- The document's is as it was behind what the program did. -/
theorem Duo.mid {w wr wx : World} {n g : Nat} {y : Ch} (h : Duo w wr n g y) {m : Nat} (k : But (fun i => i = n) (wr.drewN m) wx) : RfAt wx g y (clm y) :=
  Box.kept (Box.below h.rf (below_drewN _ m wr)) k (fun e => by have e' : g = n := e; have := h.o2; omega)
/-- Behind a step of both. -/
theorem Duo.both {w wr w5 w6 : World} {n g : Nat} {y y' : Ch} (h : Duo w wr n g y) {m : Nat} (K5 : ChAt w5 n y') (k5 : But (fun i => i = n) (wr.drewN m) w5) (K6 : Rf w5 w6 g y' (clm y')) : Duo w w6 n g y' := by
  have z5 : wr.heap.size ≤ w5.heap.size := k5.size
  have z := h.bel.size
  refine ⟨?_, K5.kept K6.but (fun e => by have e' : n = g := e; have := h.o2; omega), K6.rf, h.o1, h.o2⟩
  exact ((below_more h.bel m).trans (k5.below z (fun i hi => by have e : i = n := hi; have := h.o1; omega))).trans (K6.but.below (Nat.le_trans z z5) (fun i hi => by have e : i = g := hi; have := h.o1; have := h.o2; omega))
theorem same_eq (zi zv : ByteArray) (zd zs zq zp zn zm zc M : Int) (w : World) : (Op.equalIn 10000 38 (.agg #[.string zi, .string zv, .int .i64 zd, .int .i64 zs, .int .i64 zq, .int .i64 zp, .int .i64 zn, .int .i64 zm, .int .i64 zc, .int .i64 M]) (.agg #[.string zi, .string zv, .int .i64 zd, .int .i64 zs, .int .i64 zq, .int .i64 zp, .int .i64 zn, .int .i64 zm, .int .i64 zc, .int .i64 M])).run Try.prog w = .ok true w := by
  rw [show (10000 : Nat) = 9999 + 1 from rfl, run_equalIn_struct (P := Try.prog) w 9999 _ _ _ (by kernel_rfl) (by kernel_rfl)]
  simp [Program.fieldsOf, Try.underlying38, Op.eqFields, go_sem, Try.underlying3, Try.underlying9]
set_option maxRecDepth 100000 in
set_option maxHeartbeats 16000000 in
theorem plays_walk (w : World) (xi xv : ByteArray) (xs xq xp : Int) (v : Value) (n0 : Nat) (X : Nat → Opc) (h : Ops w v n0 X) : Calls Try.prog 3 #[.agg #[.string xi, .string xv, .int .i64 xs, .int .i64 xq, .int .i64 xp], v] w fun e w' => e = .returned (.bool true) ∧ Below w.heap.size w w' := by
  obtain ⟨ad, cap, rfl, q1, q2, h3⟩ := h
  have H3 : Hid (∀ i, i < n0 → ∃ b off, ad = some ⟨b, off, none⟩ ∧ w.cell? ⟨b, off + i * 3, none⟩ = some (.int .i64 (X i).k) ∧ w.cell? ⟨b, off + i * 3 + 1, none⟩ = some (.int .i64 (X i).a) ∧ w.cell? ⟨b, off + i * 3 + 2, none⟩ = some (.int .i64 (X i).b)) := h3
  clear h3
  unfold maxLen at q2
  have b0 := (Below.refl _ w).alloc (Nat.le_refl _) (.cells #[.string xi, .string xv, .int .i64 xs, .int .i64 xq, .int .i64 xp] 23)
  have F1 := awake_any (w.alloc (.cells #[.string xi, .string xv, .int .i64 xs, .int .i64 xq, .int .i64 xp] 23))
  obtain ⟨gb, hgb⟩ : ∃ gb, gb = w.heap.size := ⟨_, rfl⟩
  have HX : Hid (Below w.heap.size w (w.alloc (.cells #[.string xi, .string xv, .int .i64 xs, .int .i64 xq, .int .i64 xp] 23)) ∧ OrdAt (w.alloc (.cells #[.string xi, .string xv, .int .i64 xs, .int .i64 xq, .int .i64 xp] 23)) gb xi xv xs xq xp) := ⟨b0, by rw [hgb]; exact ord_new w xi xv xs xq xp _⟩
  clear b0
  go_enter Try.func3, Try.ntmps3
  go_wp2_with fail
  refine F1.mono ?_
  rintro e w1 ⟨rfl, hb1⟩
  have HB1 : Hid (Below w.heap.size w w1) := HX.out.1.trans (hb1.mono HX.out.1.size)
  have O1 : Hid (OrdAt w1 gb xi xv xs xq xp) := HX.out.2.below hb1
  clear F1 hb1 HX
  obtain ⟨c0, c1, c2, c3, c4⟩ := O1.out
  go_upto_region 3 with fail
  rw [← hgb]
  clear hgb
  have s0 : (0 : Int) ≤ (xi.size : Int) := by omega
  have s1 : (0 : Int) ≤ (xv.size : Int) := by omega
  by_cases t0 : (200 : Int) < (xi.size : Int)
  · go_wp2_with fail
    go_ret
    exact ⟨rfl, HB1.out⟩
  by_cases t1 : (200 : Int) < (xv.size : Int)
  · go_wp2_with fail
    go_ret
    exact ⟨rfl, HB1.out⟩
  by_cases t2 : (100 : Int) < (n0 : Int)
  · go_wp2_with fail
    go_ret
    exact ⟨rfl, HB1.out⟩
  have F2 := new_any xi xv xs xq xp w1
  go_wp2_with fail
  refine F2.mono ?_
  rintro e w2 ⟨hbad, hgood⟩
  clear F2
  by_cases hN : nwE xi xv xs xq xp = 0
  · obtain ⟨n, rfl, K2, ln, hb2⟩ := hgood hN
    have O2 : Hid (OrdAt w2 gb xi xv xs xq xp) := O1.out.below hb2
    have HB2 : Hid (Below w.heap.size w w2) := HB1.out.trans (hb2.mono HB1.out.size)
    have HK2 : Hid (ChAt w2 n (newC xi xv xs xq xp) ∧ w.heap.size ≤ n) := ⟨K2, Nat.le_trans HB1.out.size ln⟩
    clear hbad hgood K2 ln hb2 HB1 O1 c0 c1 c2 c3 c4
    obtain ⟨c0, c1, c2, c3, c4⟩ := O2.out
    have F3 := newR_any xi xv xs xq xp w2 (by omega) (by omega)
    go_wp2_with fail
    refine F3.mono ?_
    rintro e w3 ⟨_, hgood⟩
    obtain ⟨g, rfl, K3, lg, hb3⟩ := hgood hN
    have I0 : Hid (Duo w w3 n g (newC xi xv xs xq xp)) := by
      have hc : clm (newC xi xv xs xq xp) = xq := by
        rw [clm_op (by show (1 : Int) ≤ 5; omega) HK2.out.1.good]
        show max xq 0 - 0 = xq
        have := HK2.out.1.good.o (by show (1 : Int) ≤ 4; omega)
        have e : (0 : Int) < xq := this
        omega
      exact ⟨HB2.out.trans (hb3.mono HB2.out.size), HK2.out.1.below hb3, by rw [hc]; exact K3, HK2.out.2, Nat.lt_of_lt_of_le HK2.out.1.lt lg⟩
    clear F3 hgood K3 lg hb3 HB2 HK2 O2 c0 c1 c2 c3 c4 hN
    go_wp2_with fail
    generalize newC xi xv xs xq xp = y0 at *
    go_loopw [70] (fun c wr => ∃ (i : Nat) (y : Ch), c = .int .i64 (i : Int) ∧ i ≤ n0 ∧ Hid (Duo w wr n g y)) (fun c _ => n0 - (RowKit.intOf c).toNat)
    case atStart => exact ⟨0, y0, rfl, Nat.zero_le _, I0.out⟩
    case round =>
      clear I0
      obtain ⟨i, y, rfl, hi, I⟩ := hrel
      by_cases hlt : i < n0
      · have t3 : (i : Int) < (n0 : Int) := by omega
        obtain ⟨b1, o1, e1, y0, y1, y2⟩ := H3.out i hlt
        have l1 := World.block_lt_of_cell? _ _ y0
        subst e1
        replace y0 := (I.out.bel.cell (p := ⟨b1, o1 + i * 3, none⟩) l1).trans y0
        replace y1 := (I.out.bel.cell (p := ⟨b1, o1 + i * 3 + 1, none⟩) l1).trans y1
        replace y2 := (I.out.bel.cell (p := ⟨b1, o1 + i * 3 + 2, none⟩) l1).trans y2
        replace l1 := Nat.lt_of_lt_of_le l1 I.out.bel.size
        obtain ⟨x1, hx1⟩ : ∃ x1, X i = x1 := ⟨_, rfl⟩
        rw [hx1] at y0 y1 y2
        clear hx1
        obtain ⟨yk, ya, yb⟩ := x1
        simp only at y0 y1 y2
        go_upto_region 14 with fail
        have bA : Below wr.heap.size wr (wr.alloc (.cells #[.int .i64 yk, .int .i64 ya, .int .i64 yb] 34)) := (Below.refl _ _).alloc (Nat.le_refl _) _
        have I2 : Hid (Duo w (wr.alloc (.cells #[.int .i64 yk, .int .i64 ya, .int .i64 yb] 34)) n g y) := I.out.below bA
        obtain ⟨d0, d1, d2⟩ := op3_new wr yk ya yb 34
        have lx : wr.heap.size < (wr.alloc (.cells #[.int .i64 yk, .int .i64 ya, .int .i64 yb] 34)).heap.size := by simp
        have nP : ¬ (wr.heap.size = n) := by have := I.out.ch.lt; omega
        have nQ : ¬ (wr.heap.size = g) := by have := I.out.rf.lt; omega
        generalize wr.alloc (.cells #[.int .i64 yk, .int .i64 ya, .int .i64 yb] 34) = wB at *
        obtain ⟨gx, hgx⟩ : ∃ g, g = wr.heap.size := ⟨_, rfl⟩
        rw [← hgx] at d0 d1 d2 nP nQ lx
        rw [← hgx]
        clear hgx l1 y0 y1 y2 I bA
        have G1 := fun m => do_any (I2.out.ch.below (below_drewN _ m wB)) yk ya yb
        have G2 := fun m w5 (k : But (fun i => i = n) (wB.drewN m) w5) => doc_any (I2.out.mid k) I2.out.ch.good yk ya yb
        generalize doE y yk ya yb = E at *
        generalize doC y yk ya yb = y' at *
        go_wp2_with fail
        refine wp_region_held_drew (S := fun w' => w'.cell? ⟨gx, 0, none⟩ = some (.int .i64 yk) ∧ w'.cell? ⟨gx, 1, none⟩ = some (.int .i64 ya) ∧ w'.cell? ⟨gx, 2, none⟩ = some (.int .i64 yb)) (by kernel_rfl) ⟨by simpa using d0, by simpa using d1, by simpa using d2⟩ (fun hHeld => ?_)
        refine wpAnyH_take (i := 0) (v := .pointer (some ⟨n, 0, none⟩)) rfl (by kernel_rfl) (by kernel_rfl) (by kernel_rfl) (fun _ _ _ h => h) (Or.inl ⟨by rfl, fun W hSw => by first | (go_simp; done) | (go_simp; simp [*]; done) | (go_simp; rfl)⟩) (by assumption) ?_
        try simp only [Act.put, List.setIfInBounds_toArray, List.set_cons_zero, List.set_cons_succ, List.getElem_toArray, List.getElem_cons_zero]
        refine wpAnyH_take (i := 1) (v := .agg #[.int .i64 yk, .int .i64 ya, .int .i64 yb]) rfl (by kernel_rfl) (by kernel_rfl) (by kernel_rfl) (fun _ _ _ h => h) (Or.inl ⟨by rfl, fun W hSw => by obtain ⟨s0, s1, s2⟩ := hSw; first | (go_simp; done) | (go_simp; simp [*]; done) | (go_simp; rfl)⟩) (by assumption) ?_
        try simp only [Act.put, List.setIfInBounds_toArray, List.set_cons_zero, List.set_cons_succ, List.getElem_toArray, List.getElem_cons_zero, List.getElem_cons_succ]
        refine wpAnyH_take (i := 3) (v := .pointer (some ⟨g, 0, none⟩)) rfl (by kernel_rfl) (by kernel_rfl) (by kernel_rfl) (fun _ _ _ h => h) (Or.inl ⟨by rfl, fun W hSw => by first | (go_simp; done) | (go_simp; simp [*]; done) | (go_simp; rfl)⟩) (by assumption) ?_
        try simp only [Act.put, List.setIfInBounds_toArray, List.set_cons_zero, List.set_cons_succ, List.getElem_toArray, List.getElem_cons_zero, List.getElem_cons_succ]
        refine wpAnyH_take (i := 4) (v := .agg #[.int .i64 yk, .int .i64 ya, .int .i64 yb]) rfl (by kernel_rfl) (by kernel_rfl) (by kernel_rfl) (fun _ _ _ h => h) (Or.inl ⟨by rfl, fun W hSw => by obtain ⟨s0, s1, s2⟩ := hSw; first | (go_simp; done) | (go_simp; simp [*]; done) | (go_simp; rfl)⟩) (by assumption) ?_
        try simp only [Act.put, List.setIfInBounds_toArray, List.set_cons_zero, List.set_cons_succ, List.getElem_toArray, List.getElem_cons_zero, List.getElem_cons_succ]
        refine wpAnyH_ready (rs := [2]) (by kernel_rfl) (by simp) ?_
        refine AllReadyH.cons rfl (fun K hK => ?_) AllReadyH.nil
        go_simp
        refine (G1 _).mono ?_
        rintro e w5 ⟨rfl, K5, k5⟩
        have f0 := (k5.cell (k := gx) (o := 0) lx nP).trans d0
        have f1 := (k5.cell (k := gx) (o := 1) lx nP).trans d1
        have f2 := (k5.cell (k := gx) (o := 2) lx nP).trans d2
        have lx5 : gx < w5.heap.size := Nat.lt_of_lt_of_le lx k5.size
        go_wp2_with fail
        refine hK.out _ _ (⟨f0, f1, f2⟩) (fun hHeld => ?_)
        clear hK K
        try simp only [Act.put, List.setIfInBounds_toArray, List.set_cons_zero, List.set_cons_succ, List.getElem_toArray, List.getElem_cons_zero, List.getElem_cons_succ]
        refine wpAnyH_ready (rs := [5]) (by kernel_rfl) (by simp) ?_
        refine AllReadyH.cons rfl (fun K hK => ?_) AllReadyH.nil
        go_simp
        refine (G2 _ _ k5).mono ?_
        rintro e w6 ⟨rfl, R6⟩
        have j0 := (R6.but.cell (k := gx) (o := 0) lx5 nQ).trans f0
        have j1 := (R6.but.cell (k := gx) (o := 1) lx5 nQ).trans f1
        have j2 := (R6.but.cell (k := gx) (o := 2) lx5 nQ).trans f2
        have lx6 : gx < w6.heap.size := Nat.lt_of_lt_of_le lx5 R6.but.size
        have I6 : Hid (Duo w w6 n g y') := I2.out.both K5 k5 R6
        go_wp2_with fail
        refine hK.out _ _ (⟨j0, j1, j2⟩) (fun hHeld => ?_)
        clear hK K
        try simp only [Act.put, List.setIfInBounds_toArray, List.set_cons_zero, List.set_cons_succ, List.getElem_toArray, List.getElem_cons_zero, List.getElem_cons_succ]
        clear hHeld
        refine anyH_mono (S' := fun W => Below w6.heap.size w6 W) (fun W hW => ⟨(hW.cell (p := ⟨gx, 0, none⟩) lx6).trans j0, (hW.cell (p := ⟨gx, 1, none⟩) lx6).trans j1, (hW.cell (p := ⟨gx, 2, none⟩) lx6).trans j2⟩) _ _ _ _ ?_
        clear G1 G2 K5 k5 R6 d0 d1 d2 f0 f1 f2 j0 j1 j2 lx lx5 lx6 nP nQ I2
        have hHeld : Below w6.heap.size w6 w6 := Below.refl _ _
        have ST : ∀ W, Below w6.heap.size w6 W → Calls Try.prog 11 #[.pointer (some ⟨n, 0, none⟩)] W fun e w' => e = .returned (sV y' (clm y')) ∧ Below w6.heap.size w6 w' := fun W hW => (status_yes (I6.out.ch.below hW)).mono fun _ _ h => ⟨h.1, hW.trans (h.2.mono hW.size)⟩
        have CL : ∀ W, Below w6.heap.size w6 W → Calls Try.prog 12 #[.pointer (some ⟨n, 0, none⟩)] W fun e w' => e = .returned (.int .i64 (clm y')) ∧ Below w6.heap.size w6 w' := fun W hW => (claim_yes (I6.out.ch.below hW)).mono fun _ _ ⟨h1, m, h2⟩ => ⟨h1, by rw [h2]; exact below_more hW m⟩
        have OC : ∀ W, Below w6.heap.size w6 W → Calls Try.prog 13 #[.pointer (some ⟨n, 0, none⟩)] W fun e w' => e = .returned (.bool (opB y'.st)) ∧ Below w6.heap.size w6 w' := fun W hW => (open_yes (I6.out.ch.below hW)).mono fun _ _ h => ⟨h.1, by rw [h.2]; exact hW⟩
        have RO : ∀ W, Below w6.heap.size w6 W → Calls Try.prog 14 #[.int .i64 y'.st] W fun e w' => e = .returned (.bool (opB y'.st)) ∧ Below w6.heap.size w6 w' := fun W hW => (refOpen_any y'.st W).mono fun _ _ h => ⟨h.1, by rw [← h.2]; exact hW⟩
        have CO : ∀ W, Below w6.heap.size w6 W → Calls Try.prog 15 #[.pointer (some ⟨n, 0, none⟩)] W fun e w' => e = .returned (.int .i64 (max y'.p y'.np)) ∧ Below w6.heap.size w6 w' := fun W hW => (cover_yes (I6.out.ch.below hW)).mono fun _ _ ⟨h1, m, h2⟩ => ⟨h1, by rw [h2]; exact below_more hW m⟩
        have RC : ∀ W, Below w6.heap.size w6 W → Calls Try.prog 16 #[.pointer (some ⟨g, 0, none⟩)] W fun e w' => e = .returned (.int .i64 (max y'.p y'.np)) ∧ Below w6.heap.size w6 w' := fun W hW => (coverR_any (Box.below I6.out.rf hW)).mono fun _ _ ⟨h1, m, h2⟩ => ⟨h1, by rw [h2]; exact below_more hW m⟩
        have k0 : w6.cell? ⟨g, 0, none⟩ = some (.string y'.id) := I6.out.rf.cell 0 (by omega)
        have k1 : w6.cell? ⟨g, 1, none⟩ = some (.string y'.ve) := I6.out.rf.cell 1 (by omega)
        have k2 : w6.cell? ⟨g, 2, none⟩ = some (.int .i64 y'.sd) := I6.out.rf.cell 2 (by omega)
        have k3 : w6.cell? ⟨g, 3, none⟩ = some (.int .i64 y'.st) := I6.out.rf.cell 3 (by omega)
        have k4 : w6.cell? ⟨g, 4, none⟩ = some (.int .i64 y'.q) := I6.out.rf.cell 4 (by omega)
        have k5 : w6.cell? ⟨g, 5, none⟩ = some (.int .i64 y'.p) := I6.out.rf.cell 5 (by omega)
        have k6 : w6.cell? ⟨g, 6, none⟩ = some (.int .i64 y'.nq) := I6.out.rf.cell 6 (by omega)
        have k7 : w6.cell? ⟨g, 7, none⟩ = some (.int .i64 y'.np) := I6.out.rf.cell 7 (by omega)
        have k8 : w6.cell? ⟨g, 8, none⟩ = some (.int .i64 y'.c) := I6.out.rf.cell 8 (by omega)
        have k9 : w6.cell? ⟨g, 9, none⟩ = some (.int .i64 (clm y')) := I6.out.rf.cell 9 (by omega)
        have lg : g < w6.heap.size := I6.out.rf.lt
        generalize clm y' = M at ST CL k9
        generalize opB y'.st = ob at OC RO
        generalize max y'.p y'.np = mx at CO RC
        obtain ⟨z, hz⟩ : ∃ z, z = y' := ⟨_, rfl⟩
        rw [← hz] at ST RO k0 k1 k2 k3 k4 k5 k6 k7 k8
        clear hz
        obtain ⟨zi, zv, zd, zs, zq, zp, zn, zm, zc⟩ := z
        simp only at RO k0 k1 k2 k3 k4 k5 k6 k7 k8
        simp only [sV] at ST
        have EQ := same_eq zi zv zd zs zq zp zn zm zc M
        refine wpAnyH_take (i := 6) (v := .bool false) rfl (by kernel_rfl) (by kernel_rfl) (by kernel_rfl) (fun _ _ _ h => h) (Or.inl ⟨by rfl, fun W hSw => by first | (go_simp; done) | (go_simp; simp [*]; done) | (go_simp; rfl)⟩) (by assumption) ?_
        try simp only [Act.put, List.setIfInBounds_toArray, List.set_cons_zero, List.set_cons_succ, List.getElem_toArray, List.getElem_cons_zero, List.getElem_cons_succ]
        refine wpAnyH_take (i := 7) (v := .bool false) rfl (by kernel_rfl) (by kernel_rfl) (by kernel_rfl) (fun _ _ _ h => h) (Or.inl ⟨by rfl, fun W hSw => by first | (go_simp; done) | (go_simp; simp [*]; done) | (go_simp; rfl)⟩) (by assumption) ?_
        try simp only [Act.put, List.setIfInBounds_toArray, List.set_cons_zero, List.set_cons_succ, List.getElem_toArray, List.getElem_cons_zero, List.getElem_cons_succ]
        refine wpAnyH_take (i := 8) (v := .pointer (some ⟨n, 0, none⟩)) rfl (by kernel_rfl) (by kernel_rfl) (by kernel_rfl) (fun _ _ _ h => h) (Or.inl ⟨by rfl, fun W hSw => by first | (go_simp; done) | (go_simp; simp [*]; done) | (go_simp; rfl)⟩) (by assumption) ?_
        try simp only [Act.put, List.setIfInBounds_toArray, List.set_cons_zero, List.set_cons_succ, List.getElem_toArray, List.getElem_cons_zero, List.getElem_cons_succ]
        refine wpAnyH_take (i := 10) (v := .pointer (some ⟨g, 0, none⟩)) rfl (by kernel_rfl) (by kernel_rfl) (by kernel_rfl) (fun _ _ _ h => h) (Or.inl ⟨by rfl, fun W hSw => by first | (go_simp; done) | (go_simp; simp [*]; done) | (go_simp; rfl)⟩) (by assumption) ?_
        try simp only [Act.put, List.setIfInBounds_toArray, List.set_cons_zero, List.set_cons_succ, List.getElem_toArray, List.getElem_cons_zero, List.getElem_cons_succ]
        refine wpAnyH_take (i := 11) (v := .pointer (some ⟨g, 0, none⟩)) rfl (by kernel_rfl) (by kernel_rfl) (by kernel_rfl) (fun _ _ _ h => h) (Or.inl ⟨by rfl, fun W hSw => by first | (go_simp; done) | (go_simp; simp [*]; done) | (go_simp; rfl)⟩) (by assumption) ?_
        try simp only [Act.put, List.setIfInBounds_toArray, List.set_cons_zero, List.set_cons_succ, List.getElem_toArray, List.getElem_cons_zero, List.getElem_cons_succ]
        refine wpAnyH_take (i := 12) (v := .agg #[.string zi, .string zv, .int .i64 zd, .int .i64 zs, .int .i64 zq, .int .i64 zp, .int .i64 zn, .int .i64 zm, .int .i64 zc, .int .i64 M]) rfl (by kernel_rfl) (by kernel_rfl) (by kernel_rfl) (fun _ _ _ h => h) (Or.inl ⟨by rfl, fun W hSw => by have r0 := (hSw.cell (p := ⟨g, 0, none⟩) lg).trans k0; have r1 := (hSw.cell (p := ⟨g, 1, none⟩) lg).trans k1; have r2 := (hSw.cell (p := ⟨g, 2, none⟩) lg).trans k2; have r3 := (hSw.cell (p := ⟨g, 3, none⟩) lg).trans k3; have r4 := (hSw.cell (p := ⟨g, 4, none⟩) lg).trans k4; have r5 := (hSw.cell (p := ⟨g, 5, none⟩) lg).trans k5; have r6 := (hSw.cell (p := ⟨g, 6, none⟩) lg).trans k6; have r7 := (hSw.cell (p := ⟨g, 7, none⟩) lg).trans k7; have r8 := (hSw.cell (p := ⟨g, 8, none⟩) lg).trans k8; have r9 := (hSw.cell (p := ⟨g, 9, none⟩) lg).trans k9; first | (go_simp; done) | (go_simp; simp [*]; done) | (go_simp; rfl)⟩) (by assumption) ?_
        try simp only [Act.put, List.setIfInBounds_toArray, List.set_cons_zero, List.set_cons_succ, List.getElem_toArray, List.getElem_cons_zero, List.getElem_cons_succ]
        refine wpAnyH_ready (rs := [9]) (by kernel_rfl) (by simp) ?_
        refine AllReadyH.cons rfl (fun K hK => ?_) AllReadyH.nil
        go_simp
        refine (ST _ (by assumption)).mono ?_
        rintro e w7 ⟨rfl, hb9⟩
        clear hHeld
        go_wp2_with fail
        refine hK.out _ _ (hb9) (fun hHeld => ?_)
        clear hK K
        try simp only [Act.put, List.setIfInBounds_toArray, List.set_cons_zero, List.set_cons_succ, List.getElem_toArray, List.getElem_cons_zero, List.getElem_cons_succ]
        refine wpAnyH_take (i := 13) (v := .bool false) rfl (by kernel_rfl) (by kernel_rfl) (by kernel_rfl) (fun _ _ _ h => h) (Or.inl ⟨by rfl, fun W hSw => by first | (go_simp; done) | (go_simp; simp [*]; done) | (go_simp; rfl)⟩) (by assumption) ?_
        try simp only [Act.put, List.setIfInBounds_toArray, List.set_cons_zero, List.set_cons_succ, List.getElem_toArray, List.getElem_cons_zero, List.getElem_cons_succ]
        refine wpAnyH_take (i := 14) (v := .bool false) rfl (by kernel_rfl) (by kernel_rfl) (by kernel_rfl) (fun _ _ _ h => h) (Or.inl ⟨by rfl, fun W hSw => by first | (go_simp; done) | (go_simp; simp [*]; done) | (go_simp; rfl)⟩) (by assumption) ?_
        try simp only [Act.put, List.setIfInBounds_toArray, List.set_cons_zero, List.set_cons_succ, List.getElem_toArray, List.getElem_cons_zero, List.getElem_cons_succ]
        refine wpAnyH_take (i := 15) (v := .bool false) rfl (by kernel_rfl) (by kernel_rfl) (by kernel_rfl) (fun _ _ _ h => h) (Or.inl ⟨by rfl, fun W hSw => by first | (go_simp; done) | (go_simp; simp [*]; done) | (go_simp; rfl)⟩) (by assumption) ?_
        try simp only [Act.put, List.setIfInBounds_toArray, List.set_cons_zero, List.set_cons_succ, List.getElem_toArray, List.getElem_cons_zero, List.getElem_cons_succ]
        refine wpAnyH_take (i := 16) (v := .pointer (some ⟨n, 0, none⟩)) rfl (by kernel_rfl) (by kernel_rfl) (by kernel_rfl) (fun _ _ _ h => h) (Or.inl ⟨by rfl, fun W hSw => by first | (go_simp; done) | (go_simp; simp [*]; done) | (go_simp; rfl)⟩) (by assumption) ?_
        try simp only [Act.put, List.setIfInBounds_toArray, List.set_cons_zero, List.set_cons_succ, List.getElem_toArray, List.getElem_cons_zero, List.getElem_cons_succ]
        refine wpAnyH_take (i := 18) (v := .pointer (some ⟨g, 0, none⟩)) rfl (by kernel_rfl) (by kernel_rfl) (by kernel_rfl) (fun _ _ _ h => h) (Or.inl ⟨by rfl, fun W hSw => by first | (go_simp; done) | (go_simp; simp [*]; done) | (go_simp; rfl)⟩) (by assumption) ?_
        try simp only [Act.put, List.setIfInBounds_toArray, List.set_cons_zero, List.set_cons_succ, List.getElem_toArray, List.getElem_cons_zero, List.getElem_cons_succ]
        refine wpAnyH_take (i := 19) (v := .pointer (some ⟨g, 0, none⟩)) rfl (by kernel_rfl) (by kernel_rfl) (by kernel_rfl) (fun _ _ _ h => h) (Or.inl ⟨by rfl, fun W hSw => by first | (go_simp; done) | (go_simp; simp [*]; done) | (go_simp; rfl)⟩) (by assumption) ?_
        try simp only [Act.put, List.setIfInBounds_toArray, List.set_cons_zero, List.set_cons_succ, List.getElem_toArray, List.getElem_cons_zero, List.getElem_cons_succ]
        refine wpAnyH_take (i := 20) (v := .pointer (some ⟨g, 9, none⟩)) rfl (by kernel_rfl) (by kernel_rfl) (by kernel_rfl) (fun _ _ _ h => h) (Or.inl ⟨by rfl, fun W hSw => by first | (go_simp; done) | (go_simp; simp [*]; done) | (go_simp; rfl)⟩) (by assumption) ?_
        try simp only [Act.put, List.setIfInBounds_toArray, List.set_cons_zero, List.set_cons_succ, List.getElem_toArray, List.getElem_cons_zero, List.getElem_cons_succ]
        refine wpAnyH_take (i := 21) (v := .int .i64 M) rfl (by kernel_rfl) (by kernel_rfl) (by kernel_rfl) (fun _ _ _ h => h) (Or.inl ⟨by rfl, fun W hSw => by have r9 := (hSw.cell (p := ⟨g, 9, none⟩) lg).trans k9; first | (go_simp; done) | (go_simp; simp [*]; done) | (go_simp; rfl)⟩) (by assumption) ?_
        try simp only [Act.put, List.setIfInBounds_toArray, List.set_cons_zero, List.set_cons_succ, List.getElem_toArray, List.getElem_cons_zero, List.getElem_cons_succ]
        refine wpAnyH_ready (rs := [17]) (by kernel_rfl) (by simp) ?_
        refine AllReadyH.cons rfl (fun K hK => ?_) AllReadyH.nil
        go_simp
        refine (CL _ (by assumption)).mono ?_
        rintro e w8 ⟨rfl, hb17⟩
        clear hHeld
        go_wp2_with fail
        refine hK.out _ _ (hb17) (fun hHeld => ?_)
        clear hK K
        try simp only [Act.put, List.setIfInBounds_toArray, List.set_cons_zero, List.set_cons_succ, List.getElem_toArray, List.getElem_cons_zero, List.getElem_cons_succ]
        refine wpAnyH_take (i := 22) (v := .bool false) rfl (by kernel_rfl) (by kernel_rfl) (by kernel_rfl) (fun _ _ _ h => h) (Or.inl ⟨by rfl, fun W hSw => by first | (go_simp; done) | (go_simp; simp [*]; done) | (go_simp; rfl)⟩) (by assumption) ?_
        try simp only [Act.put, List.setIfInBounds_toArray, List.set_cons_zero, List.set_cons_succ, List.getElem_toArray, List.getElem_cons_zero, List.getElem_cons_succ]
        refine wpAnyH_take (i := 23) (v := .bool false) rfl (by kernel_rfl) (by kernel_rfl) (by kernel_rfl) (fun _ _ _ h => h) (Or.inl ⟨by rfl, fun W hSw => by first | (go_simp; done) | (go_simp; simp [*]; done) | (go_simp; rfl)⟩) (by assumption) ?_
        try simp only [Act.put, List.setIfInBounds_toArray, List.set_cons_zero, List.set_cons_succ, List.getElem_toArray, List.getElem_cons_zero, List.getElem_cons_succ]
        refine wpAnyH_take (i := 24) (v := .bool false) rfl (by kernel_rfl) (by kernel_rfl) (by kernel_rfl) (fun _ _ _ h => h) (Or.inl ⟨by rfl, fun W hSw => by first | (go_simp; done) | (go_simp; simp [*]; done) | (go_simp; rfl)⟩) (by assumption) ?_
        try simp only [Act.put, List.setIfInBounds_toArray, List.set_cons_zero, List.set_cons_succ, List.getElem_toArray, List.getElem_cons_zero, List.getElem_cons_succ]
        refine wpAnyH_take (i := 25) (v := .pointer (some ⟨n, 0, none⟩)) rfl (by kernel_rfl) (by kernel_rfl) (by kernel_rfl) (fun _ _ _ h => h) (Or.inl ⟨by rfl, fun W hSw => by first | (go_simp; done) | (go_simp; simp [*]; done) | (go_simp; rfl)⟩) (by assumption) ?_
        try simp only [Act.put, List.setIfInBounds_toArray, List.set_cons_zero, List.set_cons_succ, List.getElem_toArray, List.getElem_cons_zero, List.getElem_cons_succ]
        refine wpAnyH_take (i := 27) (v := .pointer (some ⟨g, 0, none⟩)) rfl (by kernel_rfl) (by kernel_rfl) (by kernel_rfl) (fun _ _ _ h => h) (Or.inl ⟨by rfl, fun W hSw => by first | (go_simp; done) | (go_simp; simp [*]; done) | (go_simp; rfl)⟩) (by assumption) ?_
        try simp only [Act.put, List.setIfInBounds_toArray, List.set_cons_zero, List.set_cons_succ, List.getElem_toArray, List.getElem_cons_zero, List.getElem_cons_succ]
        refine wpAnyH_take (i := 28) (v := .pointer (some ⟨g, 0, none⟩)) rfl (by kernel_rfl) (by kernel_rfl) (by kernel_rfl) (fun _ _ _ h => h) (Or.inl ⟨by rfl, fun W hSw => by first | (go_simp; done) | (go_simp; simp [*]; done) | (go_simp; rfl)⟩) (by assumption) ?_
        try simp only [Act.put, List.setIfInBounds_toArray, List.set_cons_zero, List.set_cons_succ, List.getElem_toArray, List.getElem_cons_zero, List.getElem_cons_succ]
        refine wpAnyH_take (i := 29) (v := .pointer (some ⟨g, 3, none⟩)) rfl (by kernel_rfl) (by kernel_rfl) (by kernel_rfl) (fun _ _ _ h => h) (Or.inl ⟨by rfl, fun W hSw => by first | (go_simp; done) | (go_simp; simp [*]; done) | (go_simp; rfl)⟩) (by assumption) ?_
        try simp only [Act.put, List.setIfInBounds_toArray, List.set_cons_zero, List.set_cons_succ, List.getElem_toArray, List.getElem_cons_zero, List.getElem_cons_succ]
        refine wpAnyH_take (i := 30) (v := .int .i64 zs) rfl (by kernel_rfl) (by kernel_rfl) (by kernel_rfl) (fun _ _ _ h => h) (Or.inl ⟨by rfl, fun W hSw => by have r3 := (hSw.cell (p := ⟨g, 3, none⟩) lg).trans k3; first | (go_simp; done) | (go_simp; simp [*]; done) | (go_simp; rfl)⟩) (by assumption) ?_
        try simp only [Act.put, List.setIfInBounds_toArray, List.set_cons_zero, List.set_cons_succ, List.getElem_toArray, List.getElem_cons_zero, List.getElem_cons_succ]
        refine wpAnyH_ready (rs := [26]) (by kernel_rfl) (by simp) ?_
        refine AllReadyH.cons rfl (fun K hK => ?_) AllReadyH.nil
        go_simp
        refine (OC _ (by assumption)).mono ?_
        rintro e w9 ⟨rfl, hb26⟩
        clear hHeld
        go_wp2_with fail
        refine hK.out _ _ (hb26) (fun hHeld => ?_)
        clear hK K
        try simp only [Act.put, List.setIfInBounds_toArray, List.set_cons_zero, List.set_cons_succ, List.getElem_toArray, List.getElem_cons_zero, List.getElem_cons_succ]
        refine wpAnyH_ready (rs := [31]) (by kernel_rfl) (by simp) ?_
        refine AllReadyH.cons rfl (fun K hK => ?_) AllReadyH.nil
        go_simp
        refine (RO _ (by assumption)).mono ?_
        rintro e w10 ⟨rfl, hb31⟩
        clear hHeld
        go_wp2_with fail
        refine hK.out _ _ (hb31) (fun hHeld => ?_)
        clear hK K
        try simp only [Act.put, List.setIfInBounds_toArray, List.set_cons_zero, List.set_cons_succ, List.getElem_toArray, List.getElem_cons_zero, List.getElem_cons_succ]
        refine wpAnyH_take (i := 32) (v := .bool false) rfl (by kernel_rfl) (by kernel_rfl) (by kernel_rfl) (fun _ _ _ h => h) (Or.inl ⟨by rfl, fun W hSw => by first | (go_simp; done) | (go_simp; simp [*]; done) | (go_simp; rfl)⟩) (by assumption) ?_
        try simp only [Act.put, List.setIfInBounds_toArray, List.set_cons_zero, List.set_cons_succ, List.getElem_toArray, List.getElem_cons_zero, List.getElem_cons_succ]
        refine wpAnyH_take (i := 33) (v := .bool false) rfl (by kernel_rfl) (by kernel_rfl) (by kernel_rfl) (fun _ _ _ h => h) (Or.inl ⟨by rfl, fun W hSw => by first | (go_simp; done) | (go_simp; simp [*]; done) | (go_simp; rfl)⟩) (by assumption) ?_
        try simp only [Act.put, List.setIfInBounds_toArray, List.set_cons_zero, List.set_cons_succ, List.getElem_toArray, List.getElem_cons_zero, List.getElem_cons_succ]
        refine wpAnyH_take (i := 34) (v := .bool false) rfl (by kernel_rfl) (by kernel_rfl) (by kernel_rfl) (fun _ _ _ h => h) (Or.inl ⟨by rfl, fun W hSw => by first | (go_simp; done) | (go_simp; simp [*]; done) | (go_simp; rfl)⟩) (by assumption) ?_
        try simp only [Act.put, List.setIfInBounds_toArray, List.set_cons_zero, List.set_cons_succ, List.getElem_toArray, List.getElem_cons_zero, List.getElem_cons_succ]
        refine wpAnyH_take (i := 35) (v := .pointer (some ⟨n, 0, none⟩)) rfl (by kernel_rfl) (by kernel_rfl) (by kernel_rfl) (fun _ _ _ h => h) (Or.inl ⟨by rfl, fun W hSw => by first | (go_simp; done) | (go_simp; simp [*]; done) | (go_simp; rfl)⟩) (by assumption) ?_
        try simp only [Act.put, List.setIfInBounds_toArray, List.set_cons_zero, List.set_cons_succ, List.getElem_toArray, List.getElem_cons_zero, List.getElem_cons_succ]
        refine wpAnyH_take (i := 37) (v := .pointer (some ⟨g, 0, none⟩)) rfl (by kernel_rfl) (by kernel_rfl) (by kernel_rfl) (fun _ _ _ h => h) (Or.inl ⟨by rfl, fun W hSw => by first | (go_simp; done) | (go_simp; simp [*]; done) | (go_simp; rfl)⟩) (by assumption) ?_
        try simp only [Act.put, List.setIfInBounds_toArray, List.set_cons_zero, List.set_cons_succ, List.getElem_toArray, List.getElem_cons_zero, List.getElem_cons_succ]
        refine wpAnyH_ready (rs := [36]) (by kernel_rfl) (by simp) ?_
        refine AllReadyH.cons rfl (fun K hK => ?_) AllReadyH.nil
        go_simp
        refine (CO _ (by assumption)).mono ?_
        rintro e w11 ⟨rfl, hb36⟩
        clear hHeld
        go_wp2_with fail
        refine hK.out _ _ (hb36) (fun hHeld => ?_)
        clear hK K
        try simp only [Act.put, List.setIfInBounds_toArray, List.set_cons_zero, List.set_cons_succ, List.getElem_toArray, List.getElem_cons_zero, List.getElem_cons_succ]
        refine wpAnyH_ready (rs := [38]) (by kernel_rfl) (by simp) ?_
        refine AllReadyH.cons rfl (fun K hK => ?_) AllReadyH.nil
        go_simp
        refine (RC _ (by assumption)).mono ?_
        rintro e w12 ⟨rfl, hb38⟩
        clear hHeld
        go_wp2_with fail
        refine hK.out _ _ (hb38) (fun hHeld => ?_)
        clear hK K
        try simp only [Act.put, List.setIfInBounds_toArray, List.set_cons_zero, List.set_cons_succ, List.getElem_toArray, List.getElem_cons_zero, List.getElem_cons_succ]
        refine wpAnyH_take (i := 39) (v := .bool false) rfl (by kernel_rfl) (by kernel_rfl) (by kernel_rfl) (fun _ _ _ h => h) (Or.inl ⟨by rfl, fun W hSw => by first | (go_simp; done) | (go_simp; simp [*]; done) | (go_simp; rfl)⟩) (by assumption) ?_
        try simp only [Act.put, List.setIfInBounds_toArray, List.set_cons_zero, List.set_cons_succ, List.getElem_toArray, List.getElem_cons_zero, List.getElem_cons_succ]
        refine wpAnyH_take (i := 40) (v := .bool false) rfl (by kernel_rfl) (by kernel_rfl) (by kernel_rfl) (fun _ _ _ h => h) (Or.inl ⟨by rfl, fun W hSw => by first | (go_simp; done) | (go_simp; simp [*]; done) | (go_simp; rfl)⟩) (by assumption) ?_
        try simp only [Act.put, List.setIfInBounds_toArray, List.set_cons_zero, List.set_cons_succ, List.getElem_toArray, List.getElem_cons_zero, List.getElem_cons_succ]
        refine wpAnyH_done (by kernel_rfl) ?_ _
        have I7 : Hid (Duo w w12 n g y') := I6.out.below (by assumption)
        clear I6 ST CL OC RO CO RC EQ
        go_wp2_with fail
        go_roundw
        case rel => exact ⟨i + 1, y', by simp, by omega, I7.out⟩
        case measure => simp [RowKit.intOf]; omega
      · obtain rfl : i = n0 := by omega
        have t3 : ¬ (i : Int) < (i : Int) := by omega
        go_wp2_with fail
        go_ret
        exact ⟨rfl, I.out.bel⟩
  · obtain ⟨rfl, hb2⟩ := hbad hN
    have O2 : Hid (OrdAt w2 gb xi xv xs xq xp) := O1.out.below hb2
    have HB2 : Hid (Below w.heap.size w w2) := HB1.out.trans (hb2.mono HB1.out.size)
    clear hbad hgood hb2 HB1 O1 c0 c1 c2 c3 c4
    obtain ⟨c0, c1, c2, c3, c4⟩ := O2.out
    have F3 := newR_any xi xv xs xq xp w2 (by omega) (by omega)
    have hn1 : (nwE xi xv xs xq xp == 0) = false := beq_false_of_ne hN
    have hn2 : (nwE xi xv xs xq xp != 0) = true := by simp [bne, hn1]
    go_wp2_with fail
    refine F3.mono ?_
    rintro e w3 ⟨hbad, _⟩
    obtain ⟨rfl, hb3⟩ := hbad hN
    have HB3 : Hid (Below w.heap.size w w3) := HB2.out.trans (hb3.mono HB2.out.size)
    clear hbad hb3 F3 HB2 O2 c0 c1 c2 c3 c4
    generalize nwE xi xv xs xq xp = E at *
    go_wp2_with fail
    go_ret
    exact ⟨rfl, HB3.out⟩
theorem childPlays_walk (w : World) (x : Odr) (_hz : x.id.size ≤ maxLen ∧ x.ve.size ≤ maxLen) (v : Value) (n0 : Nat) (X : Nat → Opc) (h : Ops w v n0 X) : Calls Try.prog 3 #[.agg x.cells, v] w fun e w' => e = .returned (.bool true) ∧ Below w.heap.size w w' := plays_walk w x.id x.ve x.sd x.q x.p v n0 X h
theorem childPlays_own : ownKnob Try.prog.godebug = none := by kernel_rfl
theorem childPlays_laidOut : laidOutB Try.prog = true := by kernel_rfl
set_option maxRecDepth 100000 in
theorem childPlays_lifted (os : Os) (started : os.Started) (H : Type) (enc : TypeId × Value → H) :
    ReturnsInHanded {} Try.checked os 3 .any (Rows.childPlaysSpec.pre6 enc Try.prog Try.f3 Rows.childPlaysRow.domain false) (Rows.childPlaysSpec.post enc Try.prog Try.f3 false true false false) := by
  refine returnsInHanded_of_change (C := Try.checked) childPlays_own started (by kernel_rfl) Try.func3
    (ChangeSpec.witness6 (enc := enc) (C := Try.checked) false ⟨#[], #[.agg #[.string ⟨#[]⟩, .string ⟨#[]⟩, .int .i64 0, .int .i64 0, .int .i64 0], .slice none 0 0], []⟩ 8 (by kernel_rfl) (by kernel_rfl) (by kernel_rfl) (by kernel_rfl)) ?_
  intro W base args ds gs before hval0 hW hcnd _
  have hval : ∀ (j : Nat) t v, Try.f3.params[j]? = some t → args[j]? = some v → Value.okWide Try.prog W .any base t v := hval0
  have hW' := hW
  obtain ⟨p, q, hA0, hV, rfl, hfz, hnd⟩ := hW
  have hA : DataW.TrodAll enc Try.prog W 0 (fun _ => true) true Try.f3.params.toList args.toList ds p := hA0
  rw [Try.params3] at hA hval
  obtain ⟨v0, vs0, d0, ds0, p0, q0, hargs, rfl, rfl, h0, r0⟩ := trodAll_cons hA
  obtain ⟨v1, vs1, d1, ds1, p1, q1, rfl, rfl, rfl, h1, r1⟩ := trodAll_cons r0
  obtain ⟨rfl, rfl, rfl⟩ := trodAll_nil r1
  obtain rfl : args = #[v0, v1] := by cases args; simp_all
  obtain ⟨rfl, rfl⟩ := trodVars_none hV
  have k0 := h0
  have lt0 : ∀ x ∈ p0, x.block < W.heap.size := by obtain ⟨m, hm⟩ := k0; exact DataW.trod_lt m _ _ _ hm
  obtain ⟨x0, rfl, hz0⟩ := open_order (hval 0 23 v0 rfl rfl) h0
  obtain ⟨ad1, n1, cap1, rfl⟩ := okWide_slice Try.underlying24 (hval 1 24 v1 rfl rfl)
  have k1 := h1
  have lt1 : ∀ x ∈ p1, x.block < W.heap.size := by obtain ⟨m, hm⟩ := k1; exact DataW.trod_lt m _ _ _ hm
  obtain ⟨X1, ops1⟩ : ∃ X, Ops W (.slice ad1 n1 cap1) n1 X := by obtain ⟨fuel, hf⟩ := h1; exact open_ops hf
  clear hA0 hval0
  simp only [List.append_nil] at hW'
  refine (childPlays_walk W x0 hz0 _ n1 X1 ops1).mono fun e W' ⟨he, bel⟩ => ?_
  subst he
  exact ⟨_, rfl, _, _, _, [], _, [], hW', trodAll_mk1 (shut_bool Try.underlying4 _), (trodAll_cons_mk (Below.trod childPlays_laidOut (by kernel_rfl) (of_decide_eq_true (by kernel_rfl)) k0 bel lt0) (trodAll_cons_mk (Below.trod childPlays_laidOut (by kernel_rfl) (of_decide_eq_true (by kernel_rfl)) k1 bel lt1) trodAll_mk0)), rfl, bel.frame _, fun h => by cases h⟩

/-- THE STATEMENT. -/
theorem childPlays_proved : Rows.ChildPlaysSaid :=
  OpenClaim.holds_of_wide 3 Try.f3 rfl rfl rfl rfl rfl rfl rfl ⟨rfl, rfl, rfl, rfl, rfl⟩ rfl rfl rfl rfl rfl (by kernel_rfl) Try.func3 (by kernel_rfl)
    (of_decide_eq_true (by kernel_rfl)) (by unfold Func.isWrapper; first | (rw [if_pos (by decide +kernel)]; kernel_rfl) | (rw [if_neg (by decide +kernel)]; exact ⟨rfl, rfl⟩))
    (fun os started H enc _ => childPlays_lifted os started H enc)
#print axioms childPlays_proved
end Go.Proofs.Ytkkimkhkoiempaa
