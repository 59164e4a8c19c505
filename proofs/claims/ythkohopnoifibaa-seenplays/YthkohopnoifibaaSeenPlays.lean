/-
  SeenPlays: every play of executions that are met and busted is the document's. For every room and every list of steps, no condition.
-/
import Derived.Test.YthkohopnoifibaaSeAwake
import Derived.Test.YthkohopnoifibaaFrame19
import Derived.Test.YthkohopnoifibaaSeRefBust
import Derived.Deep.RegionHeld3
namespace Go.Proofs.Ythkohopnoifibaa
open Go.ChangeShapes Go.WideShapes Go.ChangeAt Go.RowKit Go.Deep Go.WideElems Go.Lib SE

theorem ref_eq (d : Nat) (x y : Xc) (w : World) : (Op.equalIn (d + 2) 39 (exV x) (exV y)).run Try.prog w = .ok (eqX x y) w := by
  rw [run_equalIn_struct (P := Try.prog) w (d + 1) _ _ _ (by kernel_rfl) (by kernel_rfl)]
  simp [Program.fieldsOf, Try.underlying39, Op.eqFields, go_sem, Try.underlying3, Try.underlying4, Try.underlying9]
  unfold eqX
  rw [← beq_bytes]
  by_cases h1 : x.o.toList = y.o.toList <;> by_cases h2 : x.q = y.q <;> by_cases h3 : x.p = y.p <;> by_cases h4 : x.k = y.k <;> simp [h1, h2, h3, h4]
/-- The Seen at block n beside the document's, at block g. -/
structure Du (w wr : World) (n g : Nat) (b : Sn) (N : Nat → ByteArray) (Y : Nat → Xc) (vv : Value) : Prop where
  bel : Below w.heap.size w wr
  kp : SeenAt wr n b
  rf : RefAt wr g (g + 1) b N Y vv
  o1 : w.heap.size ≤ n
  o2 : n + 1 < g
theorem Du.below {w wr wx : World} {n g : Nat} {b : Sn} {N : Nat → ByteArray} {Y : Nat → Xc} {vv : Value} (h : Du w wr n g b N Y vv) (x : Below wr.heap.size wr wx) : Du w wx n g b N Y vv :=
  ⟨h.bel.trans (x.mono h.bel.size), h.kp.below x, h.rf.below x, h.o1, h.o2⟩
/-- The document's is as it was behind what the program did. -/
theorem Du.mid {w wr wx : World} {n g : Nat} {b : Sn} {N : Nat → ByteArray} {Y : Nat → Xc} {vv : Value} (h : Du w wr n g b N Y vv) {m : Nat} (k : But (fun i => i = n) (wr.drewN m) wx) : RefAt wx g (g + 1) b N Y vv :=
  (h.rf.below (below_drewN _ m wr)).kept k (fun i hi e => by have := (h.rf.has hi).1; have := h.o2; have e' : i = n := e; omega)
/-- Behind a step of both. -/
theorem Du.both {w wr w5 w6 : World} {n g : Nat} {b b' : Sn} {N N' : Nat → ByteArray} {Y Y' : Nat → Xc} {vv v' : Value} (h : Du w wr n g b N Y vv) {m : Nat} (K5 : SeenAt w5 n b') (k5 : But (fun i => i = n) (wr.drewN m) w5) (K6 : RefAt w6 g (g + 1) b' N' Y' v') (k6 : But (ownR g vv) w5 w6) : Du w w6 n g b' N' Y' v' := by
  have z5 : wr.heap.size ≤ w5.heap.size := k5.size
  have z := h.bel.size
  have no : ∀ i, i ≤ n + 1 → ¬ ownR g vv i := fun i hi ho => by have := (h.rf.has ho).1; have := h.o2; omega
  refine ⟨?_, K5.kept k6 (no n (by omega)) (no (n + 1) (by omega)), K6, h.o1, h.o2⟩
  exact ((below_more h.bel m).trans (k5.below z (fun i hi => by have e : i = n := hi; have := h.o1; omega))).trans (k6.below (Nat.le_trans z z5) (fun i hi => by have := (h.rf.has hi).1; have := h.o1; have := h.o2; omega))
/-- Behind a write to a block that is newer than both. -/
theorem Du.aside {w wr wx : World} {n g : Nat} {b : Sn} {N : Nat → ByteArray} {Y : Nat → Xc} {vv : Value} (h : Du w wr n g b N Y vv) {q : Nat} (k : But (fun i => i = q) wr wx) (h1 : n + 1 < q) (h2 : w.heap.size ≤ q) (h3 : ∀ i, ownR g vv i → i < q) : Du w wx n g b N Y vv :=
  ⟨h.bel.trans (k.below h.bel.size (fun i e => by have e' : i = q := e; omega)), h.kp.kept k (fun e => by have e' : n = q := e; omega) (fun e => by have e' : n + 1 = q := e; omega), h.rf.kept k (fun i hi e => by have := h3 i hi; have e' : i = q := e; omega), h.o1, h.o2⟩
theorem at_none {b : Sn} {N : Nat → ByteArray} {Y : Nat → Xc} (h : Rel b N Y) {s : ByteArray} (hL : b.L s = none) {z : Int} (hz : At b N s z) : z = -1 := by
  rcases hz with ⟨i, rfl, hi, rfl⟩ | ⟨rfl, _⟩
  · rw [h.hit i hi] at hL; exact absurd hL (by simp)
  · rfl
theorem at_some {b : Sn} {N : Nat → ByteArray} {Y : Nat → Xc} (h : Rel b N Y) {s : ByteArray} {x : Xc} (hL : b.L s = some x) {z : Int} (hz : At b N s z) : ∃ i : Nat, z = (i : Int) ∧ i < b.c ∧ Y i = x := by
  rcases hz with ⟨i, rfl, hi, rfl⟩ | ⟨rfl, hm⟩
  · rw [h.hit i hi] at hL; exact ⟨i, rfl, hi, Option.some.inj hL⟩
  · rw [h.miss s hm] at hL; exact absurd hL (by simp)
set_option maxRecDepth 100000 in
set_option maxHeartbeats 16000000 in
theorem seenPlays_walk (w : World) (room : Int) (_bd : -9223372036854775808 ≤ room ∧ room ≤ 9223372036854775807) (v : Value) (n0 : Nat) (X : Nat → Opc) (h : Ops w v n0 X) : Calls Try.prog 3 #[.int .i64 room, v] w fun e w' => e = .returned (.bool true) ∧ Below w.heap.size w w' := by
  have HO : Hid (Ops w v n0 X) := h
  obtain ⟨ad, cap, rfl, q1, q2, h3⟩ := h
  have H3 : Hid (∀ i, i < n0 → (∃ b off, ad = some ⟨b, off, none⟩ ∧ w.cell? ⟨b, off + i * 6, none⟩ = some (.int .i64 (X i).k) ∧ w.cell? ⟨b, off + i * 6 + 1, none⟩ = some (.string (X i).n) ∧ w.cell? ⟨b, off + i * 6 + 2, none⟩ = some (.string (X i).x.o) ∧ w.cell? ⟨b, off + i * 6 + 3, none⟩ = some (.int .i64 (X i).x.q) ∧ w.cell? ⟨b, off + i * 6 + 4, none⟩ = some (.int .i64 (X i).x.p) ∧ w.cell? ⟨b, off + i * 6 + 5, none⟩ = some (.bool (X i).x.k)) ∧ (X i).n.size ≤ maxLen ∧ (X i).x.o.size ≤ maxLen) := h3
  clear h3
  unfold maxLen at q2
  have F1 := awake_any w
  go_enter Try.func3, Try.ntmps3
  go_wp2_with fail
  refine F1.mono ?_
  rintro e w1 ⟨rfl, hb1⟩
  have HB1 : Hid (Below w.heap.size w w1) := hb1
  clear F1 hb1
  have F2 := few_any (HO.out.below HB1.out)
  go_wp2_with fail
  refine F2.mono ?_
  rintro e w2 ⟨⟨T, rfl, hT⟩, hb2⟩
  have HB2 : Hid (Below w.heap.size w w2) := HB1.out.trans (hb2.mono HB1.out.size)
  clear F2 hb2 HB1 HO
  cases T
  · go_wp2_with fail
    go_ret
    exact ⟨rfl, HB2.out⟩
  have HS : Hid (fewB n0 X) := hT.out.1 rfl
  clear hT
  by_cases t0 : room < 1
  · have F3 := new_out room w2 (by omega)
    go_wp2_with fail
    refine F3.mono ?_
    rintro e w3 ⟨rfl, rfl⟩
    go_wp2_with fail
    go_ret
    exact ⟨rfl, HB2.out⟩
  by_cases t1 : (4096 : Int) < room
  · have F3 := new_out room w2 (by omega)
    go_wp2_with fail
    refine F3.mono ?_
    rintro e w3 ⟨rfl, rfl⟩
    go_wp2_with fail
    go_ret
    exact ⟨rfl, HB2.out⟩
  obtain ⟨r, rfl⟩ := Int.eq_ofNat_of_zero_le (show 0 ≤ room by omega)
  have F3 := new_in r w2 (by omega) (by omega)
  have HR : Hid (1 ≤ r ∧ r ≤ 4096) := ⟨by omega, by omega⟩
  go_wp2_with fail
  refine F3.mono ?_
  rintro e w3 ⟨rfl, K3, B3, Z3⟩
  have I0 : Hid (Du w (w3.alloc (.cells #[.int .i64 (r : Int), .slice none 0 0] 32)) w2.heap.size w3.heap.size (newS r) (fun _ => ⟨#[]⟩) (fun _ => x0) (.slice none 0 0)) := by
    have b3 : Below w.heap.size w w3 := HB2.out.trans (B3.mono HB2.out.size)
    have b4 : Below w3.heap.size w3 (w3.alloc (.cells #[.int .i64 (r : Int), .slice none 0 0] 32)) := (Below.refl _ _).alloc (Nat.le_refl _) _
    exact ⟨b3.trans (b4.mono b3.size), K3.below b4, ⟨by simp [newS], by simp, by simp, World.ownsRow_nil _ _ _ _, by omega, by simp, new_good HR.out.1 HR.out.2, Rel.start _ _ _⟩, HB2.out.size, by omega⟩
  clear F3 K3 B3 HB2 Z3
  go_upto_region 11 with fail
  generalize w3.alloc (.cells #[.int .i64 (r : Int), .slice none 0 0] 32) = w4 at *
  generalize w3.heap.size = g at *
  generalize w2.heap.size = n at *
  go_wp2_with fail
  go_loopw [47] (fun c wr => ∃ (i : Nat) (b : Sn) (N : Nat → ByteArray) (Y : Nat → Xc) (vv : Value), c = .int .i64 (i : Int) ∧ i ≤ n0 ∧ Hid (Du w wr n g b N Y vv)) (fun c _ => n0 - (RowKit.intOf c).toNat)
  case atStart => exact ⟨0, _, _, _, _, rfl, Nat.zero_le _, I0.out⟩
  case round =>
    clear I0
    obtain ⟨i, b, N, Y, vv, rfl, hi, I⟩ := hrel
    by_cases hlt : i < n0
    · have t1 : (i : Int) < (n0 : Int) := by omega
      obtain ⟨⟨b1, o1, e1, y0, y1, y2, y3, y4, y5⟩, z0, z1⟩ := H3.out i hlt
      have l1 := World.block_lt_of_cell? _ _ y0
      subst e1
      replace y0 := (I.out.bel.cell (p := ⟨b1, o1 + i * 6, none⟩) l1).trans y0
      replace y1 := (I.out.bel.cell (p := ⟨b1, o1 + i * 6 + 1, none⟩) l1).trans y1
      replace y2 := (I.out.bel.cell (p := ⟨b1, o1 + i * 6 + 2, none⟩) l1).trans y2
      replace y3 := (I.out.bel.cell (p := ⟨b1, o1 + i * 6 + 3, none⟩) l1).trans y3
      replace y4 := (I.out.bel.cell (p := ⟨b1, o1 + i * 6 + 4, none⟩) l1).trans y4
      replace y5 := (I.out.bel.cell (p := ⟨b1, o1 + i * 6 + 5, none⟩) l1).trans y5
      replace l1 := Nat.lt_of_lt_of_le l1 I.out.bel.size
      have HZ : Hid (Sml (X i)) := HS.out.2 i hlt
      obtain ⟨x1, hx1⟩ : ∃ x1, X i = x1 := ⟨_, rfl⟩
      rw [hx1] at y0 y1 y2 y3 y4 y5 HZ
      clear hx1 z0 z1
      obtain ⟨yk, yn, ⟨yo, yq, yp, yb⟩⟩ := x1
      simp only at y0 y1 y2 y3 y4 y5
      go_upto_region 14 with fail
      have I2 : Hid (Du w (wr.alloc (.cells #[.int .i64 yk, .string yn, .string yo, .int .i64 yq, .int .i64 yp, .bool yb] 36)) n g b N Y vv) := I.out.below ((Below.refl _ _).alloc (Nat.le_refl _) _)
      have d0 : (wr.alloc (.cells #[.int .i64 yk, .string yn, .string yo, .int .i64 yq, .int .i64 yp, .bool yb] 36)).cell? ⟨wr.heap.size, 0, none⟩ = some (.int .i64 yk) := by go_simp
      have d1 : (wr.alloc (.cells #[.int .i64 yk, .string yn, .string yo, .int .i64 yq, .int .i64 yp, .bool yb] 36)).cell? ⟨wr.heap.size, 1, none⟩ = some (.string yn) := by go_simp
      have d2 : (wr.alloc (.cells #[.int .i64 yk, .string yn, .string yo, .int .i64 yq, .int .i64 yp, .bool yb] 36)).cell? ⟨wr.heap.size, 2, none⟩ = some (.string yo) := by go_simp
      have d3 : (wr.alloc (.cells #[.int .i64 yk, .string yn, .string yo, .int .i64 yq, .int .i64 yp, .bool yb] 36)).cell? ⟨wr.heap.size, 3, none⟩ = some (.int .i64 yq) := by go_simp
      have d4 : (wr.alloc (.cells #[.int .i64 yk, .string yn, .string yo, .int .i64 yq, .int .i64 yp, .bool yb] 36)).cell? ⟨wr.heap.size, 4, none⟩ = some (.int .i64 yp) := by go_simp
      have d5 : (wr.alloc (.cells #[.int .i64 yk, .string yn, .string yo, .int .i64 yq, .int .i64 yp, .bool yb] 36)).cell? ⟨wr.heap.size, 5, none⟩ = some (.bool yb) := by go_simp
      have nP : ¬ (wr.heap.size = n) := by have := I.out.kp.lt; omega
      have nQ : ¬ ownR g vv wr.heap.size := fun e => by have := (I.out.rf.has e).2; omega
      have lx : wr.heap.size < (wr.alloc (.cells #[.int .i64 yk, .string yn, .string yo, .int .i64 yq, .int .i64 yp, .bool yb] 36)).heap.size := by simp
      generalize wr.alloc (.cells #[.int .i64 yk, .string yn, .string yo, .int .i64 yq, .int .i64 yp, .bool yb] 36) = wB at *
      obtain ⟨gx, hgx⟩ : ∃ g, g = wr.heap.size := ⟨_, rfl⟩
      rw [← hgx] at d0 d1 d2 d3 d4 d5 nP nQ lx
      rw [← hgx]
      clear hgx l1 y0 y1 y2 y3 y4 y5 I
      have zz : yn.size ≤ maxLen := by have := HZ.out.1; simp only at this; unfold maxLen; omega
      have z3 : yn.size ≤ 300 := by have := HZ.out.1; simp only at this; omega
      clear HZ
      by_cases k1 : yk = 1
      · subst k1
        obtain ⟨E, hE⟩ : ∃ E, putE b yn = E := ⟨_, rfl⟩
        obtain ⟨b', hb'⟩ : ∃ b', putS b yn ⟨yo, yq, yp, yb⟩ = b' := ⟨_, rfl⟩
        have G1 := fun m => put_walk (I2.out.kp.below (below_drewN _ m wB)) yn zz yo yq yp yb
        have G2 := fun m w5 (k : But (fun i => i = n) (wB.drewN m) w5) => refPut_walk (I2.out.mid k) yn z3 yo yq yp yb
        rw [hE, hb'] at G1 G2
        clear hE hb'
        go_wp2_with fail
        go_region_held3 (fun w' => w'.cell? ⟨gx, 1, none⟩ = some (.string yn) ∧ w'.cell? ⟨gx, 2, none⟩ = some (.string yo) ∧ w'.cell? ⟨gx, 3, none⟩ = some (.int .i64 yq) ∧ w'.cell? ⟨gx, 4, none⟩ = some (.int .i64 yp) ∧ w'.cell? ⟨gx, 5, none⟩ = some (.bool yb)) (go_keep) (first
          | (go_at_call 9; refine (G1 _).mono ?_; rintro e w5 ⟨rfl, K5, k5⟩; have f51 := (k5.cell (k := gx) (o := 1) lx nP).trans d1; have f52 := (k5.cell (k := gx) (o := 2) lx nP).trans d2; have f53 := (k5.cell (k := gx) (o := 3) lx nP).trans d3; have f54 := (k5.cell (k := gx) (o := 4) lx nP).trans d4; have f55 := (k5.cell (k := gx) (o := 5) lx nP).trans d5)
          | (go_at_call 10; refine (G2 _ _ k5).mono ?_; rintro e w6 ⟨rfl, N', Y', v', K6, k6⟩; have f61 := (k6.cell (k := gx) (o := 1) (Nat.lt_of_lt_of_le lx k5.size) nQ).trans f51; have f62 := (k6.cell (k := gx) (o := 2) (Nat.lt_of_lt_of_le lx k5.size) nQ).trans f52; have f63 := (k6.cell (k := gx) (o := 3) (Nat.lt_of_lt_of_le lx k5.size) nQ).trans f53; have f64 := (k6.cell (k := gx) (o := 4) (Nat.lt_of_lt_of_le lx k5.size) nQ).trans f54; have f65 := (k6.cell (k := gx) (o := 5) (Nat.lt_of_lt_of_le lx k5.size) nQ).trans f55))
        have I6 : Hid (Du w w6 n g b' N' Y' v') := I2.out.both K5 k5 K6 k6
        have lx6 : gx < w6.heap.size := Nat.lt_of_lt_of_le (Nat.lt_of_lt_of_le lx k5.size) k6.size
        clear lx d1
        have d1 := f61
        have lx := lx6
        clear G1 G2 K5 k5 K6 k6 I2 d0 d2 d3 d4 d5 f51 f61 f52 f62 f53 f63 f54 f64 f55 f65 nP nQ lx6 z3
        have G := get_any I6.out.kp yn zz
        cases hL : b'.L yn with
        | none =>
          rw [hL] at G
          simp only [exV, tell, Option.getD_none, Option.isSome_none, x0] at G
          go_wp2_with fail
          refine G.mono ?_
          rintro e w7 ⟨rfl, hb7⟩
          have B9 : Below w6.heap.size w6 ((w7.alloc (.cells #[.string ⟨#[]⟩, .int .i64 0, .int .i64 0, .bool false] 34)).alloc (.cells #[.string ⟨#[]⟩, .int .i64 0, .int .i64 0, .bool false] 39)) := (hb7.alloc hb7.size _).alloc (by have := hb7.size; simp; omega) _
          have I9 : Hid (Du w ((w7.alloc (.cells #[.string ⟨#[]⟩, .int .i64 0, .int .i64 0, .bool false] 34)).alloc (.cells #[.string ⟨#[]⟩, .int .i64 0, .int .i64 0, .bool false] 39)) n g b' N' Y' v') := I6.out.below B9
          have X9 : Hid (Box4 ((w7.alloc (.cells #[.string ⟨#[]⟩, .int .i64 0, .int .i64 0, .bool false] 34)).alloc (.cells #[.string ⟨#[]⟩, .int .i64 0, .int .i64 0, .bool false] 39)) w7.heap.size x0) := (Box4.new w7 x0 _).below ((Below.refl _ _).alloc (Nat.le_refl _) _)
          have V9 : Hid (Box4 ((w7.alloc (.cells #[.string ⟨#[]⟩, .int .i64 0, .int .i64 0, .bool false] 34)).alloc (.cells #[.string ⟨#[]⟩, .int .i64 0, .int .i64 0, .bool false] 39)) (w7.heap.size + 1) x0) := by
            have := Box4.new (w7.alloc (.cells #[.string ⟨#[]⟩, .int .i64 0, .int .i64 0, .bool false] 34)) x0 39
            rw [World.size_alloc] at this
            exact this
          replace d1 := (hb7.cell (p := ⟨gx, 1, none⟩) lx).trans d1
          replace lx := Nat.lt_of_lt_of_le lx hb7.size
          clear G hb7 B9 I6
          have G := refFind_any I9.out.rf yn
          go_wp2_with fail
          refine G.mono ?_
          rintro e w8 ⟨⟨z, rfl, hz⟩, rfl⟩
          clear G
          generalize ((w7.alloc (.cells #[.string ⟨#[]⟩, .int .i64 0, .int .i64 0, .bool false] 34)).alloc (.cells #[.string ⟨#[]⟩, .int .i64 0, .int .i64 0, .bool false] 39)) = w9 at *
          generalize w7.heap.size = gy at *
          clear d1 lx
          have k1 := I9.out.rf.c1
          obtain ⟨a, cap', rfl⟩ := own_shape I9.out.rf.own
          have tc : (b'.c : Int) ≤ 4096 := by have := I9.out.kp.good.c1; have := I9.out.kp.good.r2; omega
          obtain rfl := at_none I9.out.rf.rel hL hz
          clear hz hL
          obtain ⟨p0, p1, p2, p3, _, _, _, _⟩ := X9.out
          obtain ⟨s0, s1, s2, s3, _, _, _, _⟩ := V9.out
          simp only [x0] at p0 p1 p2 p3 s0 s1 s2 s3
          have E := fun W => ref_eq 9998 x0 x0 W
          rw [eqX_self] at E
          simp only [exV, x0] at E
          clear X9 V9
          have FC := fun m => count_any (I9.out.kp.below (below_drewN _ m w9))
          go_wp2_with fail
          go_quiet (first | (go_at_call 15; exact Calls.quiet_of_same (FC _)))
          go_wp2_with fail
          go_roundw
          case rel => exact ⟨i + 1, b', N', Y', _, by simp, by omega, I9.out.below (below_drewN _ _ _)⟩
          case measure => simp [RowKit.intOf]; omega
        | some x =>
          rw [hL] at G
          obtain ⟨xo, xq, xp, xk⟩ := x
          simp only [exV, tell, Option.getD_some, Option.isSome_some] at G
          go_wp2_with fail
          refine G.mono ?_
          rintro e w7 ⟨rfl, hb7⟩
          have B9 : Below w6.heap.size w6 ((w7.alloc (.cells #[.string xo, .int .i64 xq, .int .i64 xp, .bool xk] 34)).alloc (.cells #[.string ⟨#[]⟩, .int .i64 0, .int .i64 0, .bool false] 39)) := (hb7.alloc hb7.size _).alloc (by have := hb7.size; simp; omega) _
          have I9 : Hid (Du w ((w7.alloc (.cells #[.string xo, .int .i64 xq, .int .i64 xp, .bool xk] 34)).alloc (.cells #[.string ⟨#[]⟩, .int .i64 0, .int .i64 0, .bool false] 39)) n g b' N' Y' v') := I6.out.below B9
          have X9 : Hid (Box4 ((w7.alloc (.cells #[.string xo, .int .i64 xq, .int .i64 xp, .bool xk] 34)).alloc (.cells #[.string ⟨#[]⟩, .int .i64 0, .int .i64 0, .bool false] 39)) w7.heap.size (⟨xo, xq, xp, xk⟩ : Xc)) := (Box4.new w7 (⟨xo, xq, xp, xk⟩ : Xc) _).below ((Below.refl _ _).alloc (Nat.le_refl _) _)
          have V9 : Hid (Box4 ((w7.alloc (.cells #[.string xo, .int .i64 xq, .int .i64 xp, .bool xk] 34)).alloc (.cells #[.string ⟨#[]⟩, .int .i64 0, .int .i64 0, .bool false] 39)) (w7.heap.size + 1) x0) := by
            have := Box4.new (w7.alloc (.cells #[.string xo, .int .i64 xq, .int .i64 xp, .bool xk] 34)) x0 39
            rw [World.size_alloc] at this
            exact this
          replace d1 := (hb7.cell (p := ⟨gx, 1, none⟩) lx).trans d1
          replace lx := Nat.lt_of_lt_of_le lx hb7.size
          have HL : Hid (n + 1 < w7.heap.size ∧ w.heap.size ≤ w7.heap.size ∧ ∀ k, ownR g v' k → k < w7.heap.size) := ⟨Nat.lt_of_lt_of_le I6.out.kp.lt hb7.size, Nat.le_trans I6.out.bel.size hb7.size, fun k hk => Nat.lt_of_lt_of_le (I6.out.rf.has hk).2 hb7.size⟩
          clear G hb7 B9 I6
          have G := refFind_any I9.out.rf yn
          go_wp2_with fail
          refine G.mono ?_
          rintro e w8 ⟨⟨z, rfl, hz⟩, rfl⟩
          clear G
          generalize ((w7.alloc (.cells #[.string xo, .int .i64 xq, .int .i64 xp, .bool xk] 34)).alloc (.cells #[.string ⟨#[]⟩, .int .i64 0, .int .i64 0, .bool false] 39)) = w9 at *
          generalize w7.heap.size = gy at *
          clear d1 lx
          have k1 := I9.out.rf.c1
          obtain ⟨a, cap', rfl⟩ := own_shape I9.out.rf.own
          have tc : (b'.c : Int) ≤ 4096 := by have := I9.out.kp.good.c1; have := I9.out.kp.good.r2; omega
          obtain ⟨m, rfl, hm, hY⟩ := at_some I9.out.rf.rel hL hz
          clear hz hL
          obtain ⟨q, cq, e, l1, l2, hq, lq, _, _, y1, y2, y3, y4⟩ := I9.out.rf.cells hm
          injection e with e1 _ e3
          subst e1 e3
          rw [hY] at y1 y2 y3 y4
          simp only at y1 y2 y3 y4
          unfold maxLen at l2
          have t2 : (0 : Int) ≤ (m : Int) := by omega
          have t3 : (m : Int) < (b'.c : Int) := by omega
          obtain ⟨s0, s1, s2, s3, f0, f1, f2, f3⟩ := V9.out
          simp only [x0] at s0 s1 s2 s3
          have P9 := (V9.out.put ⟨xo, xq, xp, xk⟩)
          have I10 : Hid (Du w (put4 w9 (gy + 1) ⟨xo, xq, xp, xk⟩) n g b' N' Y' (.slice (some ⟨q, 0, none⟩) b'.c cap')) := I9.out.aside P9.2 (by have := HL.out.1; omega) (by have := HL.out.2.1; omega) (fun k hk => by have := HL.out.2.2 k hk; omega)
          have X10 : Hid (Box4 (put4 w9 (gy + 1) ⟨xo, xq, xp, xk⟩) gy ⟨xo, xq, xp, xk⟩) := X9.out.kept P9.2 (fun e => by have : gy = gy + 1 := e; omega)
          have V10 : Hid (Box4 (put4 w9 (gy + 1) ⟨xo, xq, xp, xk⟩) (gy + 1) ⟨xo, xq, xp, xk⟩) := P9.1
          have H4 : Hid (put4 w9 (gy + 1) ⟨xo, xq, xp, xk⟩ = (((w9.setCell ⟨gy + 1, 0, none⟩ (.string xo)).setCell ⟨gy + 1, 1, none⟩ (.int .i64 xq)).setCell ⟨gy + 1, 2, none⟩ (.int .i64 xp)).setCell ⟨gy + 1, 3, none⟩ (.bool xk)) := rfl
          clear P9 X9 V9 I9 hY HL
          go_upto_region 26 with fail
          rw [← H4.out]
          clear H4 s0 s1 s2 s3 f0 f1 f2 f3 y1 y2 y3 y4 k1
          generalize put4 w9 (gy + 1) ⟨xo, xq, xp, xk⟩ = w10 at *
          have k1 := I10.out.rf.c1
          obtain ⟨p0, p1, p2, p3, _, _, _, _⟩ := X10.out
          obtain ⟨s0, s1, s2, s3, _, _, _, _⟩ := V10.out
          simp only at p0 p1 p2 p3 s0 s1 s2 s3
          have E := fun W => ref_eq 9998 ⟨xo, xq, xp, xk⟩ ⟨xo, xq, xp, xk⟩ W
          rw [eqX_self] at E
          simp only [exV] at E
          clear X10 V10
          have FC := fun m => count_any (I10.out.kp.below (below_drewN _ m w10))
          go_wp2_with fail
          go_quiet (first | (go_at_call 15; exact Calls.quiet_of_same (FC _)))
          go_wp2_with fail
          go_roundw
          case rel => exact ⟨i + 1, b', N', Y', _, by simp, by omega, I10.out.below (below_drewN _ _ _)⟩
          case measure => simp [RowKit.intOf]; omega
      by_cases k2 : yk = 2
      · subst k2
        obtain ⟨E, hE⟩ : ∃ E, bstE b yn = E := ⟨_, rfl⟩
        obtain ⟨b', hb'⟩ : ∃ b', bstS b yn = b' := ⟨_, rfl⟩
        have G1 := fun m => bust_any (I2.out.kp.below (below_drewN _ m wB)) yn zz
        have G2 := fun m w5 (k : But (fun i => i = n) (wB.drewN m) w5) => refBust_any (I2.out.mid k) yn
        rw [hE, hb'] at G1 G2
        clear hE hb'
        go_wp2_with fail
        go_region_held3 (fun w' => w'.cell? ⟨gx, 1, none⟩ = some (.string yn)) (go_keep) (first
          | (go_at_call 11; refine (G1 _).mono ?_; rintro e w5 ⟨rfl, K5, k5⟩; have f51 := (k5.cell (k := gx) (o := 1) lx nP).trans d1)
          | (go_at_call 12; refine (G2 _ _ k5).mono ?_; rintro e w6 ⟨rfl, N', Y', v', K6, k6⟩; have f61 := (k6.cell (k := gx) (o := 1) (Nat.lt_of_lt_of_le lx k5.size) nQ).trans f51))
        have I6 : Hid (Du w w6 n g b' N' Y' v') := I2.out.both K5 k5 K6 k6
        have lx6 : gx < w6.heap.size := Nat.lt_of_lt_of_le (Nat.lt_of_lt_of_le lx k5.size) k6.size
        clear lx d1
        have d1 := f61
        have lx := lx6
        clear G1 G2 K5 k5 K6 k6 I2 d0 d2 d3 d4 d5 f51 f61 nP nQ lx6 z3
        have G := get_any I6.out.kp yn zz
        cases hL : b'.L yn with
        | none =>
          rw [hL] at G
          simp only [exV, tell, Option.getD_none, Option.isSome_none, x0] at G
          go_wp2_with fail
          refine G.mono ?_
          rintro e w7 ⟨rfl, hb7⟩
          have B9 : Below w6.heap.size w6 ((w7.alloc (.cells #[.string ⟨#[]⟩, .int .i64 0, .int .i64 0, .bool false] 34)).alloc (.cells #[.string ⟨#[]⟩, .int .i64 0, .int .i64 0, .bool false] 39)) := (hb7.alloc hb7.size _).alloc (by have := hb7.size; simp; omega) _
          have I9 : Hid (Du w ((w7.alloc (.cells #[.string ⟨#[]⟩, .int .i64 0, .int .i64 0, .bool false] 34)).alloc (.cells #[.string ⟨#[]⟩, .int .i64 0, .int .i64 0, .bool false] 39)) n g b' N' Y' v') := I6.out.below B9
          have X9 : Hid (Box4 ((w7.alloc (.cells #[.string ⟨#[]⟩, .int .i64 0, .int .i64 0, .bool false] 34)).alloc (.cells #[.string ⟨#[]⟩, .int .i64 0, .int .i64 0, .bool false] 39)) w7.heap.size x0) := (Box4.new w7 x0 _).below ((Below.refl _ _).alloc (Nat.le_refl _) _)
          have V9 : Hid (Box4 ((w7.alloc (.cells #[.string ⟨#[]⟩, .int .i64 0, .int .i64 0, .bool false] 34)).alloc (.cells #[.string ⟨#[]⟩, .int .i64 0, .int .i64 0, .bool false] 39)) (w7.heap.size + 1) x0) := by
            have := Box4.new (w7.alloc (.cells #[.string ⟨#[]⟩, .int .i64 0, .int .i64 0, .bool false] 34)) x0 39
            rw [World.size_alloc] at this
            exact this
          replace d1 := (hb7.cell (p := ⟨gx, 1, none⟩) lx).trans d1
          replace lx := Nat.lt_of_lt_of_le lx hb7.size
          clear G hb7 B9 I6
          have G := refFind_any I9.out.rf yn
          go_wp2_with fail
          refine G.mono ?_
          rintro e w8 ⟨⟨z, rfl, hz⟩, rfl⟩
          clear G
          generalize ((w7.alloc (.cells #[.string ⟨#[]⟩, .int .i64 0, .int .i64 0, .bool false] 34)).alloc (.cells #[.string ⟨#[]⟩, .int .i64 0, .int .i64 0, .bool false] 39)) = w9 at *
          generalize w7.heap.size = gy at *
          clear d1 lx
          have k1 := I9.out.rf.c1
          obtain ⟨a, cap', rfl⟩ := own_shape I9.out.rf.own
          have tc : (b'.c : Int) ≤ 4096 := by have := I9.out.kp.good.c1; have := I9.out.kp.good.r2; omega
          obtain rfl := at_none I9.out.rf.rel hL hz
          clear hz hL
          obtain ⟨p0, p1, p2, p3, _, _, _, _⟩ := X9.out
          obtain ⟨s0, s1, s2, s3, _, _, _, _⟩ := V9.out
          simp only [x0] at p0 p1 p2 p3 s0 s1 s2 s3
          have E := fun W => ref_eq 9998 x0 x0 W
          rw [eqX_self] at E
          simp only [exV, x0] at E
          clear X9 V9
          have FC := fun m => count_any (I9.out.kp.below (below_drewN _ m w9))
          go_wp2_with fail
          go_quiet (first | (go_at_call 15; exact Calls.quiet_of_same (FC _)))
          go_wp2_with fail
          go_roundw
          case rel => exact ⟨i + 1, b', N', Y', _, by simp, by omega, I9.out.below (below_drewN _ _ _)⟩
          case measure => simp [RowKit.intOf]; omega
        | some x =>
          rw [hL] at G
          obtain ⟨xo, xq, xp, xk⟩ := x
          simp only [exV, tell, Option.getD_some, Option.isSome_some] at G
          go_wp2_with fail
          refine G.mono ?_
          rintro e w7 ⟨rfl, hb7⟩
          have B9 : Below w6.heap.size w6 ((w7.alloc (.cells #[.string xo, .int .i64 xq, .int .i64 xp, .bool xk] 34)).alloc (.cells #[.string ⟨#[]⟩, .int .i64 0, .int .i64 0, .bool false] 39)) := (hb7.alloc hb7.size _).alloc (by have := hb7.size; simp; omega) _
          have I9 : Hid (Du w ((w7.alloc (.cells #[.string xo, .int .i64 xq, .int .i64 xp, .bool xk] 34)).alloc (.cells #[.string ⟨#[]⟩, .int .i64 0, .int .i64 0, .bool false] 39)) n g b' N' Y' v') := I6.out.below B9
          have X9 : Hid (Box4 ((w7.alloc (.cells #[.string xo, .int .i64 xq, .int .i64 xp, .bool xk] 34)).alloc (.cells #[.string ⟨#[]⟩, .int .i64 0, .int .i64 0, .bool false] 39)) w7.heap.size (⟨xo, xq, xp, xk⟩ : Xc)) := (Box4.new w7 (⟨xo, xq, xp, xk⟩ : Xc) _).below ((Below.refl _ _).alloc (Nat.le_refl _) _)
          have V9 : Hid (Box4 ((w7.alloc (.cells #[.string xo, .int .i64 xq, .int .i64 xp, .bool xk] 34)).alloc (.cells #[.string ⟨#[]⟩, .int .i64 0, .int .i64 0, .bool false] 39)) (w7.heap.size + 1) x0) := by
            have := Box4.new (w7.alloc (.cells #[.string xo, .int .i64 xq, .int .i64 xp, .bool xk] 34)) x0 39
            rw [World.size_alloc] at this
            exact this
          replace d1 := (hb7.cell (p := ⟨gx, 1, none⟩) lx).trans d1
          replace lx := Nat.lt_of_lt_of_le lx hb7.size
          have HL : Hid (n + 1 < w7.heap.size ∧ w.heap.size ≤ w7.heap.size ∧ ∀ k, ownR g v' k → k < w7.heap.size) := ⟨Nat.lt_of_lt_of_le I6.out.kp.lt hb7.size, Nat.le_trans I6.out.bel.size hb7.size, fun k hk => Nat.lt_of_lt_of_le (I6.out.rf.has hk).2 hb7.size⟩
          clear G hb7 B9 I6
          have G := refFind_any I9.out.rf yn
          go_wp2_with fail
          refine G.mono ?_
          rintro e w8 ⟨⟨z, rfl, hz⟩, rfl⟩
          clear G
          generalize ((w7.alloc (.cells #[.string xo, .int .i64 xq, .int .i64 xp, .bool xk] 34)).alloc (.cells #[.string ⟨#[]⟩, .int .i64 0, .int .i64 0, .bool false] 39)) = w9 at *
          generalize w7.heap.size = gy at *
          clear d1 lx
          have k1 := I9.out.rf.c1
          obtain ⟨a, cap', rfl⟩ := own_shape I9.out.rf.own
          have tc : (b'.c : Int) ≤ 4096 := by have := I9.out.kp.good.c1; have := I9.out.kp.good.r2; omega
          obtain ⟨m, rfl, hm, hY⟩ := at_some I9.out.rf.rel hL hz
          clear hz hL
          obtain ⟨q, cq, e, l1, l2, hq, lq, _, _, y1, y2, y3, y4⟩ := I9.out.rf.cells hm
          injection e with e1 _ e3
          subst e1 e3
          rw [hY] at y1 y2 y3 y4
          simp only at y1 y2 y3 y4
          unfold maxLen at l2
          have t2 : (0 : Int) ≤ (m : Int) := by omega
          have t3 : (m : Int) < (b'.c : Int) := by omega
          obtain ⟨s0, s1, s2, s3, f0, f1, f2, f3⟩ := V9.out
          simp only [x0] at s0 s1 s2 s3
          have P9 := (V9.out.put ⟨xo, xq, xp, xk⟩)
          have I10 : Hid (Du w (put4 w9 (gy + 1) ⟨xo, xq, xp, xk⟩) n g b' N' Y' (.slice (some ⟨q, 0, none⟩) b'.c cap')) := I9.out.aside P9.2 (by have := HL.out.1; omega) (by have := HL.out.2.1; omega) (fun k hk => by have := HL.out.2.2 k hk; omega)
          have X10 : Hid (Box4 (put4 w9 (gy + 1) ⟨xo, xq, xp, xk⟩) gy ⟨xo, xq, xp, xk⟩) := X9.out.kept P9.2 (fun e => by have : gy = gy + 1 := e; omega)
          have V10 : Hid (Box4 (put4 w9 (gy + 1) ⟨xo, xq, xp, xk⟩) (gy + 1) ⟨xo, xq, xp, xk⟩) := P9.1
          have H4 : Hid (put4 w9 (gy + 1) ⟨xo, xq, xp, xk⟩ = (((w9.setCell ⟨gy + 1, 0, none⟩ (.string xo)).setCell ⟨gy + 1, 1, none⟩ (.int .i64 xq)).setCell ⟨gy + 1, 2, none⟩ (.int .i64 xp)).setCell ⟨gy + 1, 3, none⟩ (.bool xk)) := rfl
          clear P9 X9 V9 I9 hY HL
          go_upto_region 26 with fail
          rw [← H4.out]
          clear H4 s0 s1 s2 s3 f0 f1 f2 f3 y1 y2 y3 y4 k1
          generalize put4 w9 (gy + 1) ⟨xo, xq, xp, xk⟩ = w10 at *
          have k1 := I10.out.rf.c1
          obtain ⟨p0, p1, p2, p3, _, _, _, _⟩ := X10.out
          obtain ⟨s0, s1, s2, s3, _, _, _, _⟩ := V10.out
          simp only at p0 p1 p2 p3 s0 s1 s2 s3
          have E := fun W => ref_eq 9998 ⟨xo, xq, xp, xk⟩ ⟨xo, xq, xp, xk⟩ W
          rw [eqX_self] at E
          simp only [exV] at E
          clear X10 V10
          have FC := fun m => count_any (I10.out.kp.below (below_drewN _ m w10))
          go_wp2_with fail
          go_quiet (first | (go_at_call 15; exact Calls.quiet_of_same (FC _)))
          go_wp2_with fail
          go_roundw
          case rel => exact ⟨i + 1, b', N', Y', _, by simp, by omega, I10.out.below (below_drewN _ _ _)⟩
          case measure => simp [RowKit.intOf]; omega
      have e1 : (yk == 1) = false := beq_false_of_ne k1
      have e2 : (yk == 2) = false := beq_false_of_ne k2
      obtain ⟨w6, hw6⟩ : ∃ w6, wB = w6 := ⟨_, rfl⟩
      subst hw6
      have I6 := I2
      obtain ⟨b', N', Y', v', I6⟩ : ∃ b' N' Y' v', Hid (Du w wB n g b' N' Y' v') := ⟨_, _, _, _, I2⟩
      clear I2 d2 d3 d4 d5 nP nQ z3 k1 k2
      have G := get_any I6.out.kp yn zz
      cases hL : b'.L yn with
      | none =>
        rw [hL] at G
        simp only [exV, tell, Option.getD_none, Option.isSome_none, x0] at G
        go_wp2_with fail
        refine G.mono ?_
        rintro e w7 ⟨rfl, hb7⟩
        have B9 : Below wB.heap.size wB ((w7.alloc (.cells #[.string ⟨#[]⟩, .int .i64 0, .int .i64 0, .bool false] 34)).alloc (.cells #[.string ⟨#[]⟩, .int .i64 0, .int .i64 0, .bool false] 39)) := (hb7.alloc hb7.size _).alloc (by have := hb7.size; simp; omega) _
        have I9 : Hid (Du w ((w7.alloc (.cells #[.string ⟨#[]⟩, .int .i64 0, .int .i64 0, .bool false] 34)).alloc (.cells #[.string ⟨#[]⟩, .int .i64 0, .int .i64 0, .bool false] 39)) n g b' N' Y' v') := I6.out.below B9
        have X9 : Hid (Box4 ((w7.alloc (.cells #[.string ⟨#[]⟩, .int .i64 0, .int .i64 0, .bool false] 34)).alloc (.cells #[.string ⟨#[]⟩, .int .i64 0, .int .i64 0, .bool false] 39)) w7.heap.size x0) := (Box4.new w7 x0 _).below ((Below.refl _ _).alloc (Nat.le_refl _) _)
        have V9 : Hid (Box4 ((w7.alloc (.cells #[.string ⟨#[]⟩, .int .i64 0, .int .i64 0, .bool false] 34)).alloc (.cells #[.string ⟨#[]⟩, .int .i64 0, .int .i64 0, .bool false] 39)) (w7.heap.size + 1) x0) := by
          have := Box4.new (w7.alloc (.cells #[.string ⟨#[]⟩, .int .i64 0, .int .i64 0, .bool false] 34)) x0 39
          rw [World.size_alloc] at this
          exact this
        replace d1 := (hb7.cell (p := ⟨gx, 1, none⟩) lx).trans d1
        replace lx := Nat.lt_of_lt_of_le lx hb7.size
        clear G hb7 B9 I6
        have G := refFind_any I9.out.rf yn
        go_wp2_with fail
        refine G.mono ?_
        rintro e w8 ⟨⟨z, rfl, hz⟩, rfl⟩
        clear G
        generalize ((w7.alloc (.cells #[.string ⟨#[]⟩, .int .i64 0, .int .i64 0, .bool false] 34)).alloc (.cells #[.string ⟨#[]⟩, .int .i64 0, .int .i64 0, .bool false] 39)) = w9 at *
        generalize w7.heap.size = gy at *
        clear d1 lx
        have k1 := I9.out.rf.c1
        obtain ⟨a, cap', rfl⟩ := own_shape I9.out.rf.own
        have tc : (b'.c : Int) ≤ 4096 := by have := I9.out.kp.good.c1; have := I9.out.kp.good.r2; omega
        obtain rfl := at_none I9.out.rf.rel hL hz
        clear hz hL
        obtain ⟨p0, p1, p2, p3, _, _, _, _⟩ := X9.out
        obtain ⟨s0, s1, s2, s3, _, _, _, _⟩ := V9.out
        simp only [x0] at p0 p1 p2 p3 s0 s1 s2 s3
        have E := fun W => ref_eq 9998 x0 x0 W
        rw [eqX_self] at E
        simp only [exV, x0] at E
        clear X9 V9
        have FC := fun m => count_any (I9.out.kp.below (below_drewN _ m w9))
        go_wp2_with fail
        go_quiet (first | (go_at_call 15; exact Calls.quiet_of_same (FC _)))
        go_wp2_with fail
        go_roundw
        case rel => exact ⟨i + 1, b', N', Y', _, by simp, by omega, I9.out.below (below_drewN _ _ _)⟩
        case measure => simp [RowKit.intOf]; omega
      | some x =>
        rw [hL] at G
        obtain ⟨xo, xq, xp, xk⟩ := x
        simp only [exV, tell, Option.getD_some, Option.isSome_some] at G
        go_wp2_with fail
        refine G.mono ?_
        rintro e w7 ⟨rfl, hb7⟩
        have B9 : Below wB.heap.size wB ((w7.alloc (.cells #[.string xo, .int .i64 xq, .int .i64 xp, .bool xk] 34)).alloc (.cells #[.string ⟨#[]⟩, .int .i64 0, .int .i64 0, .bool false] 39)) := (hb7.alloc hb7.size _).alloc (by have := hb7.size; simp; omega) _
        have I9 : Hid (Du w ((w7.alloc (.cells #[.string xo, .int .i64 xq, .int .i64 xp, .bool xk] 34)).alloc (.cells #[.string ⟨#[]⟩, .int .i64 0, .int .i64 0, .bool false] 39)) n g b' N' Y' v') := I6.out.below B9
        have X9 : Hid (Box4 ((w7.alloc (.cells #[.string xo, .int .i64 xq, .int .i64 xp, .bool xk] 34)).alloc (.cells #[.string ⟨#[]⟩, .int .i64 0, .int .i64 0, .bool false] 39)) w7.heap.size (⟨xo, xq, xp, xk⟩ : Xc)) := (Box4.new w7 (⟨xo, xq, xp, xk⟩ : Xc) _).below ((Below.refl _ _).alloc (Nat.le_refl _) _)
        have V9 : Hid (Box4 ((w7.alloc (.cells #[.string xo, .int .i64 xq, .int .i64 xp, .bool xk] 34)).alloc (.cells #[.string ⟨#[]⟩, .int .i64 0, .int .i64 0, .bool false] 39)) (w7.heap.size + 1) x0) := by
          have := Box4.new (w7.alloc (.cells #[.string xo, .int .i64 xq, .int .i64 xp, .bool xk] 34)) x0 39
          rw [World.size_alloc] at this
          exact this
        replace d1 := (hb7.cell (p := ⟨gx, 1, none⟩) lx).trans d1
        replace lx := Nat.lt_of_lt_of_le lx hb7.size
        have HL : Hid (n + 1 < w7.heap.size ∧ w.heap.size ≤ w7.heap.size ∧ ∀ k, ownR g v' k → k < w7.heap.size) := ⟨Nat.lt_of_lt_of_le I6.out.kp.lt hb7.size, Nat.le_trans I6.out.bel.size hb7.size, fun k hk => Nat.lt_of_lt_of_le (I6.out.rf.has hk).2 hb7.size⟩
        clear G hb7 B9 I6
        have G := refFind_any I9.out.rf yn
        go_wp2_with fail
        refine G.mono ?_
        rintro e w8 ⟨⟨z, rfl, hz⟩, rfl⟩
        clear G
        generalize ((w7.alloc (.cells #[.string xo, .int .i64 xq, .int .i64 xp, .bool xk] 34)).alloc (.cells #[.string ⟨#[]⟩, .int .i64 0, .int .i64 0, .bool false] 39)) = w9 at *
        generalize w7.heap.size = gy at *
        clear d1 lx
        have k1 := I9.out.rf.c1
        obtain ⟨a, cap', rfl⟩ := own_shape I9.out.rf.own
        have tc : (b'.c : Int) ≤ 4096 := by have := I9.out.kp.good.c1; have := I9.out.kp.good.r2; omega
        obtain ⟨m, rfl, hm, hY⟩ := at_some I9.out.rf.rel hL hz
        clear hz hL
        obtain ⟨q, cq, e, l1, l2, hq, lq, _, _, y1, y2, y3, y4⟩ := I9.out.rf.cells hm
        injection e with e1 _ e3
        subst e1 e3
        rw [hY] at y1 y2 y3 y4
        simp only at y1 y2 y3 y4
        unfold maxLen at l2
        have t2 : (0 : Int) ≤ (m : Int) := by omega
        have t3 : (m : Int) < (b'.c : Int) := by omega
        obtain ⟨s0, s1, s2, s3, f0, f1, f2, f3⟩ := V9.out
        simp only [x0] at s0 s1 s2 s3
        have P9 := (V9.out.put ⟨xo, xq, xp, xk⟩)
        have I10 : Hid (Du w (put4 w9 (gy + 1) ⟨xo, xq, xp, xk⟩) n g b' N' Y' (.slice (some ⟨q, 0, none⟩) b'.c cap')) := I9.out.aside P9.2 (by have := HL.out.1; omega) (by have := HL.out.2.1; omega) (fun k hk => by have := HL.out.2.2 k hk; omega)
        have X10 : Hid (Box4 (put4 w9 (gy + 1) ⟨xo, xq, xp, xk⟩) gy ⟨xo, xq, xp, xk⟩) := X9.out.kept P9.2 (fun e => by have : gy = gy + 1 := e; omega)
        have V10 : Hid (Box4 (put4 w9 (gy + 1) ⟨xo, xq, xp, xk⟩) (gy + 1) ⟨xo, xq, xp, xk⟩) := P9.1
        have H4 : Hid (put4 w9 (gy + 1) ⟨xo, xq, xp, xk⟩ = (((w9.setCell ⟨gy + 1, 0, none⟩ (.string xo)).setCell ⟨gy + 1, 1, none⟩ (.int .i64 xq)).setCell ⟨gy + 1, 2, none⟩ (.int .i64 xp)).setCell ⟨gy + 1, 3, none⟩ (.bool xk)) := rfl
        clear P9 X9 V9 I9 hY HL
        go_upto_region 26 with fail
        rw [← H4.out]
        clear H4 s0 s1 s2 s3 f0 f1 f2 f3 y1 y2 y3 y4 k1
        generalize put4 w9 (gy + 1) ⟨xo, xq, xp, xk⟩ = w10 at *
        have k1 := I10.out.rf.c1
        obtain ⟨p0, p1, p2, p3, _, _, _, _⟩ := X10.out
        obtain ⟨s0, s1, s2, s3, _, _, _, _⟩ := V10.out
        simp only at p0 p1 p2 p3 s0 s1 s2 s3
        have E := fun W => ref_eq 9998 ⟨xo, xq, xp, xk⟩ ⟨xo, xq, xp, xk⟩ W
        rw [eqX_self] at E
        simp only [exV] at E
        clear X10 V10
        have FC := fun m => count_any (I10.out.kp.below (below_drewN _ m w10))
        go_wp2_with fail
        go_quiet (first | (go_at_call 15; exact Calls.quiet_of_same (FC _)))
        go_wp2_with fail
        go_roundw
        case rel => exact ⟨i + 1, b', N', Y', _, by simp, by omega, I10.out.below (below_drewN _ _ _)⟩
        case measure => simp [RowKit.intOf]; omega
    · obtain rfl : i = n0 := by omega
      have t1 : ¬ (i : Int) < (i : Int) := by omega
      go_wp2_with fail
      go_ret
      exact ⟨rfl, I.out.bel⟩
theorem seenPlays_own : ownKnob Try.prog.godebug = none := by kernel_rfl
theorem seenPlays_laidOut : laidOutB Try.prog = true := by kernel_rfl
set_option maxRecDepth 100000 in
theorem seenPlays_lifted (os : Os) (started : os.Started) (H : Type) (enc : TypeId × Value → H) :
    ReturnsInHanded {} Try.checked os 3 .any (Rows.seenPlaysSpec.pre6 enc Try.prog Try.f3 Rows.seenPlaysRow.domain false) (Rows.seenPlaysSpec.post enc Try.prog Try.f3 false true false false) := by
  refine returnsInHanded_of_change (C := Try.checked) seenPlays_own started (by kernel_rfl) Try.func3
    (ChangeSpec.witness6 (enc := enc) (C := Try.checked) false ⟨#[], #[.int .i64 0, .slice none 0 0], []⟩ 8 (by kernel_rfl) (by kernel_rfl) (by kernel_rfl) (by kernel_rfl)) ?_
  intro W base args ds gs before hval0 hW hcnd _
  have hval : ∀ (j : Nat) t v, Try.f3.params[j]? = some t → args[j]? = some v → Value.okWide Try.prog W .any base t v := hval0
  have hW' := hW
  obtain ⟨p, q, hA0, hV, rfl, hfz, hnd⟩ := hW
  have hA : DataW.TrodAll enc Try.prog W 0 (fun _ => true) true Try.f3.params.toList args.toList ds p := hA0
  rw [Try.params3] at hA hval
  obtain ⟨v0, vs0, d0, ds0, p0, q0, hargs, rfl, rfl, h0, r0⟩ := trodAll_cons hA
  obtain ⟨v1, vs1, d1, ds1, p1, q1, rfl, rfl, rfl, h1, r1⟩ := trodAll_cons r0
  obtain ⟨rfl, rfl, rfl⟩ := trodAll_nil r1
  obtain rfl : args = #[v0, v1] := by cases args; simp_all
  obtain ⟨rfl, rfl⟩ := trodVars_none hV
  obtain ⟨a0, rfl, rfl, rfl, w0⟩ := open_int Try.underlying3 (hval 0 3 v0 rfl rfl) h0
  have bd0 := bounds_i64 w0
  obtain ⟨ad1, n1, cap1, rfl⟩ := okWide_slice Try.underlying22 (hval 1 22 v1 rfl rfl)
  have k1 := h1
  have lt1 : ∀ x ∈ p1, x.block < W.heap.size := by obtain ⟨m, hm⟩ := k1; exact DataW.trod_lt m _ _ _ hm
  obtain ⟨X1, ops1⟩ : ∃ X, Ops W (.slice ad1 n1 cap1) n1 X := by obtain ⟨fuel, hf⟩ := h1; exact open_ops hf
  clear hA0 hval0
  simp only [List.append_nil, List.nil_append] at hW'
  refine (seenPlays_walk W a0 bd0 _ n1 X1 ops1).mono fun e W' ⟨he, bel⟩ => ?_
  subst he
  exact ⟨_, rfl, _, _, _, [], _, [], hW', trodAll_mk1 (shut_bool Try.underlying4 _), (trodAll_cons_mk (shut_int Try.underlying3 w0) (trodAll_cons_mk (Below.trod seenPlays_laidOut (by kernel_rfl) (of_decide_eq_true (by kernel_rfl)) k1 bel lt1) trodAll_mk0)), rfl, bel.frame _, fun h => by cases h⟩

/-- THE STATEMENT. -/
theorem seenPlays_proved : Rows.SeenPlaysSaid :=
  OpenClaim.holds_of_wide 3 Try.f3 rfl rfl rfl rfl rfl rfl rfl ⟨rfl, rfl, rfl, rfl, rfl⟩ rfl rfl rfl rfl rfl (by kernel_rfl) Try.func3 (by kernel_rfl)
    (of_decide_eq_true (by kernel_rfl)) (by unfold Func.isWrapper; first | (rw [if_pos (by decide +kernel)]; kernel_rfl) | (rw [if_neg (by decide +kernel)]; exact ⟨rfl, rfl⟩))
    (fun os started H enc _ => seenPlays_lifted os started H enc)
#print axioms seenPlays_proved
end Go.Proofs.Ythkohopnoifibaa
