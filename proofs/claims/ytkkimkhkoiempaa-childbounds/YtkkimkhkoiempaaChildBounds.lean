/-
  ChildBounds: what is executed and what may still be are together never more than was ever asked for. For everything that a child is made of and every list of steps, no condition.
-/
import Derived.Test.YtkkimkhkoiempaaChAwake
import Derived.Test.YtkkimkhkoiempaaChDo
import Derived.Test.YtkkimkhkoiempaaChBoundMath
import Derived.Test.YtkkimkhkoiempaaFrame21
import Derived.Laws.StructEq
namespace Go.Proofs.Ytkkimkhkoiempaa
open Go.ChangeShapes Go.WideShapes Go.ChangeAt Go.RowKit Go.Deep Go.WideElems Go.Lib MA CH

/-- A block holds what a child is made of. -/
def OrdAt (w : World) (g : Nat) (xi xv : ByteArray) (xs xq xp : Int) : Prop :=
  w.cell? ⟨g, 0, none⟩ = some (.string xi) ∧ w.cell? ⟨g, 1, none⟩ = some (.string xv) ∧ w.cell? ⟨g, 2, none⟩ = some (.int .i64 xs) ∧ w.cell? ⟨g, 3, none⟩ = some (.int .i64 xq) ∧ w.cell? ⟨g, 4, none⟩ = some (.int .i64 xp)
theorem ord_new (w : World) (xi xv : ByteArray) (xs xq xp : Int) (t : TypeId) : OrdAt (w.alloc (.cells #[.string xi, .string xv, .int .i64 xs, .int .i64 xq, .int .i64 xp] t)) w.heap.size xi xv xs xq xp :=
  ⟨by simp, by simp, by simp, by simp, by simp⟩
theorem OrdAt.below {w w' : World} {g : Nat} {xi xv : ByteArray} {xs xq xp : Int} (h : OrdAt w g xi xv xs xq xp) (k : Below w.heap.size w w') : OrdAt w' g xi xv xs xq xp := by
  obtain ⟨c0, c1, c2, c3, c4⟩ := h
  have l := World.block_lt_of_cell? _ _ c0
  exact ⟨(k.cell (p := ⟨g, 0, none⟩) l).trans c0, (k.cell (p := ⟨g, 1, none⟩) l).trans c1, (k.cell (p := ⟨g, 2, none⟩) l).trans c2, (k.cell (p := ⟨g, 3, none⟩) l).trans c3, (k.cell (p := ⟨g, 4, none⟩) l).trans c4⟩
theorem op3_new (w : World) (k a b : Int) (t : TypeId) : (w.alloc (.cells #[.int .i64 k, .int .i64 a, .int .i64 b] t)).cell? ⟨w.heap.size, 0, none⟩ = some (.int .i64 k) ∧ (w.alloc (.cells #[.int .i64 k, .int .i64 a, .int .i64 b] t)).cell? ⟨w.heap.size, 1, none⟩ = some (.int .i64 a) ∧ (w.alloc (.cells #[.int .i64 k, .int .i64 a, .int .i64 b] t)).cell? ⟨w.heap.size, 2, none⟩ = some (.int .i64 b) :=
  ⟨by simp, by simp, by simp⟩
/-- The child at block n, the greatest quantity that was asked for. -/
structure Bnd (w wr : World) (n : Nat) (y : Ch) (mo : Int) : Prop where
  bel : Below w.heap.size w wr
  ch : ChAt wr n y
  ge : w.heap.size ≤ n
  le : CH.sum y ≤ mo
theorem Bnd.below {w wr wx : World} {n : Nat} {y : Ch} {mo : Int} (h : Bnd w wr n y mo) (k : Below wr.heap.size wr wx) : Bnd w wx n y mo := ⟨h.bel.trans (k.mono h.bel.size), h.ch.below k, h.ge, h.le⟩
theorem Bnd.step {w wr wx : World} {n : Nat} {y y' : Ch} {mo mo' : Int} (h : Bnd w wr n y mo) (k : ChAt wx n y') (x : But (fun i => i = n) wr wx) (hm : CH.sum y' ≤ mo') : Bnd w wx n y' mo' :=
  ⟨h.bel.trans (x.below h.bel.size (fun i hi => by have e : i = n := hi; have := h.ge; omega)), k, h.ge, hm⟩
set_option maxRecDepth 100000 in
set_option maxHeartbeats 16000000 in
theorem bounds_walk (w : World) (xi xv : ByteArray) (xs xq xp : Int) (v : Value) (n0 : Nat) (X : Nat → Opc) (h : Ops w v n0 X) : Calls Try.prog 5 #[.agg #[.string xi, .string xv, .int .i64 xs, .int .i64 xq, .int .i64 xp], v] w fun e w' => e = .returned (.bool true) ∧ Below w.heap.size w w' := by
  obtain ⟨ad, cap, rfl, q1, q2, h3⟩ := h
  have H3 : Hid (∀ i, i < n0 → ∃ b off, ad = some ⟨b, off, none⟩ ∧ w.cell? ⟨b, off + i * 3, none⟩ = some (.int .i64 (X i).k) ∧ w.cell? ⟨b, off + i * 3 + 1, none⟩ = some (.int .i64 (X i).a) ∧ w.cell? ⟨b, off + i * 3 + 2, none⟩ = some (.int .i64 (X i).b)) := h3
  clear h3
  unfold maxLen at q2
  have b0 := (Below.refl _ w).alloc (Nat.le_refl _) (.cells #[.string xi, .string xv, .int .i64 xs, .int .i64 xq, .int .i64 xp] 23)
  have F1 := awake_any (w.alloc (.cells #[.string xi, .string xv, .int .i64 xs, .int .i64 xq, .int .i64 xp] 23))
  obtain ⟨gb, hgb⟩ : ∃ gb, gb = w.heap.size := ⟨_, rfl⟩
  have HX : Hid (Below w.heap.size w (w.alloc (.cells #[.string xi, .string xv, .int .i64 xs, .int .i64 xq, .int .i64 xp] 23)) ∧ OrdAt (w.alloc (.cells #[.string xi, .string xv, .int .i64 xs, .int .i64 xq, .int .i64 xp] 23)) gb xi xv xs xq xp) := ⟨b0, by rw [hgb]; exact ord_new w xi xv xs xq xp _⟩
  clear b0
  go_enter Try.func5, Try.ntmps5
  go_wp2_with fail
  refine F1.mono ?_
  rintro e w1 ⟨rfl, hb1⟩
  have HB1 : Hid (Below w.heap.size w w1) := HX.out.1.trans (hb1.mono HX.out.1.size)
  have O1 : Hid (OrdAt w1 gb xi xv xs xq xp) := HX.out.2.below hb1
  clear F1 hb1 HX
  obtain ⟨c0, c1, c2, c3, c4⟩ := O1.out
  go_upto_region 3 with fail
  rw [← hgb]
  clear hgb
  have s0 : (0 : Int) ≤ (xi.size : Int) := by omega
  have s1 : (0 : Int) ≤ (xv.size : Int) := by omega
  by_cases t0 : (200 : Int) < (xi.size : Int)
  · go_wp2_with fail
    go_ret
    exact ⟨rfl, HB1.out⟩
  by_cases t1 : (200 : Int) < (xv.size : Int)
  · go_wp2_with fail
    go_ret
    exact ⟨rfl, HB1.out⟩
  by_cases t2 : (100 : Int) < (n0 : Int)
  · go_wp2_with fail
    go_ret
    exact ⟨rfl, HB1.out⟩
  have F2 := new_any xi xv xs xq xp w1
  go_wp2_with fail
  refine F2.mono ?_
  rintro e w2 ⟨hbad, hgood⟩
  clear F2
  by_cases hN : nwE xi xv xs xq xp = 0
  · obtain ⟨n, rfl, K2, ln, hb2⟩ := hgood hN
    have I0 : Hid (Bnd w w2 n (newC xi xv xs xq xp) xq) := ⟨HB1.out.trans (hb2.mono HB1.out.size), K2, Nat.le_trans HB1.out.size ln, by rw [sum_op K2.good (by show (1 : Int) ≤ 5; omega)]; show max xq 0 ≤ xq; have := K2.good.o (by show (1 : Int) ≤ 4; omega); have e : (0 : Int) < xq := this; omega⟩
    have I1 : Hid (CH.sum (newC xi xv xs xq xp) = xq) := by show CH.sum _ = _; rw [sum_op K2.good (by show (1 : Int) ≤ 5; omega)]; show max xq 0 = xq; have := K2.good.o (by show (1 : Int) ≤ 4; omega); have e : (0 : Int) < xq := this; omega
    have O2 : Hid (OrdAt w2 gb xi xv xs xq xp) := O1.out.below hb2
    clear hbad hgood K2 ln hb2 HB1 O1 c0 c1 c2 c3 c4 hN
    obtain ⟨c0, c1, c2, c3, c4⟩ := O2.out
    go_wp2_with fail
    clear c0 c1 c2 c3 c4 O2
    generalize newC xi xv xs xq xp = y0 at *
    go_loopw [7, 8, 55] (fun mv lv c wr => ∃ (i : Nat) (y : Ch) (mo la : Int), mv = .int .i64 mo ∧ lv = .int .i64 la ∧ c = .int .i64 (i : Int) ∧ i ≤ n0 ∧ Hid (CH.sum y = la) ∧ Hid (Bnd w wr n y mo)) (fun _ _ c _ => n0 - (RowKit.intOf c).toNat)
    case atStart => exact ⟨0, y0, xq, xq, rfl, rfl, rfl, Nat.zero_le _, I1.out, I0.out⟩
    case round =>
      clear I0 I1
      obtain ⟨i, y, mo, la, rfl, rfl, rfl, hi, HL, I⟩ := hrel
      by_cases hlt : i < n0
      · have t3 : (i : Int) < (n0 : Int) := by omega
        obtain ⟨b1, o1, e1, y0, y1, y2⟩ := H3.out i hlt
        have l1 := World.block_lt_of_cell? _ _ y0
        subst e1
        replace y0 := (I.out.bel.cell (p := ⟨b1, o1 + i * 3, none⟩) l1).trans y0
        replace y1 := (I.out.bel.cell (p := ⟨b1, o1 + i * 3 + 1, none⟩) l1).trans y1
        replace y2 := (I.out.bel.cell (p := ⟨b1, o1 + i * 3 + 2, none⟩) l1).trans y2
        replace l1 := Nat.lt_of_lt_of_le l1 I.out.bel.size
        obtain ⟨x1, hx1⟩ : ∃ x1, X i = x1 := ⟨_, rfl⟩
        rw [hx1] at y0 y1 y2
        clear hx1
        obtain ⟨yk, ya, yb⟩ := x1
        simp only at y0 y1 y2
        go_upto_region 13 with fail
        have bA : Below wr.heap.size wr (wr.alloc (.cells #[.int .i64 yk, .int .i64 ya, .int .i64 yb] 34)) := (Below.refl _ _).alloc (Nat.le_refl _) _
        have I2 : Hid (Bnd w (wr.alloc (.cells #[.int .i64 yk, .int .i64 ya, .int .i64 yb] 34)) n y mo) := I.out.below bA
        obtain ⟨d0, d1, d2⟩ := op3_new wr yk ya yb 34
        have lx : wr.heap.size < (wr.alloc (.cells #[.int .i64 yk, .int .i64 ya, .int .i64 yb] 34)).heap.size := by simp
        have nP : ¬ (wr.heap.size = n) := by have := I.out.ch.lt; omega
        generalize wr.alloc (.cells #[.int .i64 yk, .int .i64 ya, .int .i64 yb] 34) = wB at *
        obtain ⟨gx, hgx⟩ : ∃ g, g = wr.heap.size := ⟨_, rfl⟩
        rw [← hgx] at d0 d1 d2 nP lx
        rw [← hgx]
        clear hgx l1 y0 y1 y2 I bA
        have SD := sum_do (k := yk) (a := ya) (b := yb) I2.out.ch.good
        have HSD : Hid ((¬ doE y yk ya yb = 0 → doC y yk ya yb = y) ∧ (¬ yk = 10 → CH.sum (doC y yk ya yb) ≤ CH.sum y) ∧ (yk = 10 → doE y yk ya yb = 0 → CH.sum (doC y yk ya yb) ≤ max (CH.sum y) ya)) := SD
        have F := do_any I2.out.ch yk ya yb
        clear SD
        generalize doE y yk ya yb = E at *
        obtain ⟨y', hy'⟩ : ∃ y', doC y yk ya yb = y' := ⟨_, rfl⟩
        rw [hy'] at F HSD
        clear hy'
        go_wp2_with fail
        refine F.mono ?_
        rintro e w5 ⟨rfl, K5, k5⟩
        have HK5 : Hid (ChAt w5 n y' ∧ But (fun i => i = n) wB w5) := ⟨K5, k5⟩
        replace d0 := (k5.cell (k := gx) (o := 0) lx nP).trans d0
        replace d1 := (k5.cell (k := gx) (o := 1) lx nP).trans d1
        replace d2 := (k5.cell (k := gx) (o := 2) lx nP).trans d2
        replace lx := Nat.lt_of_lt_of_le lx k5.size
        have G := status_yes K5
        have HQ : Hid (0 ≤ clm y' ∧ CH.sum y' = y'.c + clm y' ∧ (opB y'.st = false → clm y' = 0) ∧ 0 ≤ y'.c ∧ CH.sum y' ≤ 1099511627776) := ⟨clm_ge K5.good, rfl, shut_zero, K5.good.c.1, (sum_le K5.good).1⟩
        have O := fun (W : World) (hW : Below w5.heap.size w5 W) => open_yes (K5.below hW)
        clear F K5 k5
        generalize clm y' = M at *
        generalize opB y'.st = ob at *
        obtain ⟨C, hC⟩ : ∃ C, y'.c = C := ⟨_, rfl⟩
        rw [hC] at HQ
        obtain ⟨z, hz⟩ : ∃ z, z = y' := ⟨_, rfl⟩
        rw [← hz] at G hC
        clear hz
        obtain ⟨zi, zv, zd, zs, zq, zp, zn, zm, zc⟩ := z
        simp only at hC
        subst hC
        simp only [sV] at G
        have HM : Hid (CH.sum y' = zc + M) := HQ.out.2.1
        have hM0 : ¬ M < 0 := by have := HQ.out.1; omega
        have hC0 : ¬ zc < 0 := by have := HQ.out.2.2.2.1; omega
        have hwr : IntKind.i64.wrap (zc + M) = zc + M := by have := HQ.out.2.1; have := HQ.out.2.2.2.2; rw [IntKind.wrap_i64]; omega
        cases ob
        · obtain rfl : M = 0 := HQ.out.2.2.1 rfl
          simp only [Int.add_zero] at hwr HM
          by_cases k10 : yk = 10
          · subst k10
            by_cases e0 : E = 0
            · subst e0
              have HS : Hid (CH.sum y' ≤ max la ya) := by have := HSD.out.2.2 rfl rfl; rw [HL.out] at this; exact this
              have q1 : ¬ max mo ya < zc := by have := HS.out; have := HM.out; have := I2.out.le; have := HL.out; omega
              by_cases q3 : la < zc
              · have q4 := q3
                go_wp2_with fail
                refine G.mono ?_
                rintro e w6 ⟨rfl, hb6⟩
                have bS : Below w5.heap.size w5 (w6.alloc (.cells #[.string zi, .string zv, .int .i64 zd, .int .i64 zs, .int .i64 zq, .int .i64 zp, .int .i64 zn, .int .i64 zm, .int .i64 zc, .int .i64 0] 39)) := hb6.alloc hb6.size _
                have HB6 : Hid (Below w5.heap.size w5 (w6.alloc (.cells #[.string zi, .string zv, .int .i64 zd, .int .i64 zs, .int .i64 zq, .int .i64 zp, .int .i64 zn, .int .i64 zm, .int .i64 zc, .int .i64 0] 39))) := bS
                have f0 := (bS.cell (p := ⟨gx, 0, none⟩) lx).trans d0
                have f1 := (bS.cell (p := ⟨gx, 1, none⟩) lx).trans d1
                have u8 : (w6.alloc (.cells #[.string zi, .string zv, .int .i64 zd, .int .i64 zs, .int .i64 zq, .int .i64 zp, .int .i64 zn, .int .i64 zm, .int .i64 zc, .int .i64 0] 39)).cell? ⟨w6.heap.size, 8, none⟩ = some (.int .i64 zc) := by simp
                have u9 : (w6.alloc (.cells #[.string zi, .string zv, .int .i64 zd, .int .i64 zs, .int .i64 zq, .int .i64 zp, .int .i64 zn, .int .i64 zm, .int .i64 zc, .int .i64 0] 39)).cell? ⟨w6.heap.size, 9, none⟩ = some (.int .i64 0) := by simp
                have O1 := O _ bS
                clear G O hb6 bS d0 d1 d2
                go_upto_region 17 with fail
                generalize w6.alloc (.cells #[.string zi, .string zv, .int .i64 zd, .int .i64 zs, .int .i64 zq, .int .i64 zp, .int .i64 zn, .int .i64 zm, .int .i64 zc, .int .i64 0] 39) = w7 at *
                generalize w6.heap.size = gs at *
                go_wp2_with fail
                refine O1.mono ?_
                rintro e w7 ⟨rfl, rfl⟩
                clear O1
                go_wp2_with fail
                go_roundw
                case rel => exact ⟨i + 1, y', max mo ya, zc, rfl, rfl, by simp, by omega, HM.out, (I2.out.step HK5.out.1 HK5.out.2 (by rw [HM.out]; omega)).below HB6.out⟩
                case measure => simp [RowKit.intOf]; omega
              · have q4 := q3
                go_wp2_with fail
                refine G.mono ?_
                rintro e w6 ⟨rfl, hb6⟩
                have bS : Below w5.heap.size w5 (w6.alloc (.cells #[.string zi, .string zv, .int .i64 zd, .int .i64 zs, .int .i64 zq, .int .i64 zp, .int .i64 zn, .int .i64 zm, .int .i64 zc, .int .i64 0] 39)) := hb6.alloc hb6.size _
                have HB6 : Hid (Below w5.heap.size w5 (w6.alloc (.cells #[.string zi, .string zv, .int .i64 zd, .int .i64 zs, .int .i64 zq, .int .i64 zp, .int .i64 zn, .int .i64 zm, .int .i64 zc, .int .i64 0] 39))) := bS
                have f0 := (bS.cell (p := ⟨gx, 0, none⟩) lx).trans d0
                have f1 := (bS.cell (p := ⟨gx, 1, none⟩) lx).trans d1
                have u8 : (w6.alloc (.cells #[.string zi, .string zv, .int .i64 zd, .int .i64 zs, .int .i64 zq, .int .i64 zp, .int .i64 zn, .int .i64 zm, .int .i64 zc, .int .i64 0] 39)).cell? ⟨w6.heap.size, 8, none⟩ = some (.int .i64 zc) := by simp
                have u9 : (w6.alloc (.cells #[.string zi, .string zv, .int .i64 zd, .int .i64 zs, .int .i64 zq, .int .i64 zp, .int .i64 zn, .int .i64 zm, .int .i64 zc, .int .i64 0] 39)).cell? ⟨w6.heap.size, 9, none⟩ = some (.int .i64 0) := by simp
                have O1 := O _ bS
                clear G O hb6 bS d0 d1 d2
                go_upto_region 17 with fail
                generalize w6.alloc (.cells #[.string zi, .string zv, .int .i64 zd, .int .i64 zs, .int .i64 zq, .int .i64 zp, .int .i64 zn, .int .i64 zm, .int .i64 zc, .int .i64 0] 39) = w7 at *
                generalize w6.heap.size = gs at *
                go_wp2_with fail
                refine O1.mono ?_
                rintro e w7 ⟨rfl, rfl⟩
                clear O1
                go_wp2_with fail
                go_roundw
                case rel => exact ⟨i + 1, y', max mo ya, zc, rfl, rfl, by simp, by omega, HM.out, (I2.out.step HK5.out.1 HK5.out.2 (by rw [HM.out]; omega)).below HB6.out⟩
                case measure => simp [RowKit.intOf]; omega
            · have e1 : (E == 0) = false := beq_false_of_ne e0
              have e2 : (E != 0) = true := by simp [bne, e1]
              have HS : Hid (CH.sum y' = la) := by have := HSD.out.1 e0; show CH.sum y' = la; rw [this]; exact HL.out
              have q1 : ¬ mo < zc := by have := HS.out; have := HM.out; have := I2.out.le; have := HL.out; omega
              obtain rfl : zc = la := by have := HS.out; have := HM.out; omega
              go_wp2_with fail
              refine G.mono ?_
              rintro e w6 ⟨rfl, hb6⟩
              have bS : Below w5.heap.size w5 (w6.alloc (.cells #[.string zi, .string zv, .int .i64 zd, .int .i64 zs, .int .i64 zq, .int .i64 zp, .int .i64 zn, .int .i64 zm, .int .i64 zc, .int .i64 0] 39)) := hb6.alloc hb6.size _
              have HB6 : Hid (Below w5.heap.size w5 (w6.alloc (.cells #[.string zi, .string zv, .int .i64 zd, .int .i64 zs, .int .i64 zq, .int .i64 zp, .int .i64 zn, .int .i64 zm, .int .i64 zc, .int .i64 0] 39))) := bS
              have f0 := (bS.cell (p := ⟨gx, 0, none⟩) lx).trans d0
              have f1 := (bS.cell (p := ⟨gx, 1, none⟩) lx).trans d1
              have u8 : (w6.alloc (.cells #[.string zi, .string zv, .int .i64 zd, .int .i64 zs, .int .i64 zq, .int .i64 zp, .int .i64 zn, .int .i64 zm, .int .i64 zc, .int .i64 0] 39)).cell? ⟨w6.heap.size, 8, none⟩ = some (.int .i64 zc) := by simp
              have u9 : (w6.alloc (.cells #[.string zi, .string zv, .int .i64 zd, .int .i64 zs, .int .i64 zq, .int .i64 zp, .int .i64 zn, .int .i64 zm, .int .i64 zc, .int .i64 0] 39)).cell? ⟨w6.heap.size, 9, none⟩ = some (.int .i64 0) := by simp
              have O1 := O _ bS
              clear G O hb6 bS d0 d1 d2
              go_upto_region 17 with fail
              generalize w6.alloc (.cells #[.string zi, .string zv, .int .i64 zd, .int .i64 zs, .int .i64 zq, .int .i64 zp, .int .i64 zn, .int .i64 zm, .int .i64 zc, .int .i64 0] 39) = w7 at *
              generalize w6.heap.size = gs at *
              go_wp2_with fail
              refine O1.mono ?_
              rintro e w7 ⟨rfl, rfl⟩
              clear O1
              go_wp2_with fail
              go_roundw
              case rel => exact ⟨i + 1, y', mo, zc, rfl, rfl, by simp, by omega, HM.out, (I2.out.step HK5.out.1 HK5.out.2 (by rw [HM.out]; omega)).below HB6.out⟩
              case measure => simp [RowKit.intOf]; omega
          · have k1 : (yk == 10) = false := beq_false_of_ne k10
            have k2 : (yk != 10) = true := by simp [bne, k1]
            have HS : Hid (CH.sum y' ≤ la) := by have := HSD.out.2.1 k10; rw [HL.out] at this; exact this
            have q1 : ¬ mo < zc := by have := HS.out; have := HM.out; have := I2.out.le; have := HL.out; omega
            have q3 : ¬ la < zc := by have := HS.out; have := HM.out; omega
            by_cases e0 : E = 0
            · subst e0
              go_wp2_with fail
              refine G.mono ?_
              rintro e w6 ⟨rfl, hb6⟩
              have bS : Below w5.heap.size w5 (w6.alloc (.cells #[.string zi, .string zv, .int .i64 zd, .int .i64 zs, .int .i64 zq, .int .i64 zp, .int .i64 zn, .int .i64 zm, .int .i64 zc, .int .i64 0] 39)) := hb6.alloc hb6.size _
              have HB6 : Hid (Below w5.heap.size w5 (w6.alloc (.cells #[.string zi, .string zv, .int .i64 zd, .int .i64 zs, .int .i64 zq, .int .i64 zp, .int .i64 zn, .int .i64 zm, .int .i64 zc, .int .i64 0] 39))) := bS
              have f0 := (bS.cell (p := ⟨gx, 0, none⟩) lx).trans d0
              have f1 := (bS.cell (p := ⟨gx, 1, none⟩) lx).trans d1
              have u8 : (w6.alloc (.cells #[.string zi, .string zv, .int .i64 zd, .int .i64 zs, .int .i64 zq, .int .i64 zp, .int .i64 zn, .int .i64 zm, .int .i64 zc, .int .i64 0] 39)).cell? ⟨w6.heap.size, 8, none⟩ = some (.int .i64 zc) := by simp
              have u9 : (w6.alloc (.cells #[.string zi, .string zv, .int .i64 zd, .int .i64 zs, .int .i64 zq, .int .i64 zp, .int .i64 zn, .int .i64 zm, .int .i64 zc, .int .i64 0] 39)).cell? ⟨w6.heap.size, 9, none⟩ = some (.int .i64 0) := by simp
              have O1 := O _ bS
              clear G O hb6 bS d0 d1 d2
              go_upto_region 17 with fail
              generalize w6.alloc (.cells #[.string zi, .string zv, .int .i64 zd, .int .i64 zs, .int .i64 zq, .int .i64 zp, .int .i64 zn, .int .i64 zm, .int .i64 zc, .int .i64 0] 39) = w7 at *
              generalize w6.heap.size = gs at *
              go_wp2_with fail
              refine O1.mono ?_
              rintro e w7 ⟨rfl, rfl⟩
              clear O1
              go_wp2_with fail
              go_roundw
              case rel => exact ⟨i + 1, y', mo, zc, rfl, rfl, by simp, by omega, HM.out, (I2.out.step HK5.out.1 HK5.out.2 (by rw [HM.out]; omega)).below HB6.out⟩
              case measure => simp [RowKit.intOf]; omega
            · have e1 : (E == 0) = false := beq_false_of_ne e0
              have e2 : (E != 0) = true := by simp [bne, e1]
              have HT : Hid (CH.sum y' = la) := by have := HSD.out.1 e0; show CH.sum y' = la; rw [this]; exact HL.out
              obtain rfl : zc = la := by have := HT.out; have := HM.out; omega
              go_wp2_with fail
              refine G.mono ?_
              rintro e w6 ⟨rfl, hb6⟩
              have bS : Below w5.heap.size w5 (w6.alloc (.cells #[.string zi, .string zv, .int .i64 zd, .int .i64 zs, .int .i64 zq, .int .i64 zp, .int .i64 zn, .int .i64 zm, .int .i64 zc, .int .i64 0] 39)) := hb6.alloc hb6.size _
              have HB6 : Hid (Below w5.heap.size w5 (w6.alloc (.cells #[.string zi, .string zv, .int .i64 zd, .int .i64 zs, .int .i64 zq, .int .i64 zp, .int .i64 zn, .int .i64 zm, .int .i64 zc, .int .i64 0] 39))) := bS
              have f0 := (bS.cell (p := ⟨gx, 0, none⟩) lx).trans d0
              have f1 := (bS.cell (p := ⟨gx, 1, none⟩) lx).trans d1
              have u8 : (w6.alloc (.cells #[.string zi, .string zv, .int .i64 zd, .int .i64 zs, .int .i64 zq, .int .i64 zp, .int .i64 zn, .int .i64 zm, .int .i64 zc, .int .i64 0] 39)).cell? ⟨w6.heap.size, 8, none⟩ = some (.int .i64 zc) := by simp
              have u9 : (w6.alloc (.cells #[.string zi, .string zv, .int .i64 zd, .int .i64 zs, .int .i64 zq, .int .i64 zp, .int .i64 zn, .int .i64 zm, .int .i64 zc, .int .i64 0] 39)).cell? ⟨w6.heap.size, 9, none⟩ = some (.int .i64 0) := by simp
              have O1 := O _ bS
              clear G O hb6 bS d0 d1 d2
              go_upto_region 17 with fail
              generalize w6.alloc (.cells #[.string zi, .string zv, .int .i64 zd, .int .i64 zs, .int .i64 zq, .int .i64 zp, .int .i64 zn, .int .i64 zm, .int .i64 zc, .int .i64 0] 39) = w7 at *
              generalize w6.heap.size = gs at *
              go_wp2_with fail
              refine O1.mono ?_
              rintro e w7 ⟨rfl, rfl⟩
              clear O1
              go_wp2_with fail
              go_roundw
              case rel => exact ⟨i + 1, y', mo, zc, rfl, rfl, by simp, by omega, HM.out, (I2.out.step HK5.out.1 HK5.out.2 (by rw [HM.out]; omega)).below HB6.out⟩
              case measure => simp [RowKit.intOf]; omega
        · by_cases k10 : yk = 10
          · subst k10
            by_cases e0 : E = 0
            · subst e0
              have HS : Hid (CH.sum y' ≤ max la ya) := by have := HSD.out.2.2 rfl rfl; rw [HL.out] at this; exact this
              have q1 : ¬ max mo ya < zc + M := by have := HS.out; have := HM.out; have := I2.out.le; have := HL.out; omega
              by_cases q3 : la < zc + M
              · have q4 := q3
                go_wp2_with fail
                refine G.mono ?_
                rintro e w6 ⟨rfl, hb6⟩
                have bS : Below w5.heap.size w5 (w6.alloc (.cells #[.string zi, .string zv, .int .i64 zd, .int .i64 zs, .int .i64 zq, .int .i64 zp, .int .i64 zn, .int .i64 zm, .int .i64 zc, .int .i64 M] 39)) := hb6.alloc hb6.size _
                have HB6 : Hid (Below w5.heap.size w5 (w6.alloc (.cells #[.string zi, .string zv, .int .i64 zd, .int .i64 zs, .int .i64 zq, .int .i64 zp, .int .i64 zn, .int .i64 zm, .int .i64 zc, .int .i64 M] 39))) := bS
                have f0 := (bS.cell (p := ⟨gx, 0, none⟩) lx).trans d0
                have f1 := (bS.cell (p := ⟨gx, 1, none⟩) lx).trans d1
                have u8 : (w6.alloc (.cells #[.string zi, .string zv, .int .i64 zd, .int .i64 zs, .int .i64 zq, .int .i64 zp, .int .i64 zn, .int .i64 zm, .int .i64 zc, .int .i64 M] 39)).cell? ⟨w6.heap.size, 8, none⟩ = some (.int .i64 zc) := by simp
                have u9 : (w6.alloc (.cells #[.string zi, .string zv, .int .i64 zd, .int .i64 zs, .int .i64 zq, .int .i64 zp, .int .i64 zn, .int .i64 zm, .int .i64 zc, .int .i64 M] 39)).cell? ⟨w6.heap.size, 9, none⟩ = some (.int .i64 M) := by simp
                have O1 := O _ bS
                clear G O hb6 bS d0 d1 d2
                go_upto_region 17 with fail
                generalize w6.alloc (.cells #[.string zi, .string zv, .int .i64 zd, .int .i64 zs, .int .i64 zq, .int .i64 zp, .int .i64 zn, .int .i64 zm, .int .i64 zc, .int .i64 M] 39) = w7 at *
                generalize w6.heap.size = gs at *
                go_wp2_with fail
                refine O1.mono ?_
                rintro e w7 ⟨rfl, rfl⟩
                clear O1
                go_wp2_with fail
                go_roundw
                case rel => exact ⟨i + 1, y', max mo ya, zc + M, rfl, rfl, by simp, by omega, HM.out, (I2.out.step HK5.out.1 HK5.out.2 (by rw [HM.out]; omega)).below HB6.out⟩
                case measure => simp [RowKit.intOf]; omega
              · have q4 := q3
                go_wp2_with fail
                refine G.mono ?_
                rintro e w6 ⟨rfl, hb6⟩
                have bS : Below w5.heap.size w5 (w6.alloc (.cells #[.string zi, .string zv, .int .i64 zd, .int .i64 zs, .int .i64 zq, .int .i64 zp, .int .i64 zn, .int .i64 zm, .int .i64 zc, .int .i64 M] 39)) := hb6.alloc hb6.size _
                have HB6 : Hid (Below w5.heap.size w5 (w6.alloc (.cells #[.string zi, .string zv, .int .i64 zd, .int .i64 zs, .int .i64 zq, .int .i64 zp, .int .i64 zn, .int .i64 zm, .int .i64 zc, .int .i64 M] 39))) := bS
                have f0 := (bS.cell (p := ⟨gx, 0, none⟩) lx).trans d0
                have f1 := (bS.cell (p := ⟨gx, 1, none⟩) lx).trans d1
                have u8 : (w6.alloc (.cells #[.string zi, .string zv, .int .i64 zd, .int .i64 zs, .int .i64 zq, .int .i64 zp, .int .i64 zn, .int .i64 zm, .int .i64 zc, .int .i64 M] 39)).cell? ⟨w6.heap.size, 8, none⟩ = some (.int .i64 zc) := by simp
                have u9 : (w6.alloc (.cells #[.string zi, .string zv, .int .i64 zd, .int .i64 zs, .int .i64 zq, .int .i64 zp, .int .i64 zn, .int .i64 zm, .int .i64 zc, .int .i64 M] 39)).cell? ⟨w6.heap.size, 9, none⟩ = some (.int .i64 M) := by simp
                have O1 := O _ bS
                clear G O hb6 bS d0 d1 d2
                go_upto_region 17 with fail
                generalize w6.alloc (.cells #[.string zi, .string zv, .int .i64 zd, .int .i64 zs, .int .i64 zq, .int .i64 zp, .int .i64 zn, .int .i64 zm, .int .i64 zc, .int .i64 M] 39) = w7 at *
                generalize w6.heap.size = gs at *
                go_wp2_with fail
                refine O1.mono ?_
                rintro e w7 ⟨rfl, rfl⟩
                clear O1
                go_wp2_with fail
                go_roundw
                case rel => exact ⟨i + 1, y', max mo ya, zc + M, rfl, rfl, by simp, by omega, HM.out, (I2.out.step HK5.out.1 HK5.out.2 (by rw [HM.out]; omega)).below HB6.out⟩
                case measure => simp [RowKit.intOf]; omega
            · have e1 : (E == 0) = false := beq_false_of_ne e0
              have e2 : (E != 0) = true := by simp [bne, e1]
              have HS : Hid (CH.sum y' = la) := by have := HSD.out.1 e0; show CH.sum y' = la; rw [this]; exact HL.out
              have q1 : ¬ mo < zc + M := by have := HS.out; have := HM.out; have := I2.out.le; have := HL.out; omega
              obtain rfl : zc + M = la := by have := HS.out; have := HM.out; omega
              go_wp2_with fail
              refine G.mono ?_
              rintro e w6 ⟨rfl, hb6⟩
              have bS : Below w5.heap.size w5 (w6.alloc (.cells #[.string zi, .string zv, .int .i64 zd, .int .i64 zs, .int .i64 zq, .int .i64 zp, .int .i64 zn, .int .i64 zm, .int .i64 zc, .int .i64 M] 39)) := hb6.alloc hb6.size _
              have HB6 : Hid (Below w5.heap.size w5 (w6.alloc (.cells #[.string zi, .string zv, .int .i64 zd, .int .i64 zs, .int .i64 zq, .int .i64 zp, .int .i64 zn, .int .i64 zm, .int .i64 zc, .int .i64 M] 39))) := bS
              have f0 := (bS.cell (p := ⟨gx, 0, none⟩) lx).trans d0
              have f1 := (bS.cell (p := ⟨gx, 1, none⟩) lx).trans d1
              have u8 : (w6.alloc (.cells #[.string zi, .string zv, .int .i64 zd, .int .i64 zs, .int .i64 zq, .int .i64 zp, .int .i64 zn, .int .i64 zm, .int .i64 zc, .int .i64 M] 39)).cell? ⟨w6.heap.size, 8, none⟩ = some (.int .i64 zc) := by simp
              have u9 : (w6.alloc (.cells #[.string zi, .string zv, .int .i64 zd, .int .i64 zs, .int .i64 zq, .int .i64 zp, .int .i64 zn, .int .i64 zm, .int .i64 zc, .int .i64 M] 39)).cell? ⟨w6.heap.size, 9, none⟩ = some (.int .i64 M) := by simp
              have O1 := O _ bS
              clear G O hb6 bS d0 d1 d2
              go_upto_region 17 with fail
              generalize w6.alloc (.cells #[.string zi, .string zv, .int .i64 zd, .int .i64 zs, .int .i64 zq, .int .i64 zp, .int .i64 zn, .int .i64 zm, .int .i64 zc, .int .i64 M] 39) = w7 at *
              generalize w6.heap.size = gs at *
              go_wp2_with fail
              refine O1.mono ?_
              rintro e w7 ⟨rfl, rfl⟩
              clear O1
              go_wp2_with fail
              go_roundw
              case rel => exact ⟨i + 1, y', mo, zc + M, rfl, rfl, by simp, by omega, HM.out, (I2.out.step HK5.out.1 HK5.out.2 (by rw [HM.out]; omega)).below HB6.out⟩
              case measure => simp [RowKit.intOf]; omega
          · have k1 : (yk == 10) = false := beq_false_of_ne k10
            have k2 : (yk != 10) = true := by simp [bne, k1]
            have HS : Hid (CH.sum y' ≤ la) := by have := HSD.out.2.1 k10; rw [HL.out] at this; exact this
            have q1 : ¬ mo < zc + M := by have := HS.out; have := HM.out; have := I2.out.le; have := HL.out; omega
            have q3 : ¬ la < zc + M := by have := HS.out; have := HM.out; omega
            by_cases e0 : E = 0
            · subst e0
              go_wp2_with fail
              refine G.mono ?_
              rintro e w6 ⟨rfl, hb6⟩
              have bS : Below w5.heap.size w5 (w6.alloc (.cells #[.string zi, .string zv, .int .i64 zd, .int .i64 zs, .int .i64 zq, .int .i64 zp, .int .i64 zn, .int .i64 zm, .int .i64 zc, .int .i64 M] 39)) := hb6.alloc hb6.size _
              have HB6 : Hid (Below w5.heap.size w5 (w6.alloc (.cells #[.string zi, .string zv, .int .i64 zd, .int .i64 zs, .int .i64 zq, .int .i64 zp, .int .i64 zn, .int .i64 zm, .int .i64 zc, .int .i64 M] 39))) := bS
              have f0 := (bS.cell (p := ⟨gx, 0, none⟩) lx).trans d0
              have f1 := (bS.cell (p := ⟨gx, 1, none⟩) lx).trans d1
              have u8 : (w6.alloc (.cells #[.string zi, .string zv, .int .i64 zd, .int .i64 zs, .int .i64 zq, .int .i64 zp, .int .i64 zn, .int .i64 zm, .int .i64 zc, .int .i64 M] 39)).cell? ⟨w6.heap.size, 8, none⟩ = some (.int .i64 zc) := by simp
              have u9 : (w6.alloc (.cells #[.string zi, .string zv, .int .i64 zd, .int .i64 zs, .int .i64 zq, .int .i64 zp, .int .i64 zn, .int .i64 zm, .int .i64 zc, .int .i64 M] 39)).cell? ⟨w6.heap.size, 9, none⟩ = some (.int .i64 M) := by simp
              have O1 := O _ bS
              clear G O hb6 bS d0 d1 d2
              go_upto_region 17 with fail
              generalize w6.alloc (.cells #[.string zi, .string zv, .int .i64 zd, .int .i64 zs, .int .i64 zq, .int .i64 zp, .int .i64 zn, .int .i64 zm, .int .i64 zc, .int .i64 M] 39) = w7 at *
              generalize w6.heap.size = gs at *
              go_wp2_with fail
              refine O1.mono ?_
              rintro e w7 ⟨rfl, rfl⟩
              clear O1
              go_wp2_with fail
              go_roundw
              case rel => exact ⟨i + 1, y', mo, zc + M, rfl, rfl, by simp, by omega, HM.out, (I2.out.step HK5.out.1 HK5.out.2 (by rw [HM.out]; omega)).below HB6.out⟩
              case measure => simp [RowKit.intOf]; omega
            · have e1 : (E == 0) = false := beq_false_of_ne e0
              have e2 : (E != 0) = true := by simp [bne, e1]
              have HT : Hid (CH.sum y' = la) := by have := HSD.out.1 e0; show CH.sum y' = la; rw [this]; exact HL.out
              obtain rfl : zc + M = la := by have := HT.out; have := HM.out; omega
              go_wp2_with fail
              refine G.mono ?_
              rintro e w6 ⟨rfl, hb6⟩
              have bS : Below w5.heap.size w5 (w6.alloc (.cells #[.string zi, .string zv, .int .i64 zd, .int .i64 zs, .int .i64 zq, .int .i64 zp, .int .i64 zn, .int .i64 zm, .int .i64 zc, .int .i64 M] 39)) := hb6.alloc hb6.size _
              have HB6 : Hid (Below w5.heap.size w5 (w6.alloc (.cells #[.string zi, .string zv, .int .i64 zd, .int .i64 zs, .int .i64 zq, .int .i64 zp, .int .i64 zn, .int .i64 zm, .int .i64 zc, .int .i64 M] 39))) := bS
              have f0 := (bS.cell (p := ⟨gx, 0, none⟩) lx).trans d0
              have f1 := (bS.cell (p := ⟨gx, 1, none⟩) lx).trans d1
              have u8 : (w6.alloc (.cells #[.string zi, .string zv, .int .i64 zd, .int .i64 zs, .int .i64 zq, .int .i64 zp, .int .i64 zn, .int .i64 zm, .int .i64 zc, .int .i64 M] 39)).cell? ⟨w6.heap.size, 8, none⟩ = some (.int .i64 zc) := by simp
              have u9 : (w6.alloc (.cells #[.string zi, .string zv, .int .i64 zd, .int .i64 zs, .int .i64 zq, .int .i64 zp, .int .i64 zn, .int .i64 zm, .int .i64 zc, .int .i64 M] 39)).cell? ⟨w6.heap.size, 9, none⟩ = some (.int .i64 M) := by simp
              have O1 := O _ bS
              clear G O hb6 bS d0 d1 d2
              go_upto_region 17 with fail
              generalize w6.alloc (.cells #[.string zi, .string zv, .int .i64 zd, .int .i64 zs, .int .i64 zq, .int .i64 zp, .int .i64 zn, .int .i64 zm, .int .i64 zc, .int .i64 M] 39) = w7 at *
              generalize w6.heap.size = gs at *
              go_wp2_with fail
              refine O1.mono ?_
              rintro e w7 ⟨rfl, rfl⟩
              clear O1
              go_wp2_with fail
              go_roundw
              case rel => exact ⟨i + 1, y', mo, zc + M, rfl, rfl, by simp, by omega, HM.out, (I2.out.step HK5.out.1 HK5.out.2 (by rw [HM.out]; omega)).below HB6.out⟩
              case measure => simp [RowKit.intOf]; omega
      · obtain rfl : i = n0 := by omega
        have t3 : ¬ (i : Int) < (i : Int) := by omega
        go_wp2_with fail
        go_ret
        exact ⟨rfl, I.out.bel⟩
  · obtain ⟨rfl, hb2⟩ := hbad hN
    have hn1 : (nwE xi xv xs xq xp == 0) = false := beq_false_of_ne hN
    have hn2 : (nwE xi xv xs xq xp != 0) = true := by simp [bne, hn1]
    have HB2 : Hid (Below w.heap.size w w2) := HB1.out.trans (hb2.mono HB1.out.size)
    clear hbad hgood hb2
    generalize nwE xi xv xs xq xp = E at *
    go_wp2_with fail
    go_ret
    exact ⟨rfl, HB2.out⟩
theorem childBounds_walk (w : World) (x : Odr) (_hz : x.id.size ≤ maxLen ∧ x.ve.size ≤ maxLen) (v : Value) (n0 : Nat) (X : Nat → Opc) (h : Ops w v n0 X) : Calls Try.prog 5 #[.agg x.cells, v] w fun e w' => e = .returned (.bool true) ∧ Below w.heap.size w w' := bounds_walk w x.id x.ve x.sd x.q x.p v n0 X h
theorem childBounds_own : ownKnob Try.prog.godebug = none := by kernel_rfl
theorem childBounds_laidOut : laidOutB Try.prog = true := by kernel_rfl
set_option maxRecDepth 100000 in
theorem childBounds_lifted (os : Os) (started : os.Started) (H : Type) (enc : TypeId × Value → H) :
    ReturnsInHanded {} Try.checked os 5 .any (Rows.childBoundsSpec.pre6 enc Try.prog Try.f5 Rows.childBoundsRow.domain false) (Rows.childBoundsSpec.post enc Try.prog Try.f5 false true false false) := by
  refine returnsInHanded_of_change (C := Try.checked) childBounds_own started (by kernel_rfl) Try.func5
    (ChangeSpec.witness6 (enc := enc) (C := Try.checked) false ⟨#[], #[.agg #[.string ⟨#[]⟩, .string ⟨#[]⟩, .int .i64 0, .int .i64 0, .int .i64 0], .slice none 0 0], []⟩ 8 (by kernel_rfl) (by kernel_rfl) (by kernel_rfl) (by kernel_rfl)) ?_
  intro W base args ds gs before hval0 hW hcnd _
  have hval : ∀ (j : Nat) t v, Try.f5.params[j]? = some t → args[j]? = some v → Value.okWide Try.prog W .any base t v := hval0
  have hW' := hW
  obtain ⟨p, q, hA0, hV, rfl, hfz, hnd⟩ := hW
  have hA : DataW.TrodAll enc Try.prog W 0 (fun _ => true) true Try.f5.params.toList args.toList ds p := hA0
  rw [Try.params5] at hA hval
  obtain ⟨v0, vs0, d0, ds0, p0, q0, hargs, rfl, rfl, h0, r0⟩ := trodAll_cons hA
  obtain ⟨v1, vs1, d1, ds1, p1, q1, rfl, rfl, rfl, h1, r1⟩ := trodAll_cons r0
  obtain ⟨rfl, rfl, rfl⟩ := trodAll_nil r1
  obtain rfl : args = #[v0, v1] := by cases args; simp_all
  obtain ⟨rfl, rfl⟩ := trodVars_none hV
  have k0 := h0
  have lt0 : ∀ x ∈ p0, x.block < W.heap.size := by obtain ⟨m, hm⟩ := k0; exact DataW.trod_lt m _ _ _ hm
  obtain ⟨x0, rfl, hz0⟩ := open_order (hval 0 23 v0 rfl rfl) h0
  obtain ⟨ad1, n1, cap1, rfl⟩ := okWide_slice Try.underlying24 (hval 1 24 v1 rfl rfl)
  have k1 := h1
  have lt1 : ∀ x ∈ p1, x.block < W.heap.size := by obtain ⟨m, hm⟩ := k1; exact DataW.trod_lt m _ _ _ hm
  obtain ⟨X1, ops1⟩ : ∃ X, Ops W (.slice ad1 n1 cap1) n1 X := by obtain ⟨fuel, hf⟩ := h1; exact open_ops hf
  clear hA0 hval0
  simp only [List.append_nil] at hW'
  refine (childBounds_walk W x0 hz0 _ n1 X1 ops1).mono fun e W' ⟨he, bel⟩ => ?_
  subst he
  exact ⟨_, rfl, _, _, _, [], _, [], hW', trodAll_mk1 (shut_bool Try.underlying4 _), (trodAll_cons_mk (Below.trod childBounds_laidOut (by kernel_rfl) (of_decide_eq_true (by kernel_rfl)) k0 bel lt0) (trodAll_cons_mk (Below.trod childBounds_laidOut (by kernel_rfl) (of_decide_eq_true (by kernel_rfl)) k1 bel lt1) trodAll_mk0)), rfl, bel.frame _, fun h => by cases h⟩

/-- THE STATEMENT. -/
theorem childBounds_proved : Rows.ChildBoundsSaid :=
  OpenClaim.holds_of_wide 5 Try.f5 rfl rfl rfl rfl rfl rfl rfl ⟨rfl, rfl, rfl, rfl, rfl⟩ rfl rfl rfl rfl rfl (by kernel_rfl) Try.func5 (by kernel_rfl)
    (of_decide_eq_true (by kernel_rfl)) (by unfold Func.isWrapper; first | (rw [if_pos (by decide +kernel)]; kernel_rfl) | (rw [if_neg (by decide +kernel)]; exact ⟨rfl, rfl⟩))
    (fun os started H enc _ => childBounds_lifted os started H enc)
#print axioms childBounds_proved
end Go.Proofs.Ytkkimkhkoiempaa
