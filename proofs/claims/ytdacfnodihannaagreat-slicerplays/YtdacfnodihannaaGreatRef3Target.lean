/-
  Contract of the third reference's Target, for every curve, time, span and quantity that may be asked for.
-/
import Derived.Test.YtdacfnodihannaaGreatRef3
import Derived.Test.YtdacfnodihannaaGreatKC
namespace Go.Proofs.YtdacfnodihannaaGreat
open Go.ChangeShapes Go.WideShapes Go.ChangeAt Go.RowKit

theorem num_of {B : Nat} {w : World} {s : Bool} {sl : Value} {z : Int} {n : Nat} (h : IsNum B w s sl z n) : ∃ a m c, sl = Value.slice a m c := by
  obtain ⟨_, l, ⟨a, c, e, _⟩, _⟩ := h
  exact ⟨a, _, c, e⟩
theorem ofN_any (a : Int) (w : World) (a1 : -9223372036854775808 ≤ a) (a2 : a ≤ 9223372036854775807) :
    Calls Tryz.prog 75 #[.int .i64 a] w fun e w' => ∃ s v, e = .returned (.agg #[.bool s, v]) ∧ Below w.heap.size w w' ∧ IsNum w.heap.size w' s v a 64 :=
  (of_any a w a1 a2).mono fun _ _ ⟨v, he, hb, l, r1, r2, r3, r4⟩ => ⟨_, v, he, hb, rfl, l, r1, r2, r3, r4⟩
theorem pair_cells (w : World) (x y : Value) (T : TypeId) : (w.alloc (.cells #[x, y] T)).cell? ⟨w.heap.size, 0, none⟩ = some x ∧ (w.alloc (.cells #[x, y] T)).cell? ⟨w.heap.size, 1, none⟩ = some y := by
  constructor <;> simp [World.cell?_alloc_at]
theorem pair_below {w w' : World} {b B : Nat} {x y : Value} (h : w.cell? ⟨b, 0, none⟩ = some x ∧ w.cell? ⟨b, 1, none⟩ = some y) (hb : Below B w w') (hB : b < B) : w'.cell? ⟨b, 0, none⟩ = some x ∧ w'.cell? ⟨b, 1, none⟩ = some y :=
  ⟨(hb.cell (p := ⟨b, 0, none⟩) hB).trans h.1, (hb.cell (p := ⟨b, 1, none⟩) hB).trans h.2⟩

set_option maxRecDepth 100000 in
set_option maxHeartbeats 2000000 in
theorem targetR_any (qty : Int) (zs : Nat → Int) (n : Nat) (v : Value) (w : World) (h : Row w v n fun i => .int .i64 (zs i)) (hc : Curve zs n) (t span : Int) (ha : Asked t span) (q0 : 0 ≤ qty) (q1 : qty ≤ 1099511627776) (x : Int) (hx : Hid (targetOf zs n qty t span = x)) :
    Calls Tryz.prog 51 #[.int .i64 qty, v, .int .i64 t, .int .i64 span] w fun e w' => e = .returned (.int .i64 x) ∧ Below w.heap.size w w' := by
  have hp := pieces ha hc.len
  have hd := doneOf_bd hc hp.1 ha.1.1
  have hs := (curve_sums hc n).2.2.2
  have hs' := hc.some
  have hm := mul_bd (by omega : 0 ≤ sumTo zs n) hs (by have := ha.1.1; omega : 0 ≤ span) ha.1.2
  have hpos : 0 < sumTo zs n * span := Int.mul_pos hs' (by have := ha.1.1; omega)
  have F := fun w h => doneR_any zs n v w h hc t span ha _ rfl
  have T := fun w h => totalR_any zs n v w h hc _ rfl
  have hx2 : Hid (frac (qty * doneOf zs (t * (n : Int)) span) (sumTo zs n * span) false = x ∧ (-9223372036854775808 ≤ x ∧ x ≤ 9223372036854775807)) := by
    show _ ∧ _
    have hb := share_bd q0 hd.1 hd.2 hpos
    rw [frac_plain _ _ (Int.mul_nonneg q0 hd.1) hpos]
    have e : qty * doneOf zs (t * (n : Int)) span / (sumTo zs n * span) = x := hx.out
    rw [e] at hb ⊢
    exact ⟨rfl, by omega⟩
  have hw : IntKind.i64.wrap (sumTo zs n * span) = sumTo zs n * span := by rw [IntKind.wrap_i64]; omega
  clear hx
  generalize doneOf zs (t * (n : Int)) span = R at *
  generalize sumTo zs n = S at *
  have O1 := fun w => ofN_any qty w (by omega) (by omega)
  have O2 := fun w => ofN_any R w (by omega) (by omega)
  have O3 := fun w => ofN_any (S * span) w (by omega) (by omega)
  obtain ⟨c, hcv⟩ : ∃ c, S * span = c := ⟨_, rfl⟩
  rw [hcv] at O3 hx2 hpos
  have O4 : ∀ w, Calls Tryz.prog 75 #[.int .i64 (IntKind.i64.wrap (S * span))] w fun e w' => ∃ s v, e = .returned (.agg #[.bool s, v]) ∧ Below w.heap.size w w' ∧ IsNum w.heap.size w' s v c 64 := fun w => by rw [hw.trans hcv]; exact O3 w
  clear O3
  have hc0 : Hid (c ≠ 0) := by show c ≠ 0; omega
  clear hw hcv hm hs hs' hd hp ha
  go_enter Tryz.func51, Tryz.ntmps51
  go_wp2_with fail
  refine (O1 _).mono ?_
  rintro e w1 ⟨sq, vq, rfl, hb1, nq⟩
  go_wp2_with fail
  refine (F _ (h.below hb1)).mono ?_
  rintro e w2 ⟨rfl, hw2⟩
  subst hw2
  go_wp2_with fail
  refine (O2 _).mono ?_
  rintro e w3 ⟨sR, vR, rfl, hb3, nR⟩
  have B3 := hb1.trans (hb3.mono hb1.size)
  have nq3 := nq.below hb3
  clear nq hb1 hb3
  go_wp2_with fail
  refine (mulR_any sq sR _ _ qty R 64 64 _ nq3 nR (by decide) (by decide)).mono ?_
  rintro e w4 ⟨s4, v4, rfl, hb4, n4⟩
  have B4 := B3.trans (hb4.mono B3.size)
  clear nq3 nR hb4 B3
  obtain ⟨a4, m4, c4, rfl⟩ := num_of n4
  have BA : Below w4.heap.size w4 (w4.alloc (.cells #[.bool s4, .slice a4 m4 c4] 91)) := (Below.refl _ _).alloc (Nat.le_refl _) _
  have n5 := n4.below BA
  have K5 := pair_cells w4 (.bool s4) (.slice a4 m4 c4) 91
  obtain ⟨k50, k51⟩ := K5
  have B5 : Below w.heap.size w (w4.alloc (.cells #[.bool s4, .slice a4 m4 c4] 91)) := B4.trans (BA.mono B4.size)
  have s5 : w4.heap.size < (w4.alloc (.cells #[.bool s4, .slice a4 m4 c4] 91)).heap.size := by simp
  obtain ⟨W, hW⟩ : ∃ W, Hid (w4.alloc (.cells #[.bool s4, .slice a4 m4 c4] 91) = W) := ⟨_, rfl⟩
  rw [hW.out] at n5 k50 k51 B5 s5
  clear n4 BA
  go_wp2_with fail
  rw [hW.out]
  clear hW
  go_region_held3 (fun w' => w'.cell? ⟨w4.heap.size, 0, none⟩ = some (.bool s4) ∧ w'.cell? ⟨w4.heap.size, 1, none⟩ = some (.slice a4 m4 c4)) (go_keep) (first
   | (go_at_call 79; refine (T _ (h.below B5.drew)).mono ?_; rintro e w5 ⟨rfl, rfl⟩)
   | (go_at_call 75; refine (O4 _).mono ?_; rintro e w6 ⟨sc, vc, rfl, hb6, nc⟩; have B6 : Below W.heap.size W w6 := (Below.refl _ _).drew.trans hb6; obtain ⟨k60, k61⟩ := pair_below ⟨k50, k51⟩ B6 s5; have n6 := n5.below B6)
   | (go_at_call 78; refine (partR_any s4 sc false _ _ (qty * R) c _ 64 _ n6 nc (by decide) (by decide) hc0.out).mono ?_; rintro e w7 ⟨s7, v7, rfl, hb7, n7⟩; have B7 : Below W.heap.size W w7 := B6.trans (hb7.mono B6.size); obtain ⟨k70, k71⟩ := pair_below ⟨k50, k51⟩ B7 s5)
   | (go_at_call 77; refine (intR_any s7 v7 _ _ _ n7).mono ?_; rintro e w8 ⟨y, rfl, hb8, hy⟩; have B8 : Below W.heap.size W w8 := B7.trans (hb8.mono B7.size); obtain ⟨k80, k81⟩ := pair_below ⟨k50, k51⟩ B8 s5))
  have ey : y = x := by
    have := hx2.out
    rw [this.1] at hy
    exact hy this.2
  subst ey
  go_wp2_with fail
  go_ret
  exact ⟨rfl, B5.trans (B8.mono B5.size)⟩
end Go.Proofs.YtdacfnodihannaaGreat
