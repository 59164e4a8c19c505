/-
  Contracts of package checked's below and Less and of the reference's Below.
-/
import Derived.Test.YtjcbjhnnmkmjkaaRefTold
import Derived.Test.YtjcbjhnnmkmjkaaRefMul
import Derived.Test.YtjcbjhnnmkmjkaaTimes
namespace Go.Proofs.Ytjcbjhnnmkmjkaa
open Go.ChangeShapes Go.WideShapes Go.ChangeAt Go.RowKit

theorem below_hi (x y : Int) (hx : Fits x) (hy : Fits y) (h : ¬ hi x = hi y) : (wrap64 (hi x) < wrap64 (hi y)) ↔ x < y := by
  unfold Fits at hx hy; unfold hi at *; unfold wrap64; omega
theorem below_lo (x y : Int) (hx : Fits x) (hy : Fits y) (h : hi x = hi y) : (lo x < lo y) ↔ x < y := by
  unfold Fits at hx hy; unfold hi lo at *; omega
set_option maxHeartbeats 400000 in
theorem below_any (x y : Int) (w : World) (hx : Fits x) (hy : Fits y) :
    Calls Try.prog 40 #[.agg #[.int .u64 (hi x), .int .u64 (lo x)], .agg #[.int .u64 (hi y), .int .u64 (lo y)]] w fun e w' => e = .returned (.bool (decide (x < y))) ∧ Below w.heap.size w w' := by
  by_cases h : hi x = hi y
  · have e : Hid (decide (lo x < lo y) = decide (x < y)) := decide_eq_decide.2 (below_lo x y hx hy h)
    have hb : (hi x == hi y) = true := by simp [h]
    have hn : (hi x != hi y) = false := by simp [h]
    clear h
    go_enter Try.func40, Try.ntmps40
    go_wp2
    go_ret
    exact ⟨by rw [← e.out]; rfl, ((Below.refl _ _).alloc (Nat.le_refl _) _).alloc (by simp) _⟩
  · have e : Hid (decide (wrap64 (hi x) < wrap64 (hi y)) = decide (x < y)) := decide_eq_decide.2 (below_hi x y hx hy h)
    have hb : (hi x == hi y) = false := by simp [h]
    have hn : (hi x != hi y) = true := by simp [h]
    clear h
    go_enter Try.func40, Try.ntmps40
    go_wp2
    go_ret
    exact ⟨by rw [← e.out]; rfl, ((Below.refl _ _).alloc (Nat.le_refl _) _).alloc (by simp) _⟩
set_option maxHeartbeats 400000 in
theorem less_any (a b c d : Int) (w : World) (a1 : -9223372036854775808 ≤ a) (a2 : a ≤ 9223372036854775807) (b1 : -9223372036854775808 ≤ b) (b2 : b ≤ 9223372036854775807) (c1 : -9223372036854775808 ≤ c) (c2 : c ≤ 9223372036854775807) (d1 : -9223372036854775808 ≤ d) (d2 : d ≤ 9223372036854775807) :
    Calls Try.prog 24 #[.int .i64 a, .int .i64 b, .int .i64 c, .int .i64 d] w fun e w' => e = .returned (.bool (decide (a * b < c * d))) ∧ Below w.heap.size w w' := by
  have f1 := fits_mul a b a1 a2 b1 b2
  have f2 := fits_mul c d c1 c2 d1 d2
  go_enter Try.func24, Try.ntmps24
  go_wp2_with fail
  refine (times_any a b _ a1 a2 b1 b2).mono ?_
  rintro e w1 ⟨rfl, hb1⟩
  go_wp2_with fail
  refine (times_any c d _ c1 c2 d1 d2).mono ?_
  rintro e w2 ⟨rfl, hb2⟩
  go_wp2_with fail
  refine (below_any (a * b) (c * d) _ f1 f2).mono ?_
  rintro e w3 ⟨rfl, hb3⟩
  have s1 := hb1.size
  have s2 := hb2.size
  go_wp2_with fail
  go_ret
  exact ⟨rfl, (hb1.trans (hb2.mono s1)).trans (hb3.mono (by omega))⟩

set_option maxHeartbeats 1000000 in
theorem belowR_any {B C : Nat} (s t : Bool) (va vb : Value) (x y : Int) (n m : Nat) (w : World) (hv : IsNum B w s va x n) (hu : IsNum C w t vb y m) (hn : n ≤ 100000) (hm : m ≤ 100000) :
    Calls Try.prog 25 #[.agg #[.bool s, va], .agg #[.bool t, vb]] w fun e w' => e = .returned (.bool (decide (x < y))) ∧ Below w.heap.size w w' := by
  have hxy : Hid (decide (x + -y < 0) = decide (x < y)) := decide_eq_decide.2 (by omega)
  obtain ⟨a, na, ca, rfl⟩ : ∃ a n c, va = Value.slice a n c := by
    obtain ⟨_, l, ⟨a, c, e, _⟩, _⟩ := hv
    exact ⟨a, _, c, e⟩
  obtain ⟨b, nb, cb, rfl⟩ : ∃ a n c, vb = Value.slice a n c := by
    obtain ⟨_, l, ⟨a, c, e, _⟩, _⟩ := hu
    exact ⟨a, _, c, e⟩
  go_enter Try.func25, Try.ntmps25
  go_upto_region 1 with fail
  obtain ⟨W, hW⟩ : ∃ W, Hid (W = (w.alloc (.cells #[.bool s, .slice a na ca] 25)).alloc (.cells #[.bool t, .slice b nb cb] 25)) := ⟨_, rfl⟩
  have hWb : Below w.heap.size w W := by rw [hW.out]; exact ((Below.refl _ _).alloc (Nat.le_refl _) _).alloc (by simp) _
  have d0 : W.cell? ⟨w.heap.size, 0, none⟩ = some (.bool s) := by rw [hW.out]; go_simp
  have d1 : W.cell? ⟨w.heap.size, 1, none⟩ = some (.slice a na ca) := by rw [hW.out]; go_simp
  have d2 : W.cell? ⟨w.heap.size + 1, 0, none⟩ = some (.bool t) := by rw [hW.out]; go_simp
  have d3 : W.cell? ⟨w.heap.size + 1, 1, none⟩ = some (.slice b nb cb) := by rw [hW.out]; go_simp
  have HWs : Hid (W.heap.size = w.heap.size + 1 + 1) := by show _ = _; rw [hW.out]; simp
  rw [← hW.out]
  go_cut [5] from 6 to 11 (fun p wx => ∃ g, p = .pointer (some ⟨g, 0, none⟩) ∧ wx.cell? ⟨g, 0, none⟩ = some (.bool (decide (x + -y < 0))) ∧ Below w.heap.size w wx)
  case first =>
    have hW0 := World.new_ne W _ d0
    have hW1 := World.new_ne W _ d1
    have hW2 := World.new_ne W _ d2
    have hW3 := World.new_ne W _ d3
    go_region_held3 (fun w' => w'.cell? ⟨w.heap.size, 0, none⟩ = some (.bool s) ∧ w'.cell? ⟨w.heap.size, 1, none⟩ = some (.slice a na ca) ∧ w'.cell? ⟨w.heap.size + 1, 0, none⟩ = some (.bool t) ∧ w'.cell? ⟨w.heap.size + 1, 1, none⟩ = some (.slice b nb cb)) (go_keep) (first
      | (go_at_call 16; refine (negR_any t _ y m _ ((hu.below hWb).below ?_)).mono ?_; (first | exact (Below.refl _ _).drew | exact (Below.refl _ _).drew.alloc (Nat.le_refl _) _); rintro e w4 ⟨r4, rfl, hb4, n4⟩; have D4 : Below W.heap.size W w4 := (by first | exact (Below.refl _ _).drew.trans hb4 | exact ((Below.refl _ _).drew.alloc (Nat.le_refl _) _).trans (hb4.mono (by simp))); obtain ⟨hc4, hf4⟩ := bcell2 hb4; have u40 := (D4.cell (World.block_lt_of_cell? _ _ d0)).trans d0; have u41 := (D4.cell (World.block_lt_of_cell? _ _ d1)).trans d1; have u42 := (D4.cell (World.block_lt_of_cell? _ _ d2)).trans d2; have u43 := (D4.cell (World.block_lt_of_cell? _ _ d3)).trans d3; have z4 := hb4.size; (try simp at z4); have n40 := World.new_ne w4 _ u40; have n41 := World.new_ne w4 _ u41; have n42 := World.new_ne w4 _ u42; have n43 := World.new_ne w4 _ u43)
      | (go_at_call 15; refine (addR_any s r4 _ _ x (-y) n m _ (((hv.below hWb).below D4).below ?_) (n4.below ?_) hn hm).mono ?_; (first | exact Below.refl _ _ | exact (Below.refl _ _).alloc (Nat.le_refl _) _); (first | exact Below.refl _ _ | exact (Below.refl _ _).alloc (Nat.le_refl _) _); rintro e w5 ⟨r5, v5, rfl, hb5, n5⟩; obtain ⟨a5, m5, c5, rfl⟩ : ∃ a n c, v5 = Value.slice a n c := (by obtain ⟨_, l, ⟨a, c, e, _⟩, _⟩ := n5; exact ⟨a, _, c, e⟩); have D5 : Below w4.heap.size w4 w5 := (by first | exact hb5 | exact ((Below.refl _ _).alloc (Nat.le_refl _) _).trans (hb5.mono (by simp))); obtain ⟨hc5, hf5⟩ := bcell2 hb5; have u50 := (D5.cell (World.block_lt_of_cell? _ _ u40)).trans u40; have u51 := (D5.cell (World.block_lt_of_cell? _ _ u41)).trans u41; have u52 := (D5.cell (World.block_lt_of_cell? _ _ u42)).trans u42; have u53 := (D5.cell (World.block_lt_of_cell? _ _ u43)).trans u43; have z5 := hb5.size; (try simp at z5); have n50 := World.new_ne w5 _ u50; have n51 := World.new_ne w5 _ u51; have n52 := World.new_ne w5 _ u52; have n53 := World.new_ne w5 _ u53; (try have y1 : W.heap.size < w4.heap.size := by omega)))
    · have B5 : Below w.heap.size w w5 := (hWb.trans (D4.mono hWb.size)).trans (D5.mono (Nat.le_trans hWb.size D4.size))
      have hr5 := n5.1
      clear n5 hc4 hf4 hc5 hf5
      have HR : Hid (r5 = decide (x + -y < 0)) := hr5
      clear hr5
      go_wp2_with fail
      go_meet
      case rel => exact ⟨w5.heap.size, rfl, by rw [← HR.out]; go_simp, B5.alloc B5.size _⟩
    · have B5 : Below w.heap.size w w5 := (hWb.trans (D4.mono hWb.size)).trans (D5.mono (Nat.le_trans hWb.size D4.size))
      have HR : Hid (r5 = decide (x + -y < 0)) := n5.1
      have v0 := hc5 w4.heap.size 0 (by simp)
      simp at v0
      clear n5
      go_wp2_with fail
      go_meet
      case rel => exact ⟨w4.heap.size, rfl, by rw [← HR.out]; simp [v0, go_sem], (B5.setCell (Nat.le_trans hWb.size D4.size) _).setCell (Nat.le_trans hWb.size D4.size) _⟩
    · have B5 : Below w.heap.size w w5 := (hWb.trans (D4.mono hWb.size)).trans (D5.mono (Nat.le_trans hWb.size D4.size))
      have HR : Hid (r5 = decide (x + -y < 0)) := n5.1
      have v0 := (hc5 W.heap.size 0 y1).trans (hc4 W.heap.size 0 (by simp))
      simp at v0
      clear n5
      go_wp2_with fail
      go_meet
      case rel => exact ⟨W.heap.size, rfl, by rw [← HR.out]; simp [v0, go_sem], (B5.setCell hWb.size _).setCell hWb.size _⟩
  case rest =>
    obtain ⟨g, rfl, h0, hB⟩ := hcut
    rw [hxy.out] at h0
    go_wp2_with fail
    go_ret
    exact ⟨rfl, hB⟩
end Go.Proofs.Ytjcbjhnnmkmjkaa
