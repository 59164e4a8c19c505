/-
  Offers; contracts of cmp's isNaN, Compare, Or, and of the comparison that router's Rank hands to the library.
-/
import Derived.Test.YtbjibmfehphffaaBut
namespace Go.Proofs.Ytbjibmfehphffaa.RO
open Go.ChangeShapes Go.WideShapes Go.ChangeAt Go.RowKit

/-- An offer. -/
structure Of where
  pl : Int
  lt : Int
  fe : Int
  sh : Int
  ok : Bool
/-- Its cells. -/
def cO (x : Of) (j : Nat) : Value := if j = 0 then .int .i64 x.pl else if j = 1 then .int .i64 x.lt else if j = 2 then .int .i64 x.fe else if j = 3 then .int .i64 x.sh else .bool x.ok
/-- Its value. -/
abbrev oV (x : Of) : Value := .agg #[.int .i64 x.pl, .int .i64 x.lt, .int .i64 x.fe, .int .i64 x.sh, .bool x.ok]
/-- A comparison's answer. -/
def cmpI3 (a b : Int) : Int := if a < b then -1 else if b < a then 1 else 0
/-- The first of three that is not 0. -/
def or3 (x y z : Int) : Int := if x ≠ 0 then x else if y ≠ 0 then y else z
/-- What the comparison of two offers answers. -/
def cmpO (a b : Of) : Int := or3 (cmpI3 a.fe b.fe) (cmpI3 b.sh a.sh) (cmpI3 a.pl b.pl)
/-- Does one offer stand ahead of another? -/
def ltO (a b : Of) : Bool := decide (a.fe < b.fe ∨ (a.fe = b.fe ∧ (b.sh < a.sh ∨ (b.sh = a.sh ∧ a.pl < b.pl))))
theorem cmp_less {a b : Int} (h : a < b) : cmpI3 a b = -1 := if_pos h
theorem cmp_more {a b : Int} (h : b < a) : cmpI3 a b = 1 := by unfold cmpI3; rw [if_neg (by omega), if_pos h]
theorem cmp_same {a b : Int} (h : a = b) : cmpI3 a b = 0 := by unfold cmpI3; rw [if_neg (by omega), if_neg (by omega)]
theorem or3_first {x y z : Int} (h : x ≠ 0) : or3 x y z = x := if_pos h
theorem or3_second {y z : Int} (h : y ≠ 0) : or3 0 y z = y := by unfold or3; rw [if_neg (by simp), if_pos h]
theorem or3_third {z : Int} : or3 0 0 z = z := by unfold or3; rw [if_neg (by simp), if_neg (by simp)]
theorem cmpO_lt (a b : Of) : decide (cmpO a b < 0) = ltO a b := by
  unfold cmpO ltO
  refine decide_eq_decide.2 ?_
  rcases Int.lt_trichotomy a.fe b.fe with h | h | h
  · rw [cmp_less h, or3_first (by omega)]; omega
  · rw [cmp_same h]
    rcases Int.lt_trichotomy b.sh a.sh with k | k | k
    · rw [cmp_less k, or3_second (by omega)]; omega
    · rw [cmp_same k, or3_third]
      rcases Int.lt_trichotomy a.pl b.pl with m | m | m
      · rw [cmp_less m]; omega
      · rw [cmp_same m]; omega
      · rw [cmp_more m]; omega
    · rw [cmp_more k, or3_second (by omega)]; omega
  · rw [cmp_more h, or3_first (by omega)]; omega

theorem isNaN_any (x : Int) (w : World) : Calls Try.prog 46 #[.int .i64 x] w fun e w' => e = .returned (.bool false) ∧ w = w' := by
  go_enter Try.func46, Try.ntmps46
  go_wp2
  go_ret
  exact ⟨by simp, rfl⟩
theorem compare_any (x y : Int) (w : World) : Calls Try.prog 27 #[.int .i64 x, .int .i64 y] w fun e w' => e = .returned (.int .i64 (cmpI3 x y)) ∧ w = w' := by
  unfold cmpI3
  by_cases h : x < y
  · rw [if_pos h]
    go_enter Try.func27, Try.ntmps27
    go_wp2_with (go_at_call 46; refine (isNaN_any _ _).mono ?_; rintro e w1 ⟨rfl, rfl⟩)
    go_ret
    exact ⟨rfl, rfl⟩
  · by_cases k : y < x
    · rw [if_neg h, if_pos k]
      go_enter Try.func27, Try.ntmps27
      go_wp2_with (go_at_call 46; refine (isNaN_any _ _).mono ?_; rintro e w1 ⟨rfl, rfl⟩)
      go_ret
      exact ⟨rfl, rfl⟩
    · rw [if_neg h, if_neg k]
      go_enter Try.func27, Try.ntmps27
      go_wp2_with (go_at_call 46; refine (isNaN_any _ _).mono ?_; rintro e w1 ⟨rfl, rfl⟩)
      go_ret
      exact ⟨rfl, rfl⟩
set_option maxHeartbeats 1000000 in
theorem or_any (x y z : Int) (b : Nat) (w : World) (c0 : w.cell? ⟨b, 0, none⟩ = some (.int .i64 x)) (c1 : w.cell? ⟨b, 1, none⟩ = some (.int .i64 y)) (c2 : w.cell? ⟨b, 2, none⟩ = some (.int .i64 z)) :
    Calls Try.prog 26 #[.slice (some ⟨b, 0, none⟩) 3 3] w fun e w' => e = .returned (.int .i64 (or3 x y z)) ∧ w = w' := by
  by_cases h1 : x = 0
  · subst h1
    by_cases h2 : y = 0
    · subst h2
      rw [or3_third]
      by_cases h3 : z = 0
      · subst h3
        go_enter Try.func26, Try.ntmps26
        go_wp2_with fail
        refine wp_loop_rounds 4 ?_
        iterate 4 (rw [rounds_succ]; go_wp2_with fail)
        go_ret
        exact ⟨rfl, rfl⟩
      · go_enter Try.func26, Try.ntmps26
        go_wp2_with fail
        refine wp_loop_rounds 3 ?_
        iterate 3 (rw [rounds_succ]; go_wp2_with fail)
        go_ret
        exact ⟨rfl, rfl⟩
    · rw [or3_second h2]
      go_enter Try.func26, Try.ntmps26
      go_wp2_with fail
      refine wp_loop_rounds 2 ?_
      iterate 2 (rw [rounds_succ]; go_wp2_with fail)
      go_ret
      exact ⟨rfl, rfl⟩
  · rw [or3_first h1]
    go_enter Try.func26, Try.ntmps26
    go_wp2_with fail
    refine wp_loop_rounds 1 ?_
    iterate 1 (rw [rounds_succ]; go_wp2_with fail)
    go_ret
    exact ⟨rfl, rfl⟩
set_option maxHeartbeats 1000000 in
/-- The comparison, whatever two offers. -/
theorem rank1_any (x y : Of) (w : World) : Calls Try.prog 25 #[oV x, oV y] w fun e w' => e = .returned (.int .i64 (cmpO x y)) ∧ Below w.heap.size w w' := by
  obtain ⟨a0, a1, a2, a3, a4⟩ := x
  obtain ⟨b0, b1, b2, b3, b4⟩ := y
  unfold oV cmpO
  dsimp only
  generalize hs : or3 (cmpI3 a2 b2) (cmpI3 b3 a3) (cmpI3 a0 b0) = s
  have F4 : ∀ (b : Nat) (w : World), w.cell? ⟨b, 0, none⟩ = some (.int .i64 (cmpI3 a2 b2)) → w.cell? ⟨b, 1, none⟩ = some (.int .i64 (cmpI3 b3 a3)) → w.cell? ⟨b, 2, none⟩ = some (.int .i64 (cmpI3 a0 b0)) → Calls Try.prog 26 #[.slice (some ⟨b, 0, none⟩) 3 3] w fun e w' => e = .returned (.int .i64 s) ∧ w = w' := fun b w c0 c1 c2 => hs ▸ or_any _ _ _ b w c0 c1 c2
  clear hs
  go_enter Try.func25, Try.ntmps25
  have hne : ¬ w.heap.size = w.heap.size + 1 := by omega
  go_wp2_with fail
  go_region_held3 (fun w' => w'.cell? ⟨w.heap.size, 2, none⟩ = some (.int .i64 a2) ∧ w'.cell? ⟨w.heap.size + 1, 2, none⟩ = some (.int .i64 b2) ∧ w'.cell? ⟨w.heap.size, 3, none⟩ = some (.int .i64 a3) ∧ w'.cell? ⟨w.heap.size + 1, 3, none⟩ = some (.int .i64 b3) ∧ w'.cell? ⟨w.heap.size, 0, none⟩ = some (.int .i64 a0) ∧ w'.cell? ⟨w.heap.size + 1, 0, none⟩ = some (.int .i64 b0)) (go_keep) (first
   | (go_at_call 27; refine (compare_any _ _ _).mono ?_; rintro e w1 ⟨rfl, rfl⟩)
   | (go_at_call 26; refine (F4 _ _ (by go_simp) (by go_simp) (by go_simp)).mono ?_; rintro e w1 ⟨rfl, rfl⟩))
  go_wp2_with fail
  go_ret
  refine ⟨rfl, ?_⟩
  first | exact (((Below.refl _ _).alloc (Nat.le_refl _) _).alloc (by simp) _).alloc (by simp; omega) _ | exact ((((Below.refl _ _).alloc (Nat.le_refl _) _).alloc (by simp) _).alloc (by simp; omega) _).drew | exact ((((Below.refl _ _).alloc (Nat.le_refl _) _).alloc (by simp) _).drew).alloc (by simp; omega) _
end Go.Proofs.Ytbjibmfehphffaa.RO
