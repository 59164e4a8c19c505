/-
  Contracts of the second reference: On, Floor, Ceil, In, Worth, Band, Good and Worst, for every input.
-/
import Derived.Test.YtfphjhmhiaepiaaGreatKB
import Derived.Test.YtfphjhmhiaepiaaGreatKC
namespace Go.Proofs.YtfphjhmhiaepiaaGreat
open Go.ChangeShapes Go.WideShapes Go.ChangeAt Go.RowKit

theorem floor2_any (n s : Int) (w : World) (n2 : n ≤ 9223372036854775807) :
    Calls Tryz.prog 34 #[.int .i64 n, .int .i64 s] w fun e w' => e = .returned (.tuple #[.int .i64 (flN n s), .int .i64 (flE n s)]) ∧ w' = w := by
  unfold flN flE
  by_cases h : stepBad n s
  · rw [if_pos h, if_pos h]
    unfold stepBad at h
    by_cases k : s < 1
    all_goals
      go_enter Tryz.func34, Tryz.ntmps34
      go_wp2
      go_ret2
      exact ⟨rfl, rfl⟩
  · rw [if_neg h, if_neg h]
    unfold stepBad at h
    have b := floor_bd n s (by omega) (by omega)
    have m0 : 0 ≤ n % s := Int.emod_nonneg _ (by omega)
    go_enter Tryz.func34, Tryz.ntmps34
    go_wp2
    go_ret2
    exact ⟨rfl, rfl⟩
theorem in2_yes (n l m : Int) (w : World) (h : l ≤ n ∧ n ≤ m) :
    Calls Tryz.prog 32 #[.int .i64 n, .int .i64 l, .int .i64 m] w fun e w' => e = .returned (.bool true) ∧ w' = w := by
  go_enter Tryz.func32, Tryz.ntmps32
  go_wp2
  go_ret
  exact ⟨rfl, rfl⟩
theorem in2_no (n l m : Int) (w : World) (h : ¬ (l ≤ n ∧ n ≤ m)) :
    Calls Tryz.prog 32 #[.int .i64 n, .int .i64 l, .int .i64 m] w fun e w' => e = .returned (.bool false) ∧ w' = w := by
  by_cases k : l ≤ n
  all_goals
    go_enter Tryz.func32, Tryz.ntmps32
    go_wp2
    go_ret
    exact ⟨by first | rfl | (show Ending.returned (.bool (decide (n ≤ m))) = _; rw [decide_eq_false (by omega)]), rfl⟩
set_option maxHeartbeats 1000000 in
theorem ceil2_any (n s : Int) (w : World) (n2 : n ≤ 9223372036854775807) (s2 : s ≤ 9223372036854775807) :
    Calls Tryz.prog 33 #[.int .i64 n, .int .i64 s] w fun e w' => e = .returned (.tuple #[.int .i64 (ceN n s), .int .i64 (ceE n s)]) ∧ Below w.heap.size w w' := by
  unfold ceN ceE
  by_cases h : stepBad n s
  · rw [if_pos h, if_pos h]
    unfold stepBad at h
    by_cases k : s < 1
    all_goals
      go_enter Tryz.func33, Tryz.ntmps33
      go_wp2
      go_ret2
      exact ⟨rfl, Below.refl _ _⟩
  · rw [if_neg h, if_neg h]
    unfold stepBad at h
    by_cases k : n % s = 0
    · rw [ceV_zero n s (by omega) k, (ans_is n (by omega)).1, (ans_is n (by omega)).2]
      go_enter Tryz.func33, Tryz.ntmps33
      go_wp2
      go_ret2
      exact ⟨rfl, Below.refl _ _⟩
    · rw [ceV_more n s (by omega) k]
      have b := floor_bd n s (by omega) (by omega)
      have m0 : 0 ≤ n % s := Int.emod_nonneg _ (by omega)
      go_enter Tryz.func33, Tryz.ntmps33
      go_wp2_with fail
      refine (of_any (n - n % s) _ (by omega) (by omega)).mono ?_
      rintro e w3 ⟨va, rfl, hb3, la, r1, r2, r3, r4⟩
      go_wp2_with fail
      refine (of_any s _ (by omega) (by omega)).mono ?_
      rintro e w4 ⟨vb, rfl, hb4, lb, k1, k2, k3, k4⟩
      have B4 := hb3.trans (hb4.mono hb3.size)
      have nx : IsNum w.heap.size w4 (decide (n - n % s < 0)) va (n - n % s) 64 := ⟨rfl, la, r1.below hb4, r2, r3, r4⟩
      have ny : IsNum w3.heap.size w4 (decide (s < 0)) vb s 64 := ⟨rfl, lb, k1, k2, k3, k4⟩
      generalize decide (n - n % s < 0) = sa at *
      generalize decide (s < 0) = sb at *
      clear hb3 hb4 r1 r2 r3 r4 k1 k2 k3 k4
      go_wp2_with fail
      refine (addR_any sa sb _ _ (n - n % s) s 64 64 _ nx ny (by decide) (by decide)).mono ?_
      rintro e w5 ⟨r5, v5, rfl, hb5, n5⟩
      have B5 := B4.trans (hb5.mono B4.size)
      go_wp2_with fail
      refine (toldR_any r5 v5 (n - n % s + s) _ _ n5).mono ?_
      rintro e w6 ⟨rfl, hb6⟩
      have B6 := B5.trans (hb6.mono B5.size)
      clear nx ny n5
      go_wp2
      go_ret2
      exact ⟨rfl, B6⟩
theorem band2_bad (m d t : Int) (w : World) (h : baBad m d t) :
    Calls Tryz.prog 13 #[.int .i64 m, .int .i64 d, .int .i64 t] w fun e w' => e = .returned (.tuple #[.int .i64 0, .int .i64 0, .int .i64 2]) ∧ w' = w := by
  unfold baBad at h
  by_cases hm : 0 ≤ m ∧ m ≤ 1099511627776
  · by_cases hd : 0 ≤ d ∧ d ≤ 10000
    · have ht : t < 1 := by omega
      clear h
      go_enter Tryz.func13, Tryz.ntmps13
      go_wp2_with fail
      refine (in2_yes m _ _ _ hm).mono ?_
      rintro e w1 ⟨rfl, rfl⟩
      go_wp2_with fail
      refine (in2_yes d _ _ _ hd).mono ?_
      rintro e w1 ⟨rfl, rfl⟩
      go_wp2
      go_ret3
      exact ⟨rfl, rfl⟩
    · clear h
      go_enter Tryz.func13, Tryz.ntmps13
      go_wp2_with fail
      refine (in2_yes m _ _ _ hm).mono ?_
      rintro e w1 ⟨rfl, rfl⟩
      go_wp2_with fail
      refine (in2_no d _ _ _ hd).mono ?_
      rintro e w1 ⟨rfl, rfl⟩
      go_wp2
      go_ret3
      exact ⟨rfl, rfl⟩
  · clear h
    go_enter Tryz.func13, Tryz.ntmps13
    go_wp2_with fail
    refine (in2_no m _ _ _ hm).mono ?_
    rintro e w1 ⟨rfl, rfl⟩
    go_wp2
    go_ret3
    exact ⟨rfl, rfl⟩
set_option maxHeartbeats 2000000 in
theorem band2_good (m d t : Int) (w : World) (h : ¬ baBad m d t) (t2 : t ≤ 9223372036854775807) :
    Calls Tryz.prog 13 #[.int .i64 m, .int .i64 d, .int .i64 t] w fun e w' => e = .returned (.tuple #[.int .i64 (baL m d t), .int .i64 (baH m d t), .int .i64 (baE m d t)]) ∧ Below w.heap.size w w' := by
  have h' := h
  unfold baBad at h'
  have hm : 0 ≤ m ∧ m ≤ 1099511627776 := by omega
  have hd : 0 ≤ d ∧ d ≤ 10000 := by omega
  have ht : 1 ≤ t := by omega
  clear h'
  obtain ⟨l1, l2, l3⟩ := least_bd m d hm hd
  obtain ⟨k1, k2, k3, k4⟩ := most_bd m d hm hd
  have F3 : ∀ w, Calls Tryz.prog 33 #[.int .i64 ((m * (10000 - d) + 9999) / 10000), .int .i64 t] w fun e w' => e = .returned (.tuple #[.int .i64 (bL m d t), .int .i64 0]) ∧ Below w.heap.size w w' := by
    intro w
    have h := ceil2_any (bLeast m d) t w (by omega) t2
    have nb : ¬ stepBad (bLeast m d) t := by unfold stepBad; omega
    have c := ceil_le (bLeast m d) t (by omega) ht t2
    have z := ans_is (ceV (bLeast m d) t) (by omega)
    rw [show ceN (bLeast m d) t = bL m d t by unfold ceN bL; rw [if_neg nb, z.1], show ceE (bLeast m d) t = 0 by unfold ceE; rw [if_neg nb, z.2]] at h
    exact h
  have F4 : ∀ v w, v = bMost m d → Calls Tryz.prog 34 #[.int .i64 v, .int .i64 t] w fun e w' => e = .returned (.tuple #[.int .i64 (bH m d t), .int .i64 0]) ∧ w' = w := by
    intro v w hv
    subst hv
    have h := floor2_any (bMost m d) t w (by omega)
    have nb : ¬ stepBad (bMost m d) t := by unfold stepBad; omega
    rw [show flN (bMost m d) t = bH m d t by unfold flN bH; rw [if_neg nb], show flE (bMost m d) t = 0 by unfold flE; rw [if_neg nb]] at h
    exact h
  have e4 : min (m * (10000 + d) / 10000) 1099511627776 = bMost m d := rfl
  have k5 : m * (10000 + d) ≤ 21990232555530000 := by omega
  have l4 : m * (10000 - d) ≤ 10995116277760000 := by unfold bLeast at l3; omega
  unfold baL baH baE
  simp only [if_neg h]
  clear h l2 l3 k2
  generalize bL m d t = x at *
  generalize bH m d t = y at *
  generalize bMost m d = u at *
  by_cases xy : x ≤ y
  all_goals
    simp only [xy, if_true, if_false]
    by_cases c : m * (10000 + d) / 10000 ≤ 1099511627776
    all_goals
      go_enter Tryz.func13, Tryz.ntmps13
      go_wp2_with fail
      refine (in2_yes m _ _ _ hm).mono ?_
      rintro e w1 ⟨rfl, rfl⟩
      go_wp2_with fail
      refine (in2_yes d _ _ _ hd).mono ?_
      rintro e w1 ⟨rfl, rfl⟩
      go_wp2_with fail
      refine (F3 _).mono ?_
      rintro e w2 ⟨rfl, hb2⟩
      go_wp2_with fail
      refine (F4 _ _ (by omega)).mono ?_
      rintro e w3 ⟨rfl, rfl⟩
      go_wp2
      go_ret3
      exact ⟨rfl, hb2⟩
theorem band2_any (m d t : Int) (w : World) (t2 : t ≤ 9223372036854775807) :
    Calls Tryz.prog 13 #[.int .i64 m, .int .i64 d, .int .i64 t] w fun e w' => e = .returned (.tuple #[.int .i64 (baL m d t), .int .i64 (baH m d t), .int .i64 (baE m d t)]) ∧ Below w.heap.size w w' := by
  by_cases h : baBad m d t
  · have := (band2_bad m d t w h)
    unfold baL baH baE
    simp only [if_pos h]
    exact this.mono fun e w' ⟨h1, h2⟩ => ⟨h1, h2 ▸ Below.refl _ _⟩
  · exact band2_good m d t w h t2
end Go.Proofs.YtfphjhmhiaepiaaGreat
