/-
  Contracts of package grain's steps: brought, Floor, Ceil and On, for every input.
-/
import Derived.Test.YtfphjhmhiaepiaaGreatKA
namespace Go.Proofs.YtfphjhmhiaepiaaGreat
open Go.ChangeShapes Go.WideShapes Go.ChangeAt Go.RowKit

theorem floor1_any (r : Int) (w : World) (r1 : 0 ≤ r) (r2 : r ≤ 9223372036854775807) :
    Calls Tryz.prog 80 #[.int .i64 r] w fun e w' => e = .returned (.int .i64 (-r)) ∧ w' = w := by
  go_enter Tryz.func80, Tryz.ntmps80
  go_wp2
  go_ret
  exact ⟨rfl, rfl⟩
theorem ceil1_any (r s q : Int) (hq : Hid ((s - r) % s = q)) (B : Nat) (w : World) (hc : w.cell? ⟨B, 0, none⟩ = some (.int .i64 s)) (r1 : 0 ≤ r) (r2 : r < s) (s2 : s ≤ 9223372036854775807) :
    Calls Tryz.prog 79 #[.int .i64 r, .pointer (some ⟨B, 0, none⟩)] w fun e w' => e = .returned (.int .i64 q) ∧ w' = w := by
  go_enter Tryz.func79, Tryz.ntmps79
  go_wp2
  go_ret
  exact ⟨by rw [← hq.out]; rfl, rfl⟩
/-- What Floor and Ceil answer. -/
abbrev stepBad (n s : Int) : Prop := s < 1 ∨ n < 0
def flN (n s : Int) : Int := if stepBad n s then 0 else n - n % s
def flE (n s : Int) : Int := if stepBad n s then 2 else 0
def ceV (n s : Int) : Int := n + (s - n % s) % s
def ceN (n s : Int) : Int := if stepBad n s then 0 else ansN (ceV n s)
def ceE (n s : Int) : Int := if stepBad n s then 2 else ansE (ceV n s)

theorem ans_is (z : Int) (k : -9223372036854775808 ≤ z ∧ z ≤ 9223372036854775807) : ansN z = z ∧ ansE z = 0 := by
  unfold ansN ansE; exact ⟨if_pos k, if_pos k⟩
theorem brought_bad (n s : Int) (f : Value) (w : World) (h : stepBad n s) :
    Calls Tryz.prog 78 #[.int .i64 n, .int .i64 s, f] w fun e w' => e = .returned (.tuple #[.int .i64 0, .int .i64 2]) ∧ w' = w := by
  unfold stepBad at h
  by_cases k : s < 1
  all_goals
    go_enter Tryz.func78, Tryz.ntmps78
    go_wp2
    go_ret2
    exact ⟨rfl, rfl⟩
theorem brought_floor (n s : Int) (w : World) (h : ¬ stepBad n s) (n2 : n ≤ 9223372036854775807) (s2 : s ≤ 9223372036854775807) :
    Calls Tryz.prog 78 #[.int .i64 n, .int .i64 s, .func (.func 80) #[] #[]] w fun e w' => e = .returned (.tuple #[.int .i64 (n - n % s), .int .i64 0]) ∧ Below w.heap.size w w' := by
  unfold stepBad at h
  have m0 : 0 ≤ n % s := Int.emod_nonneg _ (by omega)
  have m1 : n % s < s := Int.emod_lt_of_pos _ (by omega)
  have m2 : n % s ≤ n := by have := Int.ediv_mul_le n (show s ≠ 0 by omega); have := Int.emod_add_mul_ediv n s; have : 0 ≤ s * (n / s) := Int.mul_nonneg (by omega) (Int.ediv_nonneg (by omega) (by omega)); omega
  go_enter Tryz.func78, Tryz.ntmps78
  go_wp2_with (first
   | (go_at_call 80; refine (floor1_any _ _ m0 (by omega)).mono ?_; rintro e w1 ⟨rfl, rfl⟩)
   | (go_at_call 94; refine (add_any n (-(n % s)) _ (by omega) (by omega) (by omega) (by omega)).mono ?_; rintro e w2 ⟨rfl, hb⟩))
  go_ret2
  exact ⟨by rw [(ans_is (n + -(n % s)) (by omega)).1, (ans_is (n + -(n % s)) (by omega)).2, show n + -(n % s) = n - n % s by omega]; rfl, hb⟩
set_option maxHeartbeats 800000 in
theorem brought_ceil (n s : Int) (B : Nat) (w : World) (hc : w.cell? ⟨B, 0, none⟩ = some (.int .i64 s)) (h : ¬ stepBad n s) (n2 : n ≤ 9223372036854775807) (s2 : s ≤ 9223372036854775807) :
    Calls Tryz.prog 78 #[.int .i64 n, .int .i64 s, .func (.func 79) #[] #[.pointer (some ⟨B, 0, none⟩)]] w fun e w' => e = .returned (.tuple #[.int .i64 (ansN (ceV n s)), .int .i64 (ansE (ceV n s))]) ∧ Below w.heap.size w w' := by
  unfold stepBad at h
  have m0 : 0 ≤ n % s := Int.emod_nonneg _ (by omega)
  have m1 : n % s < s := Int.emod_lt_of_pos _ (by omega)
  obtain ⟨q, hq⟩ : ∃ q, (s - n % s) % s = q := ⟨_, rfl⟩
  have m3 : 0 ≤ q := by rw [← hq]; exact Int.emod_nonneg _ (by omega)
  have m4 : q < s := by rw [← hq]; exact Int.emod_lt_of_pos _ (by omega)
  have e1 : ceV n s = n + q := by unfold ceV; rw [hq]
  rw [e1]
  replace hq : Hid ((s - n % s) % s = q) := hq
  clear e1
  go_enter Tryz.func78, Tryz.ntmps78
  go_wp2_with fail
  refine (ceil1_any (n % s) s q hq B _ hc m0 m1 s2).mono ?_
  rintro e w1 ⟨rfl, rfl⟩
  go_wp2_with fail
  refine (add_any n q _ (by omega) (by omega) (by omega) (by omega)).mono ?_
  rintro e w2 ⟨rfl, hb⟩
  go_wp2
  go_ret2
  exact ⟨rfl, hb⟩
theorem floor_any (n s : Int) (w : World) (n2 : n ≤ 9223372036854775807) (s2 : s ≤ 9223372036854775807) :
    Calls Tryz.prog 71 #[.int .i64 n, .int .i64 s] w fun e w' => e = .returned (.tuple #[.int .i64 (flN n s), .int .i64 (flE n s)]) ∧ Below w.heap.size w w' := by
  unfold flN flE
  by_cases h : stepBad n s
  · rw [if_pos h, if_pos h]
    go_enter Tryz.func71, Tryz.ntmps71
    go_wp2_with (go_at_call 78; refine (brought_bad n s _ _ h).mono ?_; rintro e w1 ⟨rfl, rfl⟩)
    go_ret2
    exact ⟨rfl, Below.refl _ _⟩
  · rw [if_neg h, if_neg h]
    go_enter Tryz.func71, Tryz.ntmps71
    go_wp2_with (go_at_call 78; refine (brought_floor n s _ h n2 s2).mono ?_; rintro e w1 ⟨rfl, hb⟩)
    go_ret2
    exact ⟨rfl, hb⟩
theorem ceil_any (n s : Int) (w : World) (n2 : n ≤ 9223372036854775807) (s2 : s ≤ 9223372036854775807) :
    Calls Tryz.prog 70 #[.int .i64 n, .int .i64 s] w fun e w' => e = .returned (.tuple #[.int .i64 (ceN n s), .int .i64 (ceE n s)]) ∧ Below w.heap.size w w' := by
  unfold ceN ceE
  have hc : (w.alloc (.cells #[.int .i64 s] 3)).cell? ⟨w.heap.size, 0, none⟩ = some (.int .i64 s) := by simp
  by_cases h : stepBad n s
  · rw [if_pos h, if_pos h]
    go_enter Tryz.func70, Tryz.ntmps70
    go_wp2_with (go_at_call 78; refine (brought_bad n s _ _ h).mono ?_; rintro e w1 ⟨rfl, rfl⟩)
    go_ret2
    exact ⟨rfl, Below.alloc (Below.refl _ _) (Nat.le_refl _) _⟩
  · rw [if_neg h, if_neg h]
    go_enter Tryz.func70, Tryz.ntmps70
    go_wp2_with (go_at_call 78; refine (brought_ceil n s _ _ hc h n2 s2).mono ?_; rintro e w1 ⟨rfl, hb⟩)
    go_ret2
    exact ⟨rfl, (Below.alloc (Below.refl _ _) (Nat.le_refl _) _).trans (hb.mono (by simp))⟩
end Go.Proofs.YtfphjhmhiaepiaaGreat
/-
  Contracts of package grain's upTo, Worth, Good, Worst, around, inOrder and Band, for every input.
-/
namespace Go.Proofs.YtfphjhmhiaepiaaGreat
open Go.ChangeShapes Go.WideShapes Go.ChangeAt Go.RowKit

theorem upTo_any (n m : Int) (w : World) :
    Calls Tryz.prog 50 #[.int .i64 n, .int .i64 m] w fun e w' => e = .returned (.bool (decide (0 ≤ n ∧ n ≤ m))) ∧ w' = w := by
  by_cases h : 0 ≤ n
  · have k : decide (0 ≤ n ∧ n ≤ m) = decide (n ≤ m) := decide_eq_decide.2 (by omega)
    rw [k]
    clear k
    go_enter Tryz.func50, Tryz.ntmps50
    go_wp2
    go_ret
    exact ⟨rfl, rfl⟩
  · have k : decide (0 ≤ n ∧ n ≤ m) = false := decide_eq_false (by omega)
    rw [k]
    clear k
    go_enter Tryz.func50, Tryz.ntmps50
    go_wp2
    go_ret
    exact ⟨rfl, rfl⟩
theorem upTo_yes (n m : Int) (w : World) (h : 0 ≤ n ∧ n ≤ m) :
    Calls Tryz.prog 50 #[.int .i64 n, .int .i64 m] w fun e w' => e = .returned (.bool true) ∧ w' = w := by
  have := upTo_any n m w; rwa [decide_eq_true h] at this
theorem upTo_no (n m : Int) (w : World) (h : ¬ (0 ≤ n ∧ n ≤ m)) :
    Calls Tryz.prog 50 #[.int .i64 n, .int .i64 m] w fun e w' => e = .returned (.bool false) ∧ w' = w := by
  have := upTo_any n m w; rwa [decide_eq_false h] at this


/-- The band's ends. -/
def bLeast (m d : Int) : Int := (m * (10000 - d) + 9999) / 10000
def bMost (m d : Int) : Int := min (m * (10000 + d) / 10000) 1099511627776
def bL (m d t : Int) : Int := ceV (bLeast m d) t
def bH (m d t : Int) : Int := bMost m d - bMost m d % t
theorem frac_up (p : Int) (hp : 0 ≤ p) : frac p 10000 true = (p + 9999) / 10000 := by
  unfold frac
  rw [show decide (p < 0) = false by simp; omega, show decide ((10000 : Int) < 0) = false by simp, show (p.natAbs : Int) = p by omega, show ((10000 : Int).natAbs : Int) = 10000 by rfl]
  by_cases h : p % 10000 = 0
  · simp [h]; omega
  · simp [h]; omega
theorem least_bd (m d : Int) (hm : 0 ≤ m ∧ m ≤ 1099511627776) (hd : 0 ≤ d ∧ d ≤ 10000) : 0 ≤ m * (10000 - d) ∧ 0 ≤ bLeast m d ∧ bLeast m d ≤ m := by
  have h1 : 0 ≤ m * (10000 - d) := Int.mul_nonneg hm.1 (by omega)
  have h2 : m * (10000 - d) ≤ m * 10000 := Int.mul_le_mul_of_nonneg_left (by omega) hm.1
  unfold bLeast
  omega
theorem most_bd (m d : Int) (hm : 0 ≤ m ∧ m ≤ 1099511627776) (hd : 0 ≤ d ∧ d ≤ 10000) : 0 ≤ m * (10000 + d) ∧ m * (10000 + d) / 10000 ≤ 2199023255552 ∧ m ≤ bMost m d ∧ bMost m d ≤ 1099511627776 := by
  have h2 : m * 10000 ≤ m * (10000 + d) := Int.mul_le_mul_of_nonneg_left (by omega) hm.1
  have h3 : m * (10000 + d) ≤ m * 20000 := Int.mul_le_mul_of_nonneg_left (by omega) hm.1
  unfold bMost
  omega
theorem ceil_le (n t : Int) (hn : 0 ≤ n ∧ n ≤ 1099511627776) (ht : 1 ≤ t) (t2 : t ≤ 9223372036854775807) : n ≤ ceV n t ∧ ceV n t ≤ 9223372036854775807 := by
  have m0 : 0 ≤ n % t := Int.emod_nonneg _ (by omega)
  have m1 : n % t < t := Int.emod_lt_of_pos _ (by omega)
  have m3 : 0 ≤ (t - n % t) % t := Int.emod_nonneg _ (by omega)
  have m4 : (t - n % t) % t < t := Int.emod_lt_of_pos _ (by omega)
  unfold ceV
  refine ⟨by omega, ?_⟩
  by_cases h : n < t
  · have e : n % t = n := Int.emod_eq_of_lt hn.1 h
    by_cases h0 : n = 0
    · subst h0; simp
    · rw [e, Int.emod_eq_of_lt (by omega) (by omega)]; omega
  · omega

set_option maxHeartbeats 800000 in
theorem around_any (m d t : Int) (w : World) (hm : 0 ≤ m ∧ m ≤ 1099511627776) (hd : 0 ≤ d ∧ d ≤ 10000) (ht : 1 ≤ t) (t2 : t ≤ 9223372036854775807) :
    Calls Tryz.prog 51 #[.int .i64 m, .int .i64 d, .int .i64 t] w fun e w' => e = .returned (.agg #[.int .i64 (bL m d t), .int .i64 (bH m d t)]) ∧ Below w.heap.size w w' := by
  obtain ⟨l1, l2, l3⟩ := least_bd m d hm hd
  obtain ⟨k1, k2, k3, k4⟩ := most_bd m d hm hd
  have F1 : ∀ w, Calls Tryz.prog 68 #[.int .i64 m, .int .i64 (10000 - d), .int .i64 10000] w fun e w' => e = .returned (.tuple #[.int .i64 (bLeast m d), .int .i64 0]) ∧ Below w.heap.size w w' := by
    intro w
    have := ups m (10000 - d) 10000 _ rfl w (by omega) (by omega) (by omega) (by omega) (by decide) (by decide) rfl
    rw [frac_up _ l1] at this
    have z := ans_is ((m * (10000 - d) + 9999) / 10000) (by unfold bLeast at l2 l3; omega)
    rwa [z.1, z.2] at this
  have F2 : ∀ w, Calls Tryz.prog 69 #[.int .i64 m, .int .i64 (10000 + d), .int .i64 10000] w fun e w' => e = .returned (.tuple #[.int .i64 (m * (10000 + d) / 10000), .int .i64 0]) ∧ Below w.heap.size w w' := by
    intro w
    have := downs m (10000 + d) 10000 _ rfl w (by omega) (by omega) (by omega) (by omega) (by decide) (by decide) rfl
    rw [frac_plain _ _ k1 (by decide)] at this
    have z := ans_is (m * (10000 + d) / 10000) (by omega)
    rwa [z.1, z.2] at this
  have F3 : ∀ w, Calls Tryz.prog 70 #[.int .i64 (bLeast m d), .int .i64 t] w fun e w' => e = .returned (.tuple #[.int .i64 (bL m d t), .int .i64 0]) ∧ Below w.heap.size w w' := by
    intro w
    have h := ceil_any (bLeast m d) t w (by omega) t2
    have nb : ¬ stepBad (bLeast m d) t := by unfold stepBad; omega
    have c := ceil_le (bLeast m d) t (by omega) ht t2
    have z := ans_is (ceV (bLeast m d) t) (by omega)
    rw [show ceN (bLeast m d) t = bL m d t by unfold ceN bL; rw [if_neg nb, z.1], show ceE (bLeast m d) t = 0 by unfold ceE; rw [if_neg nb, z.2]] at h
    exact h
  have F4 : ∀ w, Calls Tryz.prog 71 #[.int .i64 (bMost m d), .int .i64 t] w fun e w' => e = .returned (.tuple #[.int .i64 (bH m d t), .int .i64 0]) ∧ Below w.heap.size w w' := by
    intro w
    have h := floor_any (bMost m d) t w (by omega) t2
    have nb : ¬ stepBad (bMost m d) t := by unfold stepBad; omega
    rw [show flN (bMost m d) t = bH m d t by unfold flN bH; rw [if_neg nb], show flE (bMost m d) t = 0 by unfold flE; rw [if_neg nb]] at h
    exact h
  have e4 : min (m * (10000 + d) / 10000) 1099511627776 = bMost m d := rfl
  have F5 : ∀ v w, v = bMost m d → Calls Tryz.prog 71 #[.int .i64 v, .int .i64 t] w fun e w' => e = .returned (.tuple #[.int .i64 (bH m d t), .int .i64 0]) ∧ Below w.heap.size w w' := by
    intro v w h; subst h; exact F4 w
  clear F4
  generalize bLeast m d = x at *
  generalize bL m d t = y at *
  generalize bH m d t = z at *
  generalize bMost m d = u at *
  generalize m * (10000 + d) / 10000 = v at *
  go_enter Tryz.func51, Tryz.ntmps51
  go_wp2_with fail
  refine (F1 _).mono ?_
  rintro e w1 ⟨rfl, hb1⟩
  go_wp2_with fail
  refine (F2 _).mono ?_
  rintro e w2 ⟨rfl, hb2⟩
  go_wp2_with fail
  refine (F3 _).mono ?_
  rintro e w3 ⟨rfl, hb3⟩
  go_wp2_with fail
  all_goals
    refine (F5 _ _ (by omega)).mono ?_
    rintro e w4 ⟨rfl, hb4⟩
    have B2 := hb1.trans (hb2.mono hb1.size)
    have B3 := B2.trans (hb3.mono B2.size)
    have B4 := B3.trans (hb4.mono B3.size)
    have B0 : Below w.heap.size w w4 := ((Below.refl _ _).alloc (Nat.le_refl _) _).trans (B4.mono (by simp))
    have p0 := B4.cell (p := ⟨w.heap.size, 0, none⟩) (by simp)
    have p1 := B4.cell (p := ⟨w.heap.size, 1, none⟩) (by simp)
    have f0 := (bcell B4).2 w.heap.size 0 (by simp)
    have f1 := (bcell B4).2 w.heap.size 1 (by simp)
    simp at p0 p1 f0 f1
    clear hb1 hb2 hb3 hb4 B2 B3 B4
    go_wp2
    refine bodyPost_ret (v := .agg #[.int .i64 y, .int .i64 z]) (by simp [results, Tryz.results51, go_sem, p0, p1]) rfl ⟨rfl, ?_⟩
    exact (B0.setCell (by simp) _).setCell (by simp) _

theorem inOrder_yes (l h : Int) (w : World) (k : l ≤ h) :
    Calls Tryz.prog 52 #[.agg #[.int .i64 l, .int .i64 h]] w fun e w' => e = .returned (.agg #[.int .i64 l, .int .i64 h]) ∧ Below w.heap.size w w' := by
  by_cases k2 : l = h
  · subst k2
    go_enter Tryz.func52, Tryz.ntmps52
    go_wp2
    refine bodyPost_ret (v := .agg #[.int .i64 l, .int .i64 l]) (by simp [results, Tryz.results52, go_sem]) rfl ⟨rfl, ?_⟩
    exact ((Below.refl _ _).alloc (Nat.le_refl _) _).alloc (by simp) _
  · go_enter Tryz.func52, Tryz.ntmps52
    go_wp2
    refine bodyPost_ret (v := .agg #[.int .i64 l, .int .i64 h]) (by simp [results, Tryz.results52, go_sem]) rfl ⟨rfl, ?_⟩
    exact ((Below.refl _ _).alloc (Nat.le_refl _) _).alloc (by simp) _
theorem inOrder_no (l h : Int) (w : World) (k : h < l) :
    Calls Tryz.prog 52 #[.agg #[.int .i64 l, .int .i64 h]] w fun e w' => e = .returned (.agg #[.int .i64 h, .int .i64 l]) ∧ Below w.heap.size w w' := by
  go_enter Tryz.func52, Tryz.ntmps52
  go_wp2
  refine bodyPost_ret (v := .agg #[.int .i64 h, .int .i64 l]) (by simp [results, Tryz.results52, go_sem]) rfl ⟨rfl, ?_⟩
  exact ((Below.refl _ _).alloc (Nat.le_refl _) _).alloc (by simp) _
/-- Two bands are held against each other end by end. -/
theorem band_eq (a b c d : Int) (w : World) : (Op.equalIn 10000 93 (.agg #[.int .i64 a, .int .i64 b]) (.agg #[.int .i64 c, .int .i64 d])).run Tryz.prog w = .ok (a == c && b == d) w := by
  rw [show (10000 : Nat) = 9999 + 1 from rfl, run_equalIn_struct (P := Tryz.prog) w 9999 _ _ _ (by kernel_rfl) (by kernel_rfl)]
  simp [Program.fieldsOf, Tryz.underlying93, Op.eqFields, go_sem, Tryz.underlying3]
  by_cases h1 : a = c <;> by_cases h2 : b = d <;> simp [h1, h2]

abbrev baBad (m d t : Int) : Prop := ¬ (0 ≤ m ∧ m ≤ 1099511627776) ∨ ¬ (0 ≤ d ∧ d ≤ 10000) ∨ t < 1
theorem band_bad (m d t : Int) (w : World) (h : baBad m d t) :
    Calls Tryz.prog 41 #[.int .i64 m, .int .i64 d, .int .i64 t] w fun e w' => e = .returned (.tuple #[.int .i64 0, .int .i64 0, .int .i64 2]) ∧ w' = w := by
  unfold baBad at h
  by_cases hm : 0 ≤ m ∧ m ≤ 1099511627776
  · by_cases hd : 0 ≤ d ∧ d ≤ 10000
    · have ht : t < 1 := by omega
      clear h
      go_enter Tryz.func41, Tryz.ntmps41
      go_wp2_with fail
      refine (upTo_yes m _ _ hm).mono ?_
      rintro e w1 ⟨rfl, rfl⟩
      go_wp2_with fail
      refine (upTo_yes d _ _ hd).mono ?_
      rintro e w1 ⟨rfl, rfl⟩
      go_wp2
      go_ret3
      exact ⟨rfl, rfl⟩
    · clear h
      go_enter Tryz.func41, Tryz.ntmps41
      go_wp2_with fail
      refine (upTo_yes m _ _ hm).mono ?_
      rintro e w1 ⟨rfl, rfl⟩
      go_wp2_with fail
      refine (upTo_no d _ _ hd).mono ?_
      rintro e w1 ⟨rfl, rfl⟩
      go_wp2
      go_ret3
      exact ⟨rfl, rfl⟩
  · clear h
    go_enter Tryz.func41, Tryz.ntmps41
    go_wp2_with fail
    refine (upTo_no m _ _ hm).mono ?_
    rintro e w1 ⟨rfl, rfl⟩
    go_wp2
    go_ret3
    exact ⟨rfl, rfl⟩
set_option maxHeartbeats 1000000 in
theorem band_yes (m d t : Int) (w : World) (h : ¬ baBad m d t) (t2 : t ≤ 9223372036854775807) (k : bL m d t ≤ bH m d t) :
    Calls Tryz.prog 41 #[.int .i64 m, .int .i64 d, .int .i64 t] w fun e w' => e = .returned (.tuple #[.int .i64 (bL m d t), .int .i64 (bH m d t), .int .i64 0]) ∧ Below w.heap.size w w' := by
  unfold baBad at h
  have hm : 0 ≤ m ∧ m ≤ 1099511627776 := by omega
  have hd : 0 ≤ d ∧ d ≤ 10000 := by omega
  have ht : 1 ≤ t := by omega
  clear h
  have F := fun w => around_any m d t w hm hd ht t2
  generalize bL m d t = x at *
  generalize bH m d t = y at *
  have we := fun w => band_eq x y x y w
  simp only [beq_self_eq_true, Bool.and_self] at we
  go_enter Tryz.func41, Tryz.ntmps41
  go_wp2_with fail
  refine (upTo_yes m _ _ hm).mono ?_
  rintro e w1 ⟨rfl, rfl⟩
  go_wp2_with fail
  refine (upTo_yes d _ _ hd).mono ?_
  rintro e w1 ⟨rfl, rfl⟩
  go_wp2_with fail
  refine (F _).mono ?_
  rintro e W ⟨rfl, hb⟩
  go_wp2_with fail
  go_region_held3 (fun w' => w'.cell? ⟨W.heap.size, 0, none⟩ = some (.int .i64 x) ∧ w'.cell? ⟨W.heap.size, 1, none⟩ = some (.int .i64 y)) (go_keep) (first
   | (go_at_call 52; refine (inOrder_yes x y _ k).mono ?_; rintro e w1 ⟨rfl, hb1⟩; obtain ⟨hc, hf⟩ := bcell hb1; have q0 := hc W.heap.size 0 (by simp); have q1 := hc W.heap.size 1 (by simp); simp at q0 q1))
  clear hc hf
  go_wp2_with fail
  go_region_held3 (fun w' => w'.cell? ⟨W.heap.size, 0, none⟩ = some (.int .i64 x) ∧ w'.cell? ⟨W.heap.size, 1, none⟩ = some (.int .i64 y)) (go_keep) (fail)
  go_wp2
  go_ret3
  exact ⟨rfl, (hb.trans ((((Below.refl _ _).alloc (Nat.le_refl _) _).drew.trans (hb1.mono (B' := W.heap.size) (by simp))).mono hb.size)).drew⟩
set_option maxHeartbeats 1000000 in
theorem band_no (m d t : Int) (w : World) (h : ¬ baBad m d t) (t2 : t ≤ 9223372036854775807) (k : bH m d t < bL m d t) :
    Calls Tryz.prog 41 #[.int .i64 m, .int .i64 d, .int .i64 t] w fun e w' => e = .returned (.tuple #[.int .i64 0, .int .i64 0, .int .i64 22]) ∧ Below w.heap.size w w' := by
  unfold baBad at h
  have hm : 0 ≤ m ∧ m ≤ 1099511627776 := by omega
  have hd : 0 ≤ d ∧ d ≤ 10000 := by omega
  have ht : 1 ≤ t := by omega
  clear h
  have F := fun w => around_any m d t w hm hd ht t2
  generalize bL m d t = x at *
  generalize bH m d t = y at *
  have we := fun w => band_eq x y y x w
  simp only [show (x == y) = false from beq_eq_false_iff_ne.2 (by omega), Bool.false_and] at we
  go_enter Tryz.func41, Tryz.ntmps41
  go_wp2_with fail
  refine (upTo_yes m _ _ hm).mono ?_
  rintro e w1 ⟨rfl, rfl⟩
  go_wp2_with fail
  refine (upTo_yes d _ _ hd).mono ?_
  rintro e w1 ⟨rfl, rfl⟩
  go_wp2_with fail
  refine (F _).mono ?_
  rintro e W ⟨rfl, hb⟩
  go_wp2_with fail
  go_region_held3 (fun w' => w'.cell? ⟨W.heap.size, 0, none⟩ = some (.int .i64 x) ∧ w'.cell? ⟨W.heap.size, 1, none⟩ = some (.int .i64 y)) (go_keep) (first
   | (go_at_call 52; refine (inOrder_no x y _ k).mono ?_; rintro e w1 ⟨rfl, hb1⟩; obtain ⟨hc, hf⟩ := bcell hb1; have q0 := hc W.heap.size 0 (by simp); have q1 := hc W.heap.size 1 (by simp); simp at q0 q1))
  clear hc hf
  go_wp2
  go_ret3
  exact ⟨rfl, hb.trans ((((Below.refl _ _).alloc (Nat.le_refl _) _).drew.trans (hb1.mono (B' := W.heap.size) (by simp))).mono hb.size)⟩
/-- Band's three answers. -/
def baL (m d t : Int) : Int := if baBad m d t then 0 else if bL m d t ≤ bH m d t then bL m d t else 0
def baH (m d t : Int) : Int := if baBad m d t then 0 else if bL m d t ≤ bH m d t then bH m d t else 0
def baE (m d t : Int) : Int := if baBad m d t then 2 else if bL m d t ≤ bH m d t then 0 else 22
theorem band_any (m d t : Int) (w : World) (t2 : t ≤ 9223372036854775807) :
    Calls Tryz.prog 41 #[.int .i64 m, .int .i64 d, .int .i64 t] w fun e w' => e = .returned (.tuple #[.int .i64 (baL m d t), .int .i64 (baH m d t), .int .i64 (baE m d t)]) ∧ Below w.heap.size w w' := by
  unfold baL baH baE
  by_cases h : baBad m d t
  · simp only [if_pos h]
    exact (band_bad m d t w h).mono fun e w' ⟨h1, h2⟩ => ⟨h1, h2 ▸ Below.refl _ _⟩
  · simp only [if_neg h]
    by_cases k : bL m d t ≤ bH m d t
    · simp only [if_pos k]; exact band_yes m d t w h t2 k
    · simp only [if_neg k]; exact band_no m d t w h t2 (by omega)
end Go.Proofs.YtfphjhmhiaepiaaGreat
/-
  Arithmetic of steps and bands, on plain whole numbers.
-/
namespace Go.Proofs.YtfphjhmhiaepiaaGreat
open Go.ChangeShapes Go.WideShapes Go.ChangeAt Go.RowKit

theorem ceV_zero (n s : Int) (_hs : 1 ≤ s) (h : n % s = 0) : ceV n s = n := by
  unfold ceV; rw [h, Int.sub_zero, Int.emod_self, Int.add_zero]
theorem ceV_more (n s : Int) (hs : 1 ≤ s) (h : n % s ≠ 0) : ceV n s = n - n % s + s := by
  have m0 : 0 ≤ n % s := Int.emod_nonneg _ (by omega)
  have m1 : n % s < s := Int.emod_lt_of_pos _ (by omega)
  unfold ceV; rw [Int.emod_eq_of_lt (by omega) (by omega)]; omega
theorem floor_mul (n s : Int) : n - n % s = s * (n / s) := by have := Int.emod_add_mul_ediv n s; omega
theorem floor_on (n s : Int) : (n - n % s) % s = 0 := by rw [floor_mul, Int.mul_emod_right]
theorem ceV_mul (n s : Int) (hs : 1 ≤ s) : ∃ k, ceV n s = s * k := by
  by_cases h : n % s = 0
  · exact ⟨n / s, by rw [ceV_zero n s hs h, ← floor_mul]; omega⟩
  · exact ⟨n / s + 1, by rw [ceV_more n s hs h, floor_mul, Int.mul_add, Int.mul_one]⟩
theorem ceV_on (n s : Int) (hs : 1 ≤ s) : ceV n s % s = 0 := by
  obtain ⟨k, e⟩ := ceV_mul n s hs
  rw [e, Int.mul_emod_right]
theorem floor_bd (n s : Int) (hn : 0 ≤ n) (hs : 1 ≤ s) : 0 ≤ n - n % s ∧ n - n % s ≤ n ∧ n - (n - n % s) < s := by
  have m0 : 0 ≤ n % s := Int.emod_nonneg _ (by omega)
  have m1 : n % s < s := Int.emod_lt_of_pos _ (by omega)
  have m2 : 0 ≤ s * (n / s) := Int.mul_nonneg (by omega) (Int.ediv_nonneg (by omega) (by omega))
  have := floor_mul n s
  omega
theorem ceV_bd (n s : Int) (hs : 1 ≤ s) : n ≤ ceV n s ∧ ceV n s - n < s := by
  have m0 : 0 ≤ n % s := Int.emod_nonneg _ (by omega)
  have m1 : n % s < s := Int.emod_lt_of_pos _ (by omega)
  by_cases h : n % s = 0
  · rw [ceV_zero n s hs h]; omega
  · rw [ceV_more n s hs h]; omega
/-- Floor is the greatest, Ceil the least. -/
theorem le_floor (a n s : Int) (hs : 1 ≤ s) (ha : a % s = 0) (h : a ≤ n) : a ≤ n - n % s := by
  have e : a = s * (a / s) := by have := floor_mul a s; omega
  have : a / s ≤ n / s := Int.ediv_le_ediv (by omega) h
  rw [floor_mul, e]
  exact Int.mul_le_mul_of_nonneg_left this (by omega)
theorem ceil_least (a n s : Int) (hs : 1 ≤ s) (ha : a % s = 0) (h : n ≤ a) : ceV n s ≤ a := by
  have m1 : n % s < s := Int.emod_lt_of_pos _ (by omega)
  have m0 : 0 ≤ n % s := Int.emod_nonneg _ (by omega)
  by_cases k : n % s = 0
  · rw [ceV_zero n s hs k]; exact h
  · rw [ceV_more n s hs k]
    have e : a = s * (a / s) := by have := floor_mul a s; omega
    have h1 : n / s < a / s := by
      by_cases c : n / s < a / s
      · exact c
      · have : s * (a / s) ≤ s * (n / s) := Int.mul_le_mul_of_nonneg_left (by omega) (by omega)
        have := floor_mul n s
        omega
    have h2 : s * (n / s + 1) ≤ s * (a / s) := Int.mul_le_mul_of_nonneg_left (by omega) (by omega)
    rw [Int.mul_add, Int.mul_one] at h2
    have := floor_mul n s
    omega
end Go.Proofs.YtfphjhmhiaepiaaGreat
