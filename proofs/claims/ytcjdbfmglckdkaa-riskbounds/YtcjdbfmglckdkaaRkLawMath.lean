/-
  Plain mathematics, no program: a reservation that was taken, and what is settled for nothing behind it; whose account a step is of.
-/
import Derived.Test.YtcjdbfmglckdkaaRkMath
namespace Go.Proofs.Ytcjdbfmglckdkaa.RK
open Go.ChangeShapes Go.WideShapes Go.ChangeAt Go.RowKit Go.Lib

theorem res_ok {b : Bk} {a s n : Int} (e : resE b a s n = 0) : ∃ i j : Nat, a = (i : Int) ∧ s = (j : Int) ∧ i < b.nA ∧ j < b.nS ∧ b.S j = none ∧ 0 ≤ n ∧ n ≤ b.L i - used b i ∧ resB b a s n = setS b j (some (i, n)) := by
  have e0 := e
  unfold resE at e
  by_cases h1 : hasA b a = false
  · rw [if_pos h1] at e; omega
  rw [if_neg h1] at e
  by_cases h2 : hasS b s = false
  · rw [if_pos h2] at e; omega
  rw [if_neg h2] at e
  by_cases h3 : inL n = false
  · rw [if_pos h3] at e; omega
  rw [if_neg h3] at e
  by_cases h4 : (b.S s.toNat).isSome = true
  · rw [if_pos h4] at e; omega
  rw [if_neg h4] at e
  by_cases h5 : b.L a.toNat - used b a.toNat < n
  · rw [if_pos h5] at e; omega
  obtain ⟨i, rfl, hi⟩ := hasA_nat (tr h1)
  obtain ⟨j, rfl, hj⟩ := hasS_nat (tr h2)
  obtain ⟨n0, n1⟩ := inL_iff (tr h3)
  simp only [Int.toNat_natCast] at h4 h5
  have h6 : b.S j = none := by simpa using h4
  exact ⟨i, j, rfl, rfl, hi, hj, h6, n0, by omega, by rw [resB, if_pos e0]; rfl⟩
theorem res_vals (b : Bk) (a s n : Int) : resE b a s n = 0 ∨ resE b a s n = 2 ∨ resE b a s n = 41 ∨ resE b a s n = 170 := by
  unfold resE
  repeat' split
  all_goals simp
theorem res_same {b : Bk} {a s n : Int} (e : ¬ resE b a s n = 0) : resB b a s n = b := by rw [resB, if_neg e]
theorem used_res (b : Bk) {i j : Nat} (hj : j < b.nS) (e : b.S j = none) (n : Int) : used (setS b j (some (i, n))) i = used b i + n := by
  rw [used_setS b hj, e, amt_none, amt_some, if_pos rfl]; omega
theorem stl_ok (b : Bk) {i j : Nat} (hj : j < b.nS) {n : Int} (hn : 0 ≤ n) : stlE (setS b j (some (i, n))) (j : Int) 0 = 0 := by
  have h1 : hasS (setS b j (some (i, n))) (j : Int) = true := by simp [hasS, setS, hj]
  have h2 : (setS b j (some (i, n))).S (j : Int).toNat = some (i, n) := by rw [Int.toNat_natCast]; exact upd_same _ _ _
  rw [stlE, if_neg (by rw [h1]; decide), if_neg (by omega), h2]
  exact if_neg (by show ¬ n < 0; omega)
theorem stl_back (b : Bk) {i j : Nat} (hj : j < b.nS) {n : Int} (hn : 0 ≤ n) (e : b.S j = none) (c : Nat) : used (stlB (setS b j (some (i, n))) (j : Int) 0) c = used b c := by
  have h2 : (setS b j (some (i, n))).S (j : Int).toNat = some (i, n) := by rw [Int.toNat_natCast]; exact upd_same _ _ _
  rw [stlB, if_pos (stl_ok b hj hn), h2, Int.toNat_natCast, used_setS _ (show j < (setD (setS b j (some (i, n))) _ _).nS from hj), used_setD, used_setS b hj, amt_none, e, amt_none]
  have h3 : (setD (setS b j (some (i, n))) (slA (some (i, n))).toNat ((setS b j (some (i, n))).D (slA (some (i, n))).toNat + 0)).S j = some (i, n) := upd_same _ _ _
  rw [h3, amt_some]
  have h4 : (slA (some (i, n))).toNat = i := rfl
  rw [h4]
  by_cases ec : c = i
  · subst ec
    rw [if_pos rfl, if_pos rfl]
    omega
  · rw [if_neg ec, if_neg (fun h => ec h.symm)]
    omega
theorem stlB_nA (b : Bk) (s n : Int) : (stlB b s n).nA = b.nA := by unfold stlB; split <;> rfl
theorem resB_nA (b : Bk) (a s n : Int) : (resB b a s n).nA = b.nA := by unfold resB; split <;> rfl
theorem rszB_nA (b : Bk) (s n : Int) : (rszB b s n).nA = b.nA := by unfold rszB; split <;> rfl
theorem undB_nA (b : Bk) (a n : Int) : (undB b a n).nA = b.nA := by unfold undB; split <;> rfl
theorem stlB_nS (b : Bk) (s n : Int) : (stlB b s n).nS = b.nS := by unfold stlB; split <;> rfl
theorem resB_nS (b : Bk) (a s n : Int) : (resB b a s n).nS = b.nS := by unfold resB; split <;> rfl
theorem rszB_nS (b : Bk) (s n : Int) : (rszB b s n).nS = b.nS := by unfold rszB; split <;> rfl
theorem undB_nS (b : Bk) (a n : Int) : (undB b a n).nS = b.nS := by unfold undB; split <;> rfl
theorem stlB_L (b : Bk) (s n : Int) : (stlB b s n).L = b.L := by unfold stlB; split <;> rfl
theorem resB_L (b : Bk) (a s n : Int) : (resB b a s n).L = b.L := by unfold resB; split <;> rfl
theorem rszB_L (b : Bk) (s n : Int) : (rszB b s n).L = b.L := by unfold rszB; split <;> rfl
theorem undB_L (b : Bk) (a n : Int) : (undB b a n).L = b.L := by unfold undB; split <;> rfl
/-- What is done for one account changes nothing of another. -/
theorem res_other (b : Bk) (a s n : Int) (c : Nat) (hc : ¬ (c : Int) = a) : used (resB b a s n) c = used b c := by
  by_cases e : resE b a s n = 0
  · obtain ⟨i, j, rfl, rfl, hi, hj, h6, _, _, eB⟩ := res_ok e
    rw [eB, used_setS b hj, h6, amt_none, amt_some, if_neg (by omega)]; omega
  · rw [res_same e]
theorem rsz_other (b : Bk) (s n : Int) (c : Nat) (hc : ∀ j : Nat, s = (j : Int) → j < b.nS → ¬ (c : Int) = slA (b.S j)) : used (rszB b s n) c = used b c := by
  unfold rszB
  split
  case isFalse => rfl
  case isTrue e =>
    unfold rszE at e
    by_cases h2 : hasS b s = false
    · rw [if_pos h2] at e; omega
    obtain ⟨j, rfl, hj⟩ := hasS_nat (tr h2)
    have h := hc j rfl hj
    rw [Int.toNat_natCast, used_setS b hj]
    cases eS : b.S j with
    | none => simp only [Option.map_none, amt_none]; omega
    | some x =>
      obtain ⟨q, m⟩ := x
      rw [eS] at h
      have h' : ¬ (c : Int) = (q : Int) := h
      rw [Option.map_some, amt_some, amt_some, if_neg (by omega), if_neg (by omega)]; omega
theorem stl_other (b : Bk) (s n : Int) (c : Nat) (hc : ∀ j : Nat, s = (j : Int) → j < b.nS → ¬ (c : Int) = slA (b.S j)) : used (stlB b s n) c = used b c := by
  unfold stlB
  split
  case isFalse => rfl
  case isTrue e =>
    unfold stlE at e
    by_cases h2 : hasS b s = false
    · rw [if_pos h2] at e; omega
    obtain ⟨j, rfl, hj⟩ := hasS_nat (tr h2)
    have h := hc j rfl hj
    rw [Int.toNat_natCast, used_setS _ (show j < (setD b _ _).nS from hj), used_setD, amt_none]
    show (if c = (slA (b.S j)).toNat then _ else _) + (0 - amt (b.S j) c) = _
    cases eS : b.S j with
    | none =>
      rw [eS] at h
      have h' : ¬ (c : Int) = 0 := h
      rw [amt_none, if_neg (by show ¬ c = 0; omega)]; omega
    | some x =>
      obtain ⟨q, m⟩ := x
      rw [eS] at h
      have h' : ¬ (c : Int) = (q : Int) := h
      rw [amt_some, if_neg (by show ¬ c = q; omega), if_neg (by omega)]; omega
theorem und_other (b : Bk) (a n : Int) (c : Nat) (hc : ¬ (c : Int) = a) : used (undB b a n) c = used b c := by
  unfold undB
  split
  case isFalse => rfl
  case isTrue e =>
    unfold undE at e
    by_cases h2 : hasA b a = false
    · rw [if_pos h2] at e; omega
    obtain ⟨j, rfl, hj⟩ := hasA_nat (tr h2)
    rw [Int.toNat_natCast, used_setD, if_neg (by omega)]
/-- What the law adds up, slot by slot: only slots that hold something of the account. -/
theorem amt_law (s : Option (Nat × Int)) (a : Nat) : amt s a = if s.isSome = true ∧ slA s = (a : Int) then slN s else 0 := by
  cases s with
  | none => rw [amt_none, if_neg (by simp)]
  | some x =>
    obtain ⟨c, n⟩ := x
    rw [amt_some]
    by_cases e : c = a
    · rw [if_pos e, if_pos ⟨rfl, by rw [e]; rfl⟩]; rfl
    · rw [if_neg e, if_neg (fun h => e (by have h2 : (c : Int) = (a : Int) := h.2; omega))]
end Go.Proofs.Ytcjdbfmglckdkaa.RK
