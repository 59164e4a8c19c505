/-
  What a split keeps to (plain): the pieces are together what was given out, each on its step, at places apart; what is left is below each step.
-/
import Derived.Test.YtbjibmfehphffaaRoRefMath
namespace Go.Proofs.Ytbjibmfehphffaa.RO

theorem sumTo_upd {gs : Nat → Int} {z : Int} {i : Nat} : ∀ {n : Nat}, i < n → sumTo (upd gs i z) n = sumTo gs n - gs i + z
  | 0, h => absurd h (Nat.not_lt_zero _)
  | n + 1, h => by
    simp only [sumTo]
    by_cases e : i = n
    · subst e
      rw [sumTo_same (g := gs) i (fun k hk => upd_other _ _ (by omega)), upd_same]
      omega
    · rw [sumTo_upd (show i < n by omega), upd_other _ _ (by omega)]
      omega
theorem RR_sum {o : Int → Of → Int} {lot l0 : Int} {G : Nat → Of} {gs : Nat → Int} {n : Nat} : ∀ i, i ≤ n → sumTo (RR o lot G i (gs, l0)).1 n + (RR o lot G i (gs, l0)).2 = sumTo gs n + l0
  | 0, _ => rfl
  | i + 1, hi => by
    have ih := RR_sum (o := o) (lot := lot) (l0 := l0) (G := G) (gs := gs) (n := n) i (by omega)
    have e : RR o lot G (i + 1) (gs, l0) = stR o lot G i (RR o lot G i (gs, l0)) := rfl
    rw [e]
    generalize RR o lot G i (gs, l0) = s at *
    obtain ⟨hs, l⟩ := s
    unfold stR
    split
    · simp only at ih ⊢
      rw [sumTo_upd (show i < n by omega)]
      omega
    · exact ih
theorem RR_mod {o : Int → Of → Int} {lot l0 : Int} {G : Nat → Of} {gs : Nat → Int} (h : ∀ k, 0 < stepOf lot (G k) → gs k % stepOf lot (G k) = 0) : ∀ i k, 0 < stepOf lot (G k) → (RR o lot G i (gs, l0)).1 k % stepOf lot (G k) = 0
  | 0, k, hk => h k hk
  | i + 1, k, hk => by
    have ih := RR_mod (o := o) (l0 := l0) h i k hk
    have e : RR o lot G (i + 1) (gs, l0) = stR o lot G i (RR o lot G i (gs, l0)) := rfl
    rw [e]
    generalize RR o lot G i (gs, l0) = s at *
    obtain ⟨hs, l⟩ := s
    unfold stR
    split
    · simp only at ih ⊢
      by_cases ek : k = i
      · subst ek
        rw [upd_same]
        unfold giv
        rw [Int.add_mul_emod_self_right]
        exact ih
      · rw [upd_other _ _ ek]; exact ih
    · exact ih
theorem RR_low {lot l0 : Int} {G : Nat → Of} {gs : Nat → Int} (h0 : 0 ≤ l0) : ∀ i, 0 ≤ (RR o1 lot G i (gs, l0)).2 ∧ ∀ k, k < i → 0 < stepOf lot (G k) → (RR o1 lot G i (gs, l0)).2 < stepOf lot (G k)
  | 0 => ⟨h0, fun k hk => absurd hk (Nat.not_lt_zero _)⟩
  | i + 1 => by
    obtain ⟨i1, i2⟩ := RR_low (lot := lot) (G := G) (gs := gs) h0 i
    have e : RR o1 lot G (i + 1) (gs, l0) = stR o1 lot G i (RR o1 lot G i (gs, l0)) := rfl
    rw [e]
    generalize RR o1 lot G i (gs, l0) = s at *
    obtain ⟨hs, l⟩ := s
    simp only at i1 i2
    unfold stR
    by_cases c : 0 < stepOf lot (G i)
    · rw [if_pos c]
      obtain ⟨d1, d2, d3, _⟩ := div_mul_bd (m := l) i1 c
      have g : giv o1 lot l (G i) = l / stepOf lot (G i) * stepOf lot (G i) := rfl
      have m1 := Int.emod_lt_of_pos l c
      have m0 := Int.emod_nonneg l (show stepOf lot (G i) ≠ 0 by omega)
      simp only
      rw [g]
      refine ⟨by omega, fun k hk hs => ?_⟩
      by_cases ek : k = i
      · subst ek; omega
      · have := i2 k (by omega) hs
        omega
    · rw [if_neg c]
      refine ⟨i1, fun k hk hs => ?_⟩
      by_cases ek : k = i
      · subst ek; exact absurd hs c
      · exact i2 k (by omega) hs
def sumP : List Pc → Int
  | [] => 0
  | x :: r => x.q + sumP r
theorem sumP_app : ∀ xs ys : List Pc, sumP (xs ++ ys) = sumP xs + sumP ys
  | [], ys => by simp [sumP]
  | x :: r, ys => by
    have := sumP_app r ys
    show x.q + sumP (r ++ ys) = x.q + sumP r + sumP ys
    omega
theorem pcG_sum {G : Nat → Of} {gs : Nat → Int} (h : ∀ k, 0 ≤ gs k) : ∀ n, sumP (pcG G gs n) = sumTo gs n
  | 0 => rfl
  | n + 1 => by
    rw [pcG_more, sumP_app, pcG_sum h n]
    simp only [sumTo]
    split
    · show sumTo gs n + (gs n + 0) = _; omega
    · have := h n
      show sumTo gs n + 0 = _; omega
theorem pcG_mem {G : Nat → Of} {gs : Nat → Int} {n : Nat} {x : Pc} (h : x ∈ pcG G gs n) : ∃ k, k < n ∧ 0 < gs k ∧ x = ⟨(G k).pl, gs k⟩ := by
  simp only [pcG, List.mem_flatMap, List.mem_range] at h
  obtain ⟨k, hk, hx⟩ := h
  split at hx
  · rename_i c
    simp only [List.mem_cons, List.not_mem_nil, or_false] at hx
    exact ⟨k, hk, c, hx⟩
  · simp at hx
/-- At places apart: no place twice. -/
theorem pcG_apart {G : Nat → Of} {gs : Nat → Int} : ∀ {n : Nat}, (∀ i j, i < n → j < n → (G i).pl = (G j).pl → i = j) → ∀ (ys zs : List Pc) (x : Pc), pcG G gs n = ys ++ x :: zs → ∀ y ∈ ys, y.pl ≠ x.pl
  | 0, _, ys, zs, x, h => by simp [pcG] at h
  | n + 1, hG, ys, zs, x, h => by
    intro y hy
    rw [pcG_more] at h
    split at h
    · rcases List.eq_nil_or_concat zs with rfl | ⟨zs', z, rfl⟩
      · have e1 : pcG G gs n = ys ∧ (⟨(G n).pl, gs n⟩ : Pc) = x := by
          have := List.append_inj' h rfl
          exact ⟨this.1, by simpa using this.2⟩
        obtain ⟨rfl, rfl⟩ := e1
        obtain ⟨k, hk, _, rfl⟩ := pcG_mem hy
        intro e
        have := hG k n (by omega) (by omega) e
        omega
      · have e1 : pcG G gs n = ys ++ x :: zs' := by
          have h' : pcG G gs n ++ [(⟨(G n).pl, gs n⟩ : Pc)] = (ys ++ x :: zs') ++ [z] := by rw [h]; simp
          exact (List.append_inj' h' rfl).1
        exact pcG_apart (fun i j hi hj e => hG i j (by omega) (by omega) e) ys zs' x e1 y hy
    · rw [List.append_nil] at h
      exact pcG_apart (fun i j hi hj e => hG i j (by omega) (by omega) e) ys zs x h y hy
theorem step_on {lot : Int} {x : Of} (hl : 1 ≤ lot) (hx : wrongB x = false) (hs : 0 < stepOf lot x) {q : Int} (hq : q % stepOf lot x = 0) : q % lot = 0 ∧ q % x.lt = 0 ∧ x.ok = true := by
  obtain ⟨a, b, _⟩ := wrong_false hx
  unfold stepOf at hs hq
  split at hs
  · rename_i c
    rw [if_pos c] at hq
    have e : stN lot x.lt = stL lot x.lt := by
      have h2 := c.2.1
      unfold stE at h2
      unfold stN
      rw [if_neg (by unfold stBad; omega)] at h2 ⊢
      unfold ansE at h2
      unfold ansN
      split at h2
      · rename_i k; exact if_pos k
      · exact absurd h2 (by decide)
    rw [e] at hq
    have d1 : lot ∣ stL lot x.lt := by
      have := Int.ofNat_dvd.2 (Nat.dvd_lcm_left lot.toNat x.lt.toNat)
      unfold stL
      rwa [show ((lot.toNat : Nat) : Int) = lot by omega] at this
    have d2 : x.lt ∣ stL lot x.lt := by
      have := Int.ofNat_dvd.2 (Nat.dvd_lcm_right lot.toNat x.lt.toNat)
      unfold stL
      rwa [show ((x.lt.toNat : Nat) : Int) = x.lt by omega] at this
    have dq := Int.dvd_of_emod_eq_zero hq
    exact ⟨Int.emod_eq_zero_of_dvd (Int.dvd_trans d1 dq), Int.emod_eq_zero_of_dvd (Int.dvd_trans d2 dq), c.1⟩
  · exact absurd hs (by decide)
/-- What a split keeps to. -/
structure Whole (qty lot : Int) (n : Nat) (G : Nat → Of) (ps : List Pc) (left : Int) : Prop where
  each : ∀ x ∈ ps, 1 ≤ x.q ∧ ∃ k, k < n ∧ (G k).pl = x.pl ∧ x.q % lot = 0 ∧ x.q % (G k).lt = 0 ∧ (G k).ok = true
  sum : sumP ps + left = qty
  nn : ∀ x ∈ ps, 0 ≤ x.q
  left0 : 0 ≤ left
  low : ∀ k, k < n → 0 < stepOf lot (G k) → left < stepOf lot (G k)
theorem whole_of {qty lot : Int} {G : Nat → Of} {n : Nat} (hq : 0 ≤ qty) (hl : 1 ≤ lot) (hw : ∀ i, i < n → wrongB (G i) = false) : ∃ gs left, splitL qty lot (listO G n) = pcG G gs n ∧ Whole qty lot n G (pcG G gs n) left := by
  have eb := end_bd (lot := lot) hq hw
  have hs := RR_sum (o := o0) (lot := lot) (l0 := qty) (G := G) (gs := fun _ => 0) (n := n) n (Nat.le_refl _)
  have hs1 := RR_sum (o := o1) (lot := lot) (l0 := (RR o0 lot G n (fun _ => 0, qty)).2) (G := G) (gs := (RR o0 lot G n (fun _ => 0, qty)).1) (n := n) n (Nat.le_refl _)
  have hm0 := RR_mod (o := o0) (lot := lot) (l0 := qty) (G := G) (gs := fun _ => 0) (fun k _ => Int.zero_emod _) n
  have hm1 := RR_mod (o := o1) (lot := lot) (l0 := (RR o0 lot G n (fun _ => 0, qty)).2) (G := G) hm0 n
  have hlw := RR_low (lot := lot) (G := G) (gs := (RR o0 lot G n (fun _ => 0, qty)).1) eb.1.1 n
  have z : ∀ n, sumTo (fun _ => 0) n = 0 := fun n => by
    induction n with
    | zero => rfl
    | succ n ih => simp only [sumTo, ih]; rfl
  rw [z] at hs
  have hE : RR o1 lot G n ((RR o0 lot G n (fun _ => 0, qty)).1, (RR o0 lot G n (fun _ => 0, qty)).2) = endG qty lot G n := rfl
  rw [hE] at hs1 hm1 hlw
  refine ⟨(endG qty lot G n).1, (endG qty lot G n).2, (ref_split hq hl hw).symm, ⟨fun x hx => ?_, ?_, fun x hx => ?_, hlw.1, hlw.2⟩⟩
  · obtain ⟨k, hk, hg, rfl⟩ := pcG_mem hx
    have hp : 0 < stepOf lot (G k) := by
      have := stepOf_nn hl (hw k hk)
      rcases Int.lt_or_eq_of_le this with h | h
      · exact h
      · have := eb.2.2.2 k h.symm
        omega
    have := step_on hl (hw k hk) hp (hm1 k hp)
    exact ⟨by show 1 ≤ (endG qty lot G n).1 k; omega, k, hk, rfl, this.1, this.2.1, this.2.2⟩
  · rw [pcG_sum (fun k => (eb.2.2.1 k).1)]
    omega
  · obtain ⟨k, hk, hg, rfl⟩ := pcG_mem hx
    exact Int.le_of_lt hg
end Go.Proofs.Ytbjibmfehphffaa.RO
