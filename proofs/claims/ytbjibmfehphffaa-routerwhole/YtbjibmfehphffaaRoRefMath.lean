/-
  The reference's split beside the program's (plain): the same rounds over all offers, with what each got in a row of numbers.
-/
import Derived.Test.YtbjibmfehphffaaRoSplit
namespace Go.Proofs.Ytbjibmfehphffaa.RO

/-- What the reference's round gives to an offer, of which o tells the most. -/
def giv (o : Int → Of → Int) (lot l : Int) (x : Of) : Int := o l x / stepOf lot x * stepOf lot x
def stR (o : Int → Of → Int) (lot : Int) (G : Nat → Of) (i : Nat) (s : (Nat → Int) × Int) : (Nat → Int) × Int :=
  if 0 < stepOf lot (G i) then (upd s.1 i (s.1 i + giv o lot s.2 (G i)), s.2 - giv o lot s.2 (G i)) else s
def RR (o : Int → Of → Int) (lot : Int) (G : Nat → Of) : Nat → (Nat → Int) × Int → (Nat → Int) × Int
  | 0, s => s
  | i + 1, s => stR o lot G i (RR o lot G i s)
def o0 (l : Int) (x : Of) : Int := if x.sh < l then x.sh else l
def o1 (l : Int) (_ : Of) : Int := l
/-- The shares of the first i, with what each got. -/
def shG (lot : Int) (G : Nat → Of) (gs : Nat → Int) (i : Nat) : List Sh :=
  (List.range i).flatMap fun k => if stepOf lot (G k) = 0 then [] else [⟨(G k).pl, (G k).sh, stepOf lot (G k), gs k⟩]
def one (lot : Int) (G : Nat → Of) (gs : Nat → Int) (k : Nat) : List Sh := if stepOf lot (G k) = 0 then [] else [⟨(G k).pl, (G k).sh, stepOf lot (G k), gs k⟩]
theorem shG_more (lot : Int) (G : Nat → Of) (gs : Nat → Int) (i : Nat) : shG lot G gs (i + 1) = shG lot G gs i ++ one lot G gs i := by simp [shG, one, List.range_succ]
theorem shG_same {lot : Int} {G : Nat → Of} {gs hs : Nat → Int} : ∀ {i : Nat}, (∀ k, k < i → gs k = hs k) → shG lot G gs i = shG lot G hs i
  | 0, _ => rfl
  | i + 1, h => by
    rw [shG_more, shG_more, shG_same (fun k hk => h k (by omega))]
    unfold one
    rw [h i (by omega)]
theorem shG_zero (lot : Int) (G : Nat → Of) : ∀ n, shG lot G (fun _ => 0) n = sharesL lot (listO G n)
  | 0 => rfl
  | n + 1 => by
    rw [shG_more, shG_zero lot G n, listO_more, sharesL_more]
    rfl
theorem rndL_app (u : Sh → Int) : ∀ (l : Int) (xs ys : List Sh), rndL u l (xs ++ ys) = rndL u l xs ++ rndL u (rndZ u l xs) ys ∧ rndZ u l (xs ++ ys) = rndZ u (rndZ u l xs) ys
  | l, [], ys => ⟨rfl, rfl⟩
  | l, x :: r, ys => by
    have := rndL_app u (l - give u l x) r ys
    exact ⟨congrArg (List.cons _) this.1, this.2⟩
/-- The reference's round is the program's. -/
theorem RR_is {o : Int → Of → Int} {u : Sh → Int} {lot l0 : Int} {G : Nat → Of} {gs : Nat → Int} {n : Nat} (hs : ∀ i, i < n → 0 ≤ stepOf lot (G i))
    (H : ∀ i, i < n → 0 < stepOf lot (G i) → ∀ g, giv o lot (RR o lot G i (gs, l0)).2 (G i) = give u (RR o lot G i (gs, l0)).2 ⟨(G i).pl, (G i).sh, stepOf lot (G i), g⟩) :
    ∀ i, i ≤ n → shG lot G (RR o lot G i (gs, l0)).1 i = rndL u l0 (shG lot G gs i) ∧ (RR o lot G i (gs, l0)).2 = rndZ u l0 (shG lot G gs i) ∧ ∀ k, i ≤ k → (RR o lot G i (gs, l0)).1 k = gs k
  | 0, _ => ⟨rfl, rfl, fun _ _ => rfl⟩
  | i + 1, hi => by
    obtain ⟨h1, h2, h3⟩ := RR_is hs H i (by omega)
    have hp := hs i (by omega)
    have hH := H i (by omega)
    have e : RR o lot G (i + 1) (gs, l0) = stR o lot G i (RR o lot G i (gs, l0)) := rfl
    rw [e]
    generalize RR o lot G i (gs, l0) = s at *
    obtain ⟨hs1, l1⟩ := s
    simp only at h1 h2 h3 hH
    rw [shG_more lot G gs i]
    obtain ⟨a1, a2⟩ := rndL_app u l0 (shG lot G gs i) (one lot G gs i)
    rw [a1, a2, ← h1, ← h2, shG_more]
    unfold stR
    by_cases c : 0 < stepOf lot (G i)
    · rw [if_pos c]
      have o1 : one lot G gs i = [⟨(G i).pl, (G i).sh, stepOf lot (G i), gs i⟩] := if_neg (by omega)
      have o2 : one lot G (upd hs1 i (hs1 i + giv o lot l1 (G i))) i = [⟨(G i).pl, (G i).sh, stepOf lot (G i), hs1 i + giv o lot l1 (G i)⟩] := by
        unfold one; rw [if_neg (by omega), upd_same]
      have g1 := hH c (gs i)
      refine ⟨?_, ?_, fun k hk => ?_⟩
      · show shG lot G (upd hs1 i _) i ++ one lot G (upd hs1 i _) i = _
        rw [o1, o2, shG_same (hs := hs1) (fun k hk => upd_other _ _ (by omega)), h3 i (Nat.le_refl _), g1]
        rfl
      · show l1 - _ = _
        rw [o1, g1]; rfl
      · show upd hs1 i _ k = _
        rw [upd_other _ _ (by omega)]; exact h3 k (by omega)
    · rw [if_neg c]
      have o1 : one lot G gs i = [] := if_pos (by omega)
      have o2 : one lot G hs1 i = [] := if_pos (by omega)
      rw [o1]
      refine ⟨?_, rfl, fun k hk => h3 k (by omega)⟩
      show shG lot G hs1 i ++ one lot G hs1 i = _
      rw [o2]; rfl
theorem div_mul_bd {m s : Int} (hm : 0 ≤ m) (hs : 0 < s) : 0 ≤ m / s * s ∧ m / s * s ≤ m ∧ m / s * s = m - m % s ∧ 0 ≤ m / s ∧ m / s ≤ m := by
  have q0 := Int.emod_nonneg m (show s ≠ 0 by omega)
  have q2 := Int.emod_add_mul_ediv m s
  have q3 : 0 ≤ m / s := Int.ediv_nonneg hm (by omega)
  have q4 : 0 ≤ m / s * s := Int.mul_nonneg q3 (by omega)
  have q5 : m / s * s = s * (m / s) := Int.mul_comm _ _
  have q6 : m / s ≤ m := Int.ediv_le_self _ hm
  exact ⟨q4, by omega, by omega, q3, q6⟩
/-- What a round of the reference keeps to. -/
theorem RR_bd {o : Int → Of → Int} {lot l0 B : Int} {G : Nat → Of} {gs : Nat → Int} {n : Nat} (h0 : 0 ≤ l0) (ho : ∀ i, i < n → ∀ l, 0 ≤ l → 0 ≤ o l (G i) ∧ o l (G i) ≤ l) (hB : ∀ k, 0 ≤ gs k ∧ gs k ≤ B) :
    ∀ i, i ≤ n → 0 ≤ (RR o lot G i (gs, l0)).2 ∧ (RR o lot G i (gs, l0)).2 ≤ l0 ∧ (∀ k, 0 ≤ (RR o lot G i (gs, l0)).1 k ∧ (RR o lot G i (gs, l0)).1 k ≤ B + l0) ∧ (∀ k, i ≤ k → (RR o lot G i (gs, l0)).1 k = gs k) ∧ ∀ k, stepOf lot (G k) = 0 → (RR o lot G i (gs, l0)).1 k = gs k
  | 0, _ => ⟨h0, Int.le_refl _, fun k => ⟨(hB k).1, by have := (hB k).2; show gs k ≤ _; omega⟩, fun _ _ => rfl, fun _ _ => rfl⟩
  | i + 1, hi => by
    obtain ⟨h1, h2, h3, h4, h5⟩ := RR_bd h0 ho hB i (by omega)
    have e : RR o lot G (i + 1) (gs, l0) = stR o lot G i (RR o lot G i (gs, l0)) := rfl
    rw [e]
    generalize RR o lot G i (gs, l0) = s at *
    obtain ⟨hs1, l1⟩ := s
    simp only at h1 h2 h3 h4 h5
    unfold stR
    by_cases c : 0 < stepOf lot (G i)
    · rw [if_pos c]
      have hoi := ho i (by omega) l1 h1
      obtain ⟨d1, d2, _⟩ := div_mul_bd hoi.1 c
      have hg : giv o lot l1 (G i) = o l1 (G i) / stepOf lot (G i) * stepOf lot (G i) := rfl
      simp only
      rw [← hg] at d1 d2
      have hgi := h4 i (Nat.le_refl _)
      have hb := hB i
      refine ⟨by omega, by omega, fun k => ?_, fun k hk => ?_, fun k hk => ?_⟩
      · by_cases ek : k = i
        · subst ek; rw [upd_same, hgi]; omega
        · rw [upd_other _ _ ek]; exact h3 k
      · rw [upd_other _ _ (by omega)]; exact h4 k (by omega)
      · rw [upd_other _ _ (by rintro rfl; omega)]; exact h5 k hk
    · rw [if_neg c]
      exact ⟨h1, h2, h3, fun k hk => h4 k (by omega), h5⟩
/-- The pieces of the first i. -/
def pcG (G : Nat → Of) (gs : Nat → Int) (i : Nat) : List Pc := (List.range i).flatMap fun k => if 0 < gs k then [⟨(G k).pl, gs k⟩] else []
theorem pcG_more (G : Nat → Of) (gs : Nat → Int) (i : Nat) : pcG G gs (i + 1) = pcG G gs i ++ (if 0 < gs i then [⟨(G i).pl, gs i⟩] else []) := by simp [pcG, List.range_succ]
theorem pcG_is {lot : Int} {G : Nat → Of} {gs : Nat → Int} (h : ∀ k, stepOf lot (G k) = 0 → gs k = 0) : ∀ n, piecesL (shG lot G gs n) = pcG G gs n
  | 0 => rfl
  | n + 1 => by
    rw [shG_more, pcG_more, ← pcG_is h n]
    unfold one
    split
    · rename_i c
      rw [if_neg (by rw [h n c]; decide), List.append_nil, List.append_nil]
    · rw [piecesL_more]; rfl
/-- The reference's split, by its rounds. -/
def endG (qty lot : Int) (G : Nat → Of) (n : Nat) : (Nat → Int) × Int := RR o1 lot G n (RR o0 lot G n (fun _ => 0, qty))
theorem stepOf_nn {lot : Int} {x : Of} (hl : 1 ≤ lot) (hx : wrongB x = false) : 0 ≤ stepOf lot x := by
  by_cases h : stepOf lot x = 0
  · omega
  · have := (share_ok hl hx h).st1
    simp only at this
    omega
theorem giv_is {o : Int → Of → Int} {u : Sh → Int} {lot l : Int} {x : Of} {g : Int} (hs : 0 < stepOf lot x) (h0 : 0 ≤ o l x) (h : min (u ⟨x.pl, x.sh, stepOf lot x, g⟩) l = o l x) : giv o lot l x = give u l ⟨x.pl, x.sh, stepOf lot x, g⟩ := by
  unfold give giv flN
  rw [h, if_neg (by unfold stepBad; simp only; omega)]
  exact (div_mul_bd h0 hs).2.2.1
theorem o0_bd {G : Nat → Of} {n : Nat} (hw : ∀ i, i < n → wrongB (G i) = false) : ∀ i, i < n → ∀ l, 0 ≤ l → 0 ≤ o0 l (G i) ∧ o0 l (G i) ≤ l := by
  intro i hi l hl
  have := wrong_false (hw i hi)
  unfold o0
  split <;> omega
theorem o1_bd {G : Nat → Of} {n : Nat} : ∀ i, i < n → ∀ l, 0 ≤ l → 0 ≤ o1 l (G i) ∧ o1 l (G i) ≤ l := fun _ _ _ hl => ⟨hl, Int.le_refl _⟩
/-- Behind both rounds. -/
theorem end_bd {qty lot : Int} {G : Nat → Of} {n : Nat} (hq : 0 ≤ qty) (hw : ∀ i, i < n → wrongB (G i) = false) :
    (0 ≤ (RR o0 lot G n (fun _ => 0, qty)).2 ∧ (RR o0 lot G n (fun _ => 0, qty)).2 ≤ qty) ∧ (∀ k, 0 ≤ (RR o0 lot G n (fun _ => 0, qty)).1 k ∧ (RR o0 lot G n (fun _ => 0, qty)).1 k ≤ qty) ∧ (∀ k, 0 ≤ (endG qty lot G n).1 k ∧ (endG qty lot G n).1 k ≤ qty + qty) ∧ ∀ k, stepOf lot (G k) = 0 → (endG qty lot G n).1 k = 0 := by
  have b0 := RR_bd (o := o0) (lot := lot) (l0 := qty) (B := 0) (G := G) (gs := fun _ => 0) (n := n) hq (o0_bd hw) (fun _ => ⟨Int.le_refl _, Int.le_refl _⟩) n (Nat.le_refl _)
  obtain ⟨c1, c2, c3, _, c5⟩ := b0
  have hgs : ∀ k, 0 ≤ (RR o0 lot G n (fun _ => 0, qty)).1 k ∧ (RR o0 lot G n (fun _ => 0, qty)).1 k ≤ qty := fun k => ⟨(c3 k).1, by have := (c3 k).2; omega⟩
  have b1 := RR_bd (o := o1) (lot := lot) (l0 := (RR o0 lot G n (fun _ => 0, qty)).2) (B := qty) (G := G) (gs := (RR o0 lot G n (fun _ => 0, qty)).1) (n := n) c1 o1_bd hgs n (Nat.le_refl _)
  obtain ⟨_, _, d3, _, d5⟩ := b1
  exact ⟨⟨c1, c2⟩, hgs, fun k => ⟨(d3 k).1, Int.le_trans (d3 k).2 (by omega)⟩, fun k hk => (d5 k hk).trans (c5 k hk)⟩
theorem ref_split {qty lot : Int} {G : Nat → Of} {n : Nat} (hq : 0 ≤ qty) (hl : 1 ≤ lot) (hw : ∀ i, i < n → wrongB (G i) = false) : pcG G (endG qty lot G n).1 n = splitL qty lot (listO G n) := by
  have e := end_bd (lot := lot) hq hw
  rw [← pcG_is (lot := lot) e.2.2.2]
  have hs := fun i (hi : i < n) => stepOf_nn hl (hw i hi)
  have r0 := RR_is (o := o0) (u := shn) (lot := lot) (l0 := qty) (G := G) (gs := fun _ => 0) (n := n) hs (fun i hi hp g => by
    have bd := RR_bd (o := o0) (lot := lot) (l0 := qty) (B := 0) (G := G) (gs := fun _ => 0) (n := n) hq (o0_bd hw) (fun _ => ⟨Int.le_refl _, Int.le_refl _⟩) i (by omega)
    refine giv_is hp (o0_bd hw i hi _ bd.1).1 ?_
    show min (G i).sh _ = o0 _ _
    unfold o0
    split <;> omega) n (Nat.le_refl _)
  have r1 := RR_is (o := o1) (u := fun _ => (RR o0 lot G n (fun _ => 0, qty)).2) (lot := lot) (l0 := (RR o0 lot G n (fun _ => 0, qty)).2) (G := G) (gs := (RR o0 lot G n (fun _ => 0, qty)).1) (n := n) hs (fun i hi hp g => by
    have bd := RR_bd (o := o1) (lot := lot) (l0 := (RR o0 lot G n (fun _ => 0, qty)).2) (B := qty) (G := G) (gs := (RR o0 lot G n (fun _ => 0, qty)).1) (n := n) e.1.1 o1_bd e.2.1 i (by omega)
    refine giv_is hp (o1_bd (G := G) (n := n) i hi _ bd.1).1 ?_
    exact Int.min_eq_right bd.2.1) n (Nat.le_refl _)
  unfold endG splitL
  rw [r1.1, r0.1, shG_zero, r0.2.1, shG_zero]
end Go.Proofs.Ytbjibmfehphffaa.RO
