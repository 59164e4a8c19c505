/-
  Which of them are right (Order), their bodies, how they are read again (plain).
-/
import Derived.Test.YtlgnbnojjfgfmaaPostListO
namespace Go.Proofs.Ytlgnbnojjfgfmaa.PP.O
open Go.Lib

/-- What the program says of one of a kind. -/
def rgtB (t : ThP) : Bool := (rgt (rlist (t.2 0)) true t).1 && zeroB (rgt (rlist (t.2 0)) true t).2
/-- What the program says of one. -/
def rightB (t : ThP) : Bool := decide (1 ≤ t.2 0 ∧ t.2 0 ≤ 3) && rgtB t
/-- One that is right. -/
structure RightP (t : ThP) : Prop where
  kind : 1 ≤ t.2 0 ∧ t.2 0 ≤ 3
  all : ∀ p ∈ rlist (t.2 0), p.okB t = true
  one : t.2 0 ≠ 1 → t.1 3 = noText ∧ t.2 4 = 0
  two : t.2 0 = 2 → t.2 5 = 0 ∧ t.2 6 = 0
theorem right_iff (t : ThP) : rightB t = true ↔ RightP t := by
  unfold rightB rgtB
  by_cases hk : 1 ≤ t.2 0 ∧ t.2 0 ≤ 3
  · rw [decide_eq_true hk, Bool.true_and]
    rcases kinds hk with e | e | e
    · constructor
      · intro h
        rw [e, show rlist 1 = _ from listK_1] at h
        simp [rgt, Pl.okB, Pl.clr, upd, zeroB, sameB, zeroT] at h
        refine ⟨hk, ?_, fun n => absurd e n, fun n => by omega⟩
        rw [e, show rlist 1 = _ from listK_1]
        simp [Pl.okB]
        exact ⟨h.1.1.1.1.1, h.1.1.1.1.2, h.1.1.1.2, h.1.1.2, h.1.2, h.2⟩
      · intro h
        have a := h.all
        rw [e, show rlist 1 = _ from listK_1] at a ⊢
        simp [Pl.okB] at a
        simp [rgt, Pl.okB, Pl.clr, upd, zeroB, sameB, zeroT]
        simp [a]
    · constructor
      · intro h
        rw [e, show rlist 2 = _ from listK_2] at h
        simp [rgt, Pl.okB, Pl.clr, upd, zeroB, sameB, zeroT] at h
        refine ⟨hk, ?_, fun _ => ?_, fun _ => ?_⟩
        · rw [e, show rlist 2 = _ from listK_2]
          simp [Pl.okB]
          simp [h]
        · simp [h]
        · simp [h]
      · intro h
        have a := h.all
        have o := h.one (by omega)
        have u := h.two (by omega)
        rw [e, show rlist 2 = _ from listK_2] at a ⊢
        simp [Pl.okB] at a
        simp [rgt, Pl.okB, Pl.clr, upd, zeroB, sameB, zeroT]
        simp [a, o, u]
    · constructor
      · intro h
        rw [e, show rlist 3 = _ from listK_3] at h
        simp [rgt, Pl.okB, Pl.clr, upd, zeroB, sameB, zeroT] at h
        refine ⟨hk, ?_, fun _ => ?_, fun n => by omega⟩
        · rw [e, show rlist 3 = _ from listK_3]
          simp [Pl.okB]
          simp [h]
        · simp [h]
      · intro h
        have a := h.all
        have o := h.one (by omega)
        rw [e, show rlist 3 = _ from listK_3] at a ⊢
        simp [Pl.okB] at a
        simp [rgt, Pl.okB, Pl.clr, upd, zeroB, sameB, zeroT]
        simp [a, o]
  · rw [decide_eq_false hk, Bool.false_and]
    exact ⟨fun h => by simp at h, fun h => absurd h.kind hk⟩
theorem Same.right {t u : ThP} (h : Same t u) (R : RightP t) : RightP u := by
  have key : ∀ v : ThP, rightB v = rightB (fun j => if nm j = true ∧ j < 7 then v.1 j else noText, fun j => if j < 7 ∧ nm j = false then v.2 j else 0) := by
    intro v
    unfold rightB rgtB
    dsimp only [nm]
    simp only [show ((0 : Nat) < 7 ∧ ((0 : Nat) == 2 || (0 : Nat) == 3) = false) = True by decide, if_true]
    by_cases hk : 1 ≤ v.2 0 ∧ v.2 0 ≤ 3
    · rcases kinds hk with e | e | e <;> rw [e]
      · rw [show rlist 1 = _ from listK_1]; simp [rgt, Pl.okB, Pl.clr, upd, zeroB, sameB, zeroT]
      · rw [show rlist 2 = _ from listK_2]; simp [rgt, Pl.okB, Pl.clr, upd, zeroB, sameB, zeroT]
      · rw [show rlist 3 = _ from listK_3]; simp [rgt, Pl.okB, Pl.clr, upd, zeroB, sameB, zeroT]
    · rw [decide_eq_false hk, Bool.false_and, Bool.false_and]
  rw [← right_iff] at R ⊢
  rw [key] at R ⊢
  obtain ⟨h0, h1, h2, h3, h4, h5, h6⟩ := h
  have e1 : (fun j => if nm j = true ∧ j < 7 then t.1 j else noText) = (fun j => if nm j = true ∧ j < 7 then u.1 j else noText) := by
    funext j
    by_cases c : nm j = true ∧ j < 7
    · rw [if_pos c, if_pos c]
      rcases (show j = 0 ∨ j = 1 ∨ j = 2 ∨ j = 3 ∨ j = 4 ∨ j = 5 ∨ j = 6 by omega) with rfl | rfl | rfl | rfl | rfl | rfl | rfl <;> first | assumption | (exfalso; revert c; decide)
    · rw [if_neg c, if_neg c]
  have e2 : (fun j => if j < 7 ∧ nm j = false then t.2 j else 0) = (fun j => if j < 7 ∧ nm j = false then u.2 j else 0) := by
    funext j
    by_cases c : j < 7 ∧ nm j = false
    · rw [if_pos c, if_pos c]
      rcases (show j = 0 ∨ j = 1 ∨ j = 2 ∨ j = 3 ∨ j = 4 ∨ j = 5 ∨ j = 6 by omega) with rfl | rfl | rfl | rfl | rfl | rfl | rfl <;> first | assumption | (exfalso; revert c; decide)
    · rw [if_neg c, if_neg c]
  rw [← e1, ← e2]
  exact R
end Go.Proofs.Ytlgnbnojjfgfmaa.PP.O
