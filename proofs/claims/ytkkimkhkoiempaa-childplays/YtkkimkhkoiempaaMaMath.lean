/-
  Layer 20, the plain mathematics: which state is behind an event, as a table, and what the table keeps to.
-/
import Derived.Test.YtkkimkhkoiempaaRows
import Derived.WalkKit
import Derived.WalkSpells
import Derived.WalkLawsBesides
import Derived.ProofKit
import Derived.OpenShut
import Derived.Outline
namespace Go.Proofs.Ytkkimkhkoiempaa.MA
open Go.ChangeShapes Go.WideShapes Go.ChangeAt Go.RowKit

/-- Open, done. -/
def opB (s : Int) : Bool := decide (1 ≤ s) && decide (s ≤ 5)
def dnB (s : Int) : Bool := decide (6 ≤ s) && decide (s ≤ 8)
/-- A state, an event. -/
def stB (s : Int) : Bool := opB s || dnB s
def evB (v : Int) : Bool := decide (1 ≤ v) && decide (v ≤ 10)
theorem st_iff (s : Int) : stB s = true ↔ 1 ≤ s ∧ s ≤ 8 := by
  unfold stB opB dnB
  simp only [Bool.or_eq_true, Bool.and_eq_true, decide_eq_true_eq]
  omega
theorem ev_iff (v : Int) : evB v = true ↔ 1 ≤ v ∧ v ≤ 10 := by
  unfold evB
  simp only [Bool.and_eq_true, decide_eq_true_eq]
/-- The state of an order of which c is executed. -/
def bk (c : Int) : Int := if 0 < c then 3 else 2
theorem bk_or (c : Int) : bk c = 2 ∨ bk c = 3 := by
  unfold bk
  by_cases h : 0 < c
  · rw [if_pos h]; exact .inr rfl
  · rw [if_neg h]; exact .inl rfl
/-- The table: 0 what may not happen, -1 the same, -2 back. -/
def rws : List (List Int) :=
  [[0, 0, 0, 0, 0, 0, 0, 0, 0, 0, 0],
   [0, 2, 7, 0, 8, 3, 6, -1, 0, 4, 0],
   [0, 0, 7, 0, 0, 3, 6, -1, 0, 4, 5],
   [0, -1, 7, 0, 0, -1, 6, -2, 0, 4, 5],
   [0, -1, 7, 0, 8, -1, 6, -1, -2, 0, 0],
   [0, 0, 7, -2, 0, -1, 6, -1, -2, 0, 0],
   [0, 0, 0, 0, 0, 0, 0, -1, 0, 0, 0],
   [0, 0, 0, 0, 0, 0, 0, -1, 0, 0, 0],
   [0, 0, 0, 0, 0, 0, 0, 0, 0, 0, 0]]
def tb (s v : Int) : Int := (rws.getD s.toNat []).getD v.toNat 0
/-- The state behind a place of the table, its error. -/
def pk (t s b : Int) : Int := if t = 0 then 0 else if t = -1 then s else if t = -2 then b else t
def pe (t : Int) : Int := if t = 0 then 200 else 0
def okB (s v c : Int) : Bool := stB s && evB v && decide (0 ≤ c)
/-- Next's two answers. -/
def nS (s v c : Int) : Int := if okB s v c = true then pk (tb s v) s (bk c) else 0
def nE (s v c : Int) : Int := if okB s v c = true then pe (tb s v) else 2
theorem ok_iff (s v c : Int) : okB s v c = true ↔ (1 ≤ s ∧ s ≤ 8) ∧ (1 ≤ v ∧ v ≤ 10) ∧ 0 ≤ c := by
  unfold okB
  rw [Bool.and_eq_true, Bool.and_eq_true, st_iff, ev_iff, decide_eq_true_eq, and_assoc]
theorem n_ok {s v c : Int} (hs : 1 ≤ s ∧ s ≤ 8) (hv : 1 ≤ v ∧ v ≤ 10) (hc : 0 ≤ c) : nS s v c = pk (tb s v) s (bk c) ∧ nE s v c = pe (tb s v) := by
  have h := (ok_iff s v c).2 ⟨hs, hv, hc⟩
  unfold nS nE
  rw [if_pos h, if_pos h]
  exact ⟨rfl, rfl⟩
theorem n_bad {s v c : Int} (h : ¬ ((1 ≤ s ∧ s ≤ 8) ∧ (1 ≤ v ∧ v ≤ 10) ∧ 0 ≤ c)) : nS s v c = 0 ∧ nE s v c = 2 := by
  have h' : ¬ okB s v c = true := fun e => h ((ok_iff s v c).1 e)
  unfold nS nE
  rw [if_neg h', if_neg h']
  exact ⟨rfl, rfl⟩
/-- What the table keeps to, at one place. -/
def goodB (s v b : Int) : Bool :=
  if pe (tb s v) = 0 then
    stB (pk (tb s v) s b) && (!dnB s || pk (tb s v) s b == s) && (s == 1 || !(pk (tb s v) s b == 1)) &&
    (!(v == 6) || pk (tb s v) s b == 6) && (!(v == 2) || pk (tb s v) s b == 7) && (!(v == 9) || pk (tb s v) s b == 4) && (!(v == 10) || pk (tb s v) s b == 5)
  else pk (tb s v) s b == 0
theorem good_all : ((List.range 9).all fun s => (List.range 11).all fun v => (List.range 4).all fun b => s == 0 || v == 0 || b == 0 || b == 1 || goodB (s : Int) (v : Int) (b : Int)) = true := by decide +kernel
theorem good_at {s v c : Int} (hs : 1 ≤ s ∧ s ≤ 8) (hv : 1 ≤ v ∧ v ≤ 10) : goodB s v (bk c) = true := by
  obtain ⟨a, ea⟩ : ∃ a : Nat, s = (a : Int) := ⟨s.toNat, by omega⟩
  obtain ⟨d, ed⟩ : ∃ d : Nat, v = (d : Int) := ⟨v.toNat, by omega⟩
  obtain ⟨f, ef, hf⟩ : ∃ f : Nat, bk c = (f : Int) ∧ (f = 2 ∨ f = 3) := by
    rcases bk_or c with e | e
    · exact ⟨2, e, .inl rfl⟩
    · exact ⟨3, e, .inr rfl⟩
  have h := List.all_eq_true.1 (List.all_eq_true.1 (List.all_eq_true.1 good_all a (List.mem_range.2 (by omega))) d (List.mem_range.2 (by omega))) f (List.mem_range.2 (by omega))
  rw [ea, ed, ef]
  have h1 : (a == 0) = false := beq_false_of_ne (by omega)
  have h2 : (d == 0) = false := beq_false_of_ne (by omega)
  have h3 : (f == 0) = false := beq_false_of_ne (by omega)
  have h4 : (f == 1) = false := beq_false_of_ne (by omega)
  rw [h1, h2, h3, h4] at h
  exact h
/-- What is refused has no state beside it. -/
theorem n_none {s v c : Int} (h : ¬ nE s v c = 0) : nS s v c = 0 := by
  by_cases k : (1 ≤ s ∧ s ≤ 8) ∧ (1 ≤ v ∧ v ≤ 10) ∧ 0 ≤ c
  · obtain ⟨e1, e2⟩ := n_ok k.1 k.2.1 k.2.2
    rw [e2] at h
    rw [e1]
    have g := good_at (c := c) k.1 k.2.1
    unfold goodB at g
    rw [if_neg h] at g
    exact eq_of_beq g
  · exact (n_bad k).1
/-- What may happen. -/
structure Good (s v t : Int) : Prop where
  is : 1 ≤ t ∧ t ≤ 8
  stays : dnB s = true → t = s
  heard : ¬ s = 1 → ¬ t = 1
  fill : v = 6 → t = 6
  gone : v = 2 → t = 7
  cancel : v = 9 → t = 4
  other : v = 10 → t = 5
theorem n_good {s v c : Int} (h : nE s v c = 0) : Good s v (nS s v c) := by
  by_cases k : (1 ≤ s ∧ s ≤ 8) ∧ (1 ≤ v ∧ v ≤ 10) ∧ 0 ≤ c
  · obtain ⟨e1, e2⟩ := n_ok k.1 k.2.1 k.2.2
    rw [e2] at h
    rw [e1]
    have g := good_at (c := c) k.1 k.2.1
    unfold goodB at g
    rw [if_pos h] at g
    generalize pk (tb s v) s (bk c) = t at g
    simp only [Bool.and_eq_true, Bool.or_eq_true, Bool.not_eq_true', beq_iff_eq, beq_eq_false_iff_ne] at g
    obtain ⟨⟨⟨⟨⟨⟨g1, g2⟩, g3⟩, g4⟩, g5⟩, g6⟩, g7⟩ := g
    refine ⟨(st_iff t).1 g1, fun e => ?_, fun e => ?_, fun e => ?_, fun e => ?_, fun e => ?_, fun e => ?_⟩
    · rcases g2 with g2 | g2
      · rw [g2] at e; cases e
      · exact g2
    · exact g3.resolve_left e
    · exact g4.resolve_left (fun q => q e)
    · exact g5.resolve_left (fun q => q e)
    · exact g6.resolve_left (fun q => q e)
    · exact g7.resolve_left (fun q => q e)
  · rw [(n_bad k).2] at h; cases h
end Go.Proofs.Ytkkimkhkoiempaa.MA
