/-
  Plain mathematics of setups: what of lists of named things, of numbers and of bands holds, as truth values.
-/
import Derived.Test.YtfphjhmhiaepiaaBand
import Derived.Test.YtfphjhmhiaepiaaRunes
namespace Go.Proofs.Ytfphjhmhiaepiaa.RU
open Go.ChangeShapes Go.WideShapes Go.ChangeAt Go.RowKit Go.Lib

/-- A thing of a list: its name, its numbers by their places, its mark. -/
abbrev It := ByteArray × (Nat → Int) × Bool
/-- All of the first n. -/
def allB (n : Nat) (f : Nat → Bool) : Bool := (List.range n).all f
theorem allB_true {n : Nat} {f : Nat → Bool} (h : ∀ i, i < n → f i = true) : allB n f = true := by
  unfold allB
  rw [List.all_eq_true]
  intro i hi
  exact h i (List.mem_range.1 hi)
theorem allB_false {n : Nat} {f : Nat → Bool} {i : Nat} (hi : i < n) (h : f i = false) : allB n f = false := by
  unfold allB
  rw [List.all_eq_false]
  exact ⟨i, List.mem_range.2 hi, by rw [h]; simp⟩
theorem allB_get {n : Nat} {f : Nat → Bool} (h : allB n f = true) {i : Nat} (hi : i < n) : f i = true := by
  unfold allB at h
  rw [List.all_eq_true] at h
  exact h i (List.mem_range.2 hi)
theorem allB_same {n : Nat} {f g : Nat → Bool} (h : ∀ i, i < n → f i = g i) : allB n f = allB n g := by
  cases hg : allB n g
  · unfold allB at hg
    rw [List.all_eq_false] at hg
    obtain ⟨i, hi, hf⟩ := hg
    exact allB_false (List.mem_range.1 hi) (by rw [h i (List.mem_range.1 hi)]; simpa using hf)
  · exact allB_true (fun i hi => by rw [h i hi]; exact allB_get hg hi)
/-- A number between two ends. -/
def withB (n l h : Int) : Bool := decide (l ≤ n ∧ n ≤ h)
theorem withB_true {n l h : Int} (h1 : l ≤ n) (h2 : n ≤ h) : withB n l h = true := decide_eq_true ⟨h1, h2⟩
theorem withB_get {n l h : Int} (k : withB n l h = true) : l ≤ n ∧ n ≤ h := of_decide_eq_true k
theorem withB_not {n l h : Int} (k : withB n l h = false) : ¬ (l ≤ n ∧ n ≤ h) := of_decide_eq_false k
/-- The name at place i is one, and no other ahead of it is the same. -/
def freshB (N : Nat → ByteArray) (i : Nat) : Bool := vldB (N i) && allB i fun k => decide (N k ≠ N i)
/-- From 1 to most, each with a name of its own. -/
def namesB (N : Nat → ByteArray) (n most : Nat) : Bool := withB n 1 most && allB n (freshB N)
theorem fresh_valid {N : Nat → ByteArray} {i : Nat} (h : freshB N i = true) : vldB (N i) = true := by
  unfold freshB at h; simp at h; exact h.1
theorem fresh_other {N : Nat → ByteArray} {i : Nat} (h : freshB N i = true) {k : Nat} (hk : k < i) : N k ≠ N i := by
  unfold freshB at h
  rw [Bool.and_eq_true] at h
  exact of_decide_eq_true (allB_get h.2 hk)
theorem fresh_cases (N : Nat → ByteArray) (i : Nat) : (freshB N i = false ∧ vldB (N i) = false) ∨ (freshB N i = false ∧ vldB (N i) = true ∧ ∃ k, k < i ∧ N k = N i) ∨ (freshB N i = true ∧ vldB (N i) = true ∧ ∀ k, k < i → N k ≠ N i) := by
  cases hv : vldB (N i)
  · exact .inl ⟨by unfold freshB; rw [hv]; rfl, rfl⟩
  · cases hf : freshB N i
    · refine .inr (.inl ⟨rfl, rfl, ?_⟩)
      unfold freshB at hf
      rw [hv, Bool.true_and] at hf
      unfold allB at hf
      rw [List.all_eq_false] at hf
      obtain ⟨k, hk, e⟩ := hf
      exact ⟨k, List.mem_range.1 hk, by simpa using e⟩
    · exact .inr (.inr ⟨rfl, rfl, fun k hk => fresh_other hf hk⟩)
theorem names_count {N : Nat → ByteArray} {n most : Nat} (h : withB n 1 most = false) : namesB N n most = false := by unfold namesB; rw [h]; rfl
theorem names_bad {N : Nat → ByteArray} {n most i : Nat} (hi : i < n) (h : freshB N i = false) : namesB N n most = false := by unfold namesB; rw [allB_false hi h]; simp
theorem names_good {N : Nat → ByteArray} {n most : Nat} (h : withB n 1 most = true) (k : ∀ i, i < n → freshB N i = true) : namesB N n most = true := by unfold namesB; rw [h, allB_true k]; rfl
theorem names_get {N : Nat → ByteArray} {n most : Nat} (h : namesB N n most = true) : (1 ≤ n ∧ n ≤ most) ∧ ∀ i, i < n → freshB N i = true := by
  unfold namesB at h
  rw [Bool.and_eq_true] at h
  have := withB_get h.1
  exact ⟨by omega, fun i hi => allB_get h.2 hi⟩
/-- A symbol has a band, and its lower end is at least 1. -/
def bandB (z : Nat → Int) : Bool := decide (baE (z 3) (z 4) (z 2) = 0) && decide (1 ≤ baL (z 3) (z 4) (z 2))
def accB (z : Nat → Int) : Bool := withB (z 1) 0 4611686018427387904
def symB (z : Nat → Int) : Bool := withB (z 1) 1 1099511627776 && (withB (z 5) 1 1099511627776 && (withB (z 2) 1 1099511627776 && (withB (z 3) 1 1099511627776 && (withB (z 4) 0 10000 && (withB (z 6) 1 4611686018427387904 && bandB z)))))
def venB (z : Nat → Int) : Bool := withB (z 1) 1 1099511627776 && (withB (z 2) 0 10000 && withB (z 3) 0 1099511627776)
def roomB (p : Nat → Int) : Bool := withB (p 3) 1 64 && (withB (p 4) 1 256 && (withB (p 5) 1 4096 && (withB (p 6) 1 1073741824 && (withB (p 7) 1 1024 && withB (p 8) 2 1024))))
/-- A setup: three lists of things, and numbers by their places. -/
structure Stp where
  nA : Nat
  nS : Nat
  nV : Nat
  A : Nat → It
  S : Nat → It
  V : Nat → It
  P : Nat → Int
def nmsB (s : Stp) : Bool := namesB (fun i => (s.A i).1) s.nA 16 && (namesB (fun i => (s.S i).1) s.nS 16 && namesB (fun i => (s.V i).1) s.nV 8)
def accsB (s : Stp) : Bool := allB s.nA fun i => accB (s.A i).2.1
def symsB (s : Stp) : Bool := allB s.nS fun i => symB (s.S i).2.1
def vensB (s : Stp) : Bool := allB s.nV fun i => venB (s.V i).2.1
/-- A setup is right. -/
def rightB (s : Stp) : Bool := nmsB s && (accsB s && (symsB s && (vensB s && roomB s.P)))
end Go.Proofs.Ytfphjhmhiaepiaa.RU
