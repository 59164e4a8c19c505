/-
  Texts in the order of their bytes: it is a strict order in which any two texts stand.
-/
import Derived.WalkKit
import Derived.Lib.Strings
import Derived.Test.YtdacfnodihannaaGreatRows
namespace Go.Proofs.YtdacfnodihannaaGreat

theorem less_irrefl : ∀ x : List UInt8, Op.bytesLess x x = false
  | [] => rfl
  | a :: x => by simp [Op.bytesLess, less_irrefl x]
theorem less_trans : ∀ x y z : List UInt8, Op.bytesLess x y = true → Op.bytesLess y z = true → Op.bytesLess x z = true
  | [], [], _, h, _ => by simp [Op.bytesLess] at h
  | [], _ :: _, [], _, h => by simp [Op.bytesLess] at h
  | [], _ :: _, _ :: _, _, _ => rfl
  | _ :: _, [], _, h, _ => by simp [Op.bytesLess] at h
  | _ :: _, _ :: _, [], _, h => by simp [Op.bytesLess] at h
  | a :: x, b :: y, c :: z, h, k => by
    simp only [Op.bytesLess, Bool.or_eq_true, Bool.and_eq_true, decide_eq_true_eq, beq_iff_eq] at h k ⊢
    rcases h with h | ⟨rfl, h⟩
    · rcases k with k | ⟨rfl, k⟩
      · exact .inl (UInt8.lt_trans h k)
      · exact .inl h
    · rcases k with k | ⟨rfl, k⟩
      · exact .inl k
      · exact .inr ⟨rfl, less_trans x y z h k⟩
theorem less_total : ∀ x y : List UInt8, Op.bytesLess x y = false → Op.bytesLess y x = false → x = y
  | [], [], _, _ => rfl
  | [], _ :: _, h, _ => by simp [Op.bytesLess] at h
  | _ :: _, [], _, h => by simp [Op.bytesLess] at h
  | a :: x, b :: y, h, k => by
    simp only [Op.bytesLess, Bool.or_eq_false_iff, decide_eq_false_iff_not, Bool.and_eq_false_iff, beq_eq_false_iff_ne] at h k
    have e : a = b := UInt8.le_antisymm (UInt8.not_lt.1 k.1) (UInt8.not_lt.1 h.1)
    subst e
    have h2 : Op.bytesLess x y = false := by rcases h.2 with h | h <;> first | exact h | exact absurd rfl h
    have k2 : Op.bytesLess y x = false := by rcases k.2 with h | h <;> first | exact h | exact absurd rfl h
    rw [less_total x y h2 k2]

/-- One text lies ahead of another. -/
def Lt (a b : ByteArray) : Prop := Op.bytesLess a.toList b.toList = true
theorem bytes_ext {a b : ByteArray} (h : a.toList = b.toList) : a = b := by
  rw [Lib.toList_data, Lib.toList_data] at h
  obtain ⟨⟨a⟩⟩ := a
  obtain ⟨⟨b⟩⟩ := b
  simp at h
  rw [h]
theorem beq_bytes (a b : ByteArray) : (a.toList == b.toList) = decide (a = b) := by
  by_cases h : a = b
  · subst h; simp
  · rw [decide_eq_false h, beq_eq_false_iff_ne]
    exact fun e => h (bytes_ext e)
theorem Lt.irrefl (a : ByteArray) : ¬ Lt a a := by unfold Lt; rw [less_irrefl]; simp
theorem Lt.trans {a b c : ByteArray} (h : Lt a b) (k : Lt b c) : Lt a c := less_trans _ _ _ h k
theorem Lt.total (a b : ByteArray) : Lt a b ∨ a = b ∨ Lt b a := by
  unfold Lt
  cases h : Op.bytesLess a.toList b.toList
  · cases k : Op.bytesLess b.toList a.toList
    · exact .inr (.inl (bytes_ext (less_total _ _ h k)))
    · exact .inr (.inr rfl)
  · exact .inl rfl
theorem Lt.asymm {a b : ByteArray} (h : Lt a b) : ¬ Lt b a := fun k => Lt.irrefl a (h.trans k)
theorem Lt.ne {a b : ByteArray} (h : Lt a b) : a ≠ b := fun e => by subst e; exact Lt.irrefl _ h
theorem not_lt_trans {a b c : ByteArray} (h : ¬ Lt b a) (k : ¬ Lt c b) : ¬ Lt c a := by
  intro hc
  rcases Lt.total a b with h1 | h1 | h1
  · exact k (hc.trans h1)
  · subst h1; exact k hc
  · exact h h1
/-- The text without a byte. -/
abbrev none4 : ByteArray := { data := #[] }
theorem none4_list : none4.toList = [] := by rw [Lib.toList_data]
theorem empty_of_toList {a : ByteArray} (h : a.toList = []) : a = none4 := bytes_ext (by rw [h, none4_list])
theorem empty_bytes (a : ByteArray) : a.toList.isEmpty = decide (a = none4) := by
  by_cases h : a = none4
  · subst h; rw [none4_list]; simp
  · rw [decide_eq_false h]
    cases e : a.toList with
    | nil => exact absurd (empty_of_toList e) h
    | cons x l => rfl
theorem lt_none {a : ByteArray} : Lt none4 a ↔ a ≠ none4 := by
  constructor
  · intro h e; subst e; exact Lt.irrefl _ h
  · intro h
    unfold Lt
    cases e : a.toList with
    | nil => exact absurd (empty_of_toList e) h
    | cons x l => rw [none4_list]; rfl
theorem not_lt_none (a : ByteArray) : ¬ Lt a none4 := by
  unfold Lt
  rw [none4_list]
  cases a.toList <;> simp [Op.bytesLess]
end Go.Proofs.YtdacfnodihannaaGreat
