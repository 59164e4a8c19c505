/-
  Two tells held against each other.
-/
import Derived.Test.YtdacmhnniecmhaaDoorTellMath
import Derived.Test.YtdacmhnniecmhaaDoorOrder
namespace Go.Proofs.YtdacmhnniecmhaaDoor
open Go.ChangeShapes Go.WideShapes Go.ChangeAt Go.RowKit Go.Lib

/-- Whether two tells are the same. -/
def sameB (t u : TellP) : Bool := decide (t.2 0 = u.2 0 ∧ t.1 1 = u.1 1 ∧ t.1 2 = u.1 2 ∧ t.2 3 = u.2 3 ∧ t.2 4 = u.2 4 ∧ t.2 5 = u.2 5 ∧ t.2 6 = u.2 6 ∧ t.2 7 = u.2 7 ∧ t.2 8 = u.2 8 ∧ t.2 9 = u.2 9)
theorem same_iff {t u : TellP} : sameB t u = true ↔ Same t u := by
  unfold sameB
  rw [decide_eq_true_eq]
  exact ⟨fun ⟨a, b, c, d, e, f, g, h, i, j⟩ => ⟨a, b, c, d, e, f, g, h, i, j⟩, fun h => ⟨h.k, h.i, h.x, h.s, h.l, h.p, h.c, h.e, h.g, h.r⟩⟩
theorem zero_same (t : TellP) (k : Int) (h : t.2 0 = k) : sameB t (zeroT k) = zeroB t := by
  unfold sameB zeroB zeroT
  simp [h]
theorem bytes_iff (a b : ByteArray) : a.toList = b.toList ↔ a = b := by
  have h := beq_bytes a b
  constructor
  · intro e
    rw [e, beq_self_eq_true] at h
    exact of_decide_eq_true h.symm
  · intro e
    rw [e]
set_option maxRecDepth 100000 in
set_option maxHeartbeats 4000000 in
theorem tell_eq (k k' : Int) (i i' x x' : ByteArray) (s s' l l' p p' c c' e e' g g' r r' : Int) (w : World) : (Op.equalIn 10000 23 (.agg #[.int .i64 k, .string i, .string x, .int .i64 s, .int .i64 l, .int .i64 p, .int .i64 c, .int .i64 e, .int .i64 g, .int .i64 r]) (.agg #[.int .i64 k', .string i', .string x', .int .i64 s', .int .i64 l', .int .i64 p', .int .i64 c', .int .i64 e', .int .i64 g', .int .i64 r'])).run Tryd.prog w = .ok (decide (k = k' ∧ i = i' ∧ x = x' ∧ s = s' ∧ l = l' ∧ p = p' ∧ c = c' ∧ e = e' ∧ g = g' ∧ r = r')) w := by
  have q1 : i.toList = i'.toList ↔ i = i' := bytes_iff i i'
  have q2 : x.toList = x'.toList ↔ x = x' := bytes_iff x x'
  rw [show (10000 : Nat) = 9999 + 1 from rfl, run_equalIn_struct (P := Tryd.prog) w 9999 _ _ _ (by kernel_rfl) (by kernel_rfl)]
  simp [Program.fieldsOf, Tryd.underlying23, Op.eqFields, go_sem, Tryd.underlying3, Tryd.underlying9]
  simp only [q1, q2]
  by_cases hk : k = k'
  case neg => simp [hk]
  by_cases hi : i = i'
  case neg => simp [hi]
  by_cases hx : x = x'
  case neg => simp [hx]
  by_cases hs : s = s'
  case neg => simp [hs]
  by_cases hl : l = l'
  case neg => simp [hl]
  by_cases hp : p = p'
  case neg => simp [hp]
  by_cases hc : c = c'
  case neg => simp [hc]
  by_cases he : e = e'
  case neg => simp [he]
  by_cases hg : g = g'
  case neg => simp [hg]
  by_cases hr : r = r'
  case neg => simp [hr]
  simp [hk, hi, hx, hs, hl, hp, hc, he, hg, hr]
set_option maxRecDepth 100000 in
set_option maxHeartbeats 4000000 in
theorem refTell_eq (k k' : Int) (i i' x x' : ByteArray) (s s' l l' p p' c c' e e' g g' r r' : Int) (w : World) : (Op.equalIn 10000 31 (.agg #[.int .i64 k, .string i, .string x, .int .i64 s, .int .i64 l, .int .i64 p, .int .i64 c, .int .i64 e, .int .i64 g, .int .i64 r]) (.agg #[.int .i64 k', .string i', .string x', .int .i64 s', .int .i64 l', .int .i64 p', .int .i64 c', .int .i64 e', .int .i64 g', .int .i64 r'])).run Tryd.prog w = .ok (decide (k = k' ∧ i = i' ∧ x = x' ∧ s = s' ∧ l = l' ∧ p = p' ∧ c = c' ∧ e = e' ∧ g = g' ∧ r = r')) w := by
  have q1 : i.toList = i'.toList ↔ i = i' := bytes_iff i i'
  have q2 : x.toList = x'.toList ↔ x = x' := bytes_iff x x'
  rw [show (10000 : Nat) = 9999 + 1 from rfl, run_equalIn_struct (P := Tryd.prog) w 9999 _ _ _ (by kernel_rfl) (by kernel_rfl)]
  simp [Program.fieldsOf, Tryd.underlying31, Op.eqFields, go_sem, Tryd.underlying3, Tryd.underlying9]
  simp only [q1, q2]
  by_cases hk : k = k'
  case neg => simp [hk]
  by_cases hi : i = i'
  case neg => simp [hi]
  by_cases hx : x = x'
  case neg => simp [hx]
  by_cases hs : s = s'
  case neg => simp [hs]
  by_cases hl : l = l'
  case neg => simp [hl]
  by_cases hp : p = p'
  case neg => simp [hp]
  by_cases hc : c = c'
  case neg => simp [hc]
  by_cases he : e = e'
  case neg => simp [he]
  by_cases hg : g = g'
  case neg => simp [hg]
  by_cases hr : r = r'
  case neg => simp [hr]
  simp [hk, hi, hx, hs, hl, hp, hc, he, hg, hr]
end Go.Proofs.YtdacmhnniecmhaaDoor
