/-
  The contracts of the fourteenth reference's RightOrder and OrderForm, for every Order; the statements' Order.
-/
import Derived.Test.YtlgnbnojjfgfmaaPostRefRightO
import Derived.Test.YtlgnbnojjfgfmaaOrder
namespace Go.Proofs.Ytlgnbnojjfgfmaa.PP.O
open Go.ChangeShapes Go.WideShapes Go.ChangeAt Go.RowKit Go.Lib

theorem emp_iff (s : ByteArray) : s.toList.isEmpty = true ↔ s = noText := by
  rw [empty_bytes, decide_eq_true_eq]
theorem right_none {t : ThP} (h : inB (t.2 0) 1 3 = false) : rightB t = false := by
  unfold rightB
  unfold inB at h
  rw [h, Bool.false_and]
theorem right_1 {t : ThP} (e : t.2 0 = 1) : rightB t = (inB (t.2 1) 1 1099511627776 && (vldB (t.1 2) && (vldB (t.1 3) && (inB (t.2 4) 1 2 && (inB (t.2 5) 1 1099511627776 && inB (t.2 6) 1 1099511627776))))) := by
  rw [Bool.eq_iff_iff, right_iff]
  constructor
  · intro R
    have a := R.all
    rw [e, show rlist 1 = _ from listK_1] at a
    simp [Pl.okB] at a
    simp [inB, a]
  · intro q
    simp [inB] at q
    refine ⟨by rw [e]; omega, ?_, fun n => absurd e n, fun n => by omega⟩
    rw [e, show rlist 1 = _ from listK_1]
    simp [Pl.okB, q]
theorem right_2 {t : ThP} (e : t.2 0 = 2) : rightB t = (inB (t.2 1) 1 1099511627776 && (vldB (t.1 2) && ((t.1 3).toList.isEmpty && ((t.2 4 == 0) && ((t.2 5 == 0) && (t.2 6 == 0)))))) := by
  have i3 := emp_iff (t.1 3)
  rw [Bool.eq_iff_iff, right_iff]
  constructor
  · intro R
    have a := R.all
    have o := R.one (by omega)
    have u := R.two e
    rw [e, show rlist 2 = _ from listK_2] at a
    simp [Pl.okB] at a
    have i := i3.2 o.1
    simp [inB, a, o.2, u, i]
  · intro q
    simp only [Bool.and_eq_true] at q
    have o := i3.1 q.2.2.1
    have q' := q
    simp [inB] at q'
    refine ⟨by rw [e]; omega, ?_, fun _ => ⟨o, q'.2.2.2.1⟩, fun _ => ⟨q'.2.2.2.2.1, q'.2.2.2.2.2⟩⟩
    rw [e, show rlist 2 = _ from listK_2]
    simp [Pl.okB, q']
theorem right_3 {t : ThP} (e : t.2 0 = 3) : rightB t = (inB (t.2 1) 1 1099511627776 && (vldB (t.1 2) && ((t.1 3).toList.isEmpty && ((t.2 4 == 0) && (inB (t.2 5) 1 1099511627776 && inB (t.2 6) 1 1099511627776))))) := by
  have i3 := emp_iff (t.1 3)
  rw [Bool.eq_iff_iff, right_iff]
  constructor
  · intro R
    have a := R.all
    have o := R.one (by omega)
    rw [e, show rlist 3 = _ from listK_3] at a
    simp [Pl.okB] at a
    have i := i3.2 o.1
    simp [inB, a, o.2, i]
  · intro q
    simp only [Bool.and_eq_true] at q
    have o := i3.1 q.2.2.1
    have q' := q
    simp [inB] at q'
    refine ⟨by rw [e]; omega, ?_, fun _ => ⟨o, q'.2.2.2.1⟩, fun n => by omega⟩
    rw [e, show rlist 3 = _ from listK_3]
    simp [Pl.okB, q']
theorem refRight_any (t : ThP) (w : World) (z2 : (t.1 2).size ≤ 300) (z3 : (t.1 3).size ≤ 300) :
    Calls Try.prog 31 #[.agg #[.int .i64 (t.2 0), .int .i64 (t.2 1), .string (t.1 2), .string (t.1 3), .int .i64 (t.2 4), .int .i64 (t.2 5), .int .i64 (t.2 6)]] w fun e w' => e = .returned (.bool (rightB t)) ∧ Below w.heap.size w w' := by
  cases hi : inB (t.2 0) 1 3 with
  | false =>
    rw [right_none hi]
    exact refRight_none t w hi
  | true =>
    rcases kinds (of_decide_eq_true hi) with e | e | e
    · rw [right_1 e]
      exact refRight_1 t w e z2 z3
    · rw [right_2 e]
      exact refRight_2 t w e z2
    · rw [right_3 e]
      exact refRight_3 t w e z2
end Go.Proofs.Ytlgnbnojjfgfmaa.PP.O
