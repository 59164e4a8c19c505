/-
  The contract of the reference's Right: tells of the kind 1: all cases.
-/
import Derived.Test.YtdacmhnniecmhaaDoorHI
import Derived.Test.YtdacmhnniecmhaaDoorHG
import Derived.Test.YtdacmhnniecmhaaDoorHF
import Derived.Test.YtdacmhnniecmhaaDoorHJ
import Derived.Test.YtdacmhnniecmhaaDoorHK
import Derived.Test.YtdacmhnniecmhaaDoorHH
import Derived.Test.YtdacmhnniecmhaaDoorHL
import Derived.Test.YtdacmhnniecmhaaDoorHB
import Derived.Test.YtdacmhnniecmhaaDoorGM
namespace Go.Proofs.YtdacmhnniecmhaaDoor
open Go.ChangeShapes Go.WideShapes Go.ChangeAt Go.RowKit Go.Lib
theorem refRight_same1 (i x : ByteArray) (s l p c e r : Int) (hi200 : i.size ≤ 100000) (hx200 : x.size ≤ 100000) (w : World) :
    Calls Tryd.prog 12 #[.agg #[.int .i64 1, .string i, .string x, .int .i64 s, .int .i64 l, .int .i64 p, .int .i64 c, .int .i64 e, .int .i64 0, .int .i64 r]] w fun e' w' => e' = .returned (.bool (inB r 0 999 && (inB s 0 9 && (vldB i && (vldB x && (inB l 0 1099511627776 && (inB p 0 1099511627776 && (inB c 0 1099511627776 && (inB e 0 1099511627776))))))))) ∧ Below w.heap.size w w' := by
  rcases Bool.eq_false_or_eq_true (inB r 0 999) with h9 | h9
  rotate_left
  · rw [show (inB r 0 999 && (inB s 0 9 && (vldB i && (vldB x && (inB l 0 1099511627776 && (inB p 0 1099511627776 && (inB c 0 1099511627776 && (inB e 0 1099511627776)))))))) = false by simp [h9]]
    exact refRight_1a i x s l p c e r w h9
  rcases Bool.eq_false_or_eq_true (inB s 0 9) with h3 | h3
  rotate_left
  · rw [show (inB r 0 999 && (inB s 0 9 && (vldB i && (vldB x && (inB l 0 1099511627776 && (inB p 0 1099511627776 && (inB c 0 1099511627776 && (inB e 0 1099511627776)))))))) = false by simp [h9, h3]]
    exact refRight_1b i x s l p c e r w h9 h3
  exact refRight_1z i x s l p c e r hi200 hx200 w h9 h3
end Go.Proofs.YtdacmhnniecmhaaDoor
/-
  The contract of the reference's Right: tells of the kind 2: all cases.
-/
namespace Go.Proofs.YtdacmhnniecmhaaDoor
open Go.ChangeShapes Go.WideShapes Go.ChangeAt Go.RowKit Go.Lib
theorem refRight_same2 (i : ByteArray) (s r : Int) (hi200 : i.size ≤ 100000) (w : World) :
    Calls Tryd.prog 12 #[.agg #[.int .i64 2, .string i, .string ⟨#[]⟩, .int .i64 s, .int .i64 0, .int .i64 0, .int .i64 0, .int .i64 0, .int .i64 0, .int .i64 r]] w fun e' w' => e' = .returned (.bool (inB r 0 999 && (inB s 0 9 && (vldB i)))) ∧ Below w.heap.size w w' := by
  rcases Bool.eq_false_or_eq_true (inB r 0 999) with h9 | h9
  rotate_left
  · rw [show (inB r 0 999 && (inB s 0 9 && (vldB i))) = false by simp [h9]]
    exact refRight_2a i s r w h9
  rcases Bool.eq_false_or_eq_true (inB s 0 9) with h3 | h3
  rotate_left
  · rw [show (inB r 0 999 && (inB s 0 9 && (vldB i))) = false by simp [h9, h3]]
    exact refRight_2b i s r w h9 h3
  exact refRight_2z i s r hi200 w h9 h3
end Go.Proofs.YtdacmhnniecmhaaDoor
/-
  The contract of the reference's Right: tells of the kind 3: all cases.
-/
namespace Go.Proofs.YtdacmhnniecmhaaDoor
open Go.ChangeShapes Go.WideShapes Go.ChangeAt Go.RowKit Go.Lib
theorem refRight_same3 (g r : Int) (w : World) :
    Calls Tryd.prog 12 #[.agg #[.int .i64 3, .string ⟨#[]⟩, .string ⟨#[]⟩, .int .i64 0, .int .i64 0, .int .i64 0, .int .i64 0, .int .i64 0, .int .i64 g, .int .i64 r]] w fun e' w' => e' = .returned (.bool (inB r 0 999 && (inB g 0 99999))) ∧ Below w.heap.size w w' := by
  rcases Bool.eq_false_or_eq_true (inB r 0 999) with h9 | h9
  rotate_left
  · rw [show (inB r 0 999 && (inB g 0 99999)) = false by simp [h9]]
    exact refRight_3a g r w h9
  rcases Bool.eq_false_or_eq_true (inB g 0 99999) with h8 | h8
  rotate_left
  · rw [show (inB r 0 999 && (inB g 0 99999)) = false by simp [h9, h8]]
    exact refRight_3b g r w h9 h8
  exact refRight_3z g r w h9 h8
end Go.Proofs.YtdacmhnniecmhaaDoor
/-
  The contract of the reference's Right: tells of the kind 4: all cases.
-/
namespace Go.Proofs.YtdacmhnniecmhaaDoor
open Go.ChangeShapes Go.WideShapes Go.ChangeAt Go.RowKit Go.Lib
theorem refRight_same4 (g r : Int) (w : World) :
    Calls Tryd.prog 12 #[.agg #[.int .i64 4, .string ⟨#[]⟩, .string ⟨#[]⟩, .int .i64 0, .int .i64 0, .int .i64 0, .int .i64 0, .int .i64 0, .int .i64 g, .int .i64 r]] w fun e' w' => e' = .returned (.bool (inB r 0 999 && (inB g 0 99999))) ∧ Below w.heap.size w w' := by
  rcases Bool.eq_false_or_eq_true (inB r 0 999) with h9 | h9
  rotate_left
  · rw [show (inB r 0 999 && (inB g 0 99999)) = false by simp [h9]]
    exact refRight_4a g r w h9
  rcases Bool.eq_false_or_eq_true (inB g 0 99999) with h8 | h8
  rotate_left
  · rw [show (inB r 0 999 && (inB g 0 99999)) = false by simp [h9, h8]]
    exact refRight_4b g r w h9 h8
  exact refRight_4z g r w h9 h8
end Go.Proofs.YtdacmhnniecmhaaDoor
/-
  Contracts of the reference's Right, Form and Encode, for every tell.
-/
namespace Go.Proofs.YtdacmhnniecmhaaDoor
open Go.ChangeShapes Go.WideShapes Go.ChangeAt Go.RowKit Go.Lib

theorem right_same1 {t : TellP} (e : t.2 0 = 1) (h : t.2 8 = 0) : rightB t = (inB (t.2 9) 0 999 && (inB (t.2 3) 0 9 && (vldB (t.1 1) && (vldB (t.1 2) && (inB (t.2 4) 0 1099511627776 && (inB (t.2 5) 0 1099511627776 && (inB (t.2 6) 0 1099511627776 && (inB (t.2 7) 0 1099511627776)))))))) := by
  rw [Bool.eq_iff_iff, right_iff]
  constructor
  · intro R
    have a := R.all
    rw [e, listK_1] at a
    simp [Pl.okB] at a
    simp [inB, a]
  · intro q
    simp [inB] at q
    refine ⟨by rw [e]; omega, ?_, fun n => ?_, fun n => ?_, fun n => ?_⟩
    · rw [e, listK_1]
      simp [Pl.okB, q]
    · exact absurd e n
    · rw [e] at n; omega
    · simp [h]
theorem right_diff1 {t : TellP} (e : t.2 0 = 1) (h : ¬ (t.2 8 = 0)) : rightB t = false := by
  cases c : rightB t with
  | false => rfl
  | true =>
    have R := (right_iff t).1 c
    exact absurd (R.tag (by omega)) h
theorem right_same2 {t : TellP} (e : t.2 0 = 2) (h : t.1 2 = ⟨#[]⟩ ∧ t.2 4 = 0 ∧ t.2 5 = 0 ∧ t.2 6 = 0 ∧ t.2 7 = 0 ∧ t.2 8 = 0) : rightB t = (inB (t.2 9) 0 999 && (inB (t.2 3) 0 9 && (vldB (t.1 1)))) := by
  rw [Bool.eq_iff_iff, right_iff]
  constructor
  · intro R
    have a := R.all
    rw [e, listK_2] at a
    simp [Pl.okB] at a
    simp [inB, a]
  · intro q
    simp [inB] at q
    refine ⟨by rw [e]; omega, ?_, fun n => ?_, fun n => ?_, fun n => ?_⟩
    · rw [e, listK_2]
      simp [Pl.okB, q]
    · simp [h]
    · rw [e] at n; omega
    · simp [h]
theorem right_diff2 {t : TellP} (e : t.2 0 = 2) (h : ¬ (t.1 2 = ⟨#[]⟩ ∧ t.2 4 = 0 ∧ t.2 5 = 0 ∧ t.2 6 = 0 ∧ t.2 7 = 0 ∧ t.2 8 = 0)) : rightB t = false := by
  cases c : rightB t with
  | false => rfl
  | true =>
    have R := (right_iff t).1 c
    exact absurd (by have a := R.rep (by omega); have b := R.tag (by omega); simp [a, b]) h
theorem right_same3 {t : TellP} (e : t.2 0 = 3) (h : t.1 1 = ⟨#[]⟩ ∧ t.1 2 = ⟨#[]⟩ ∧ t.2 3 = 0 ∧ t.2 4 = 0 ∧ t.2 5 = 0 ∧ t.2 6 = 0 ∧ t.2 7 = 0) : rightB t = (inB (t.2 9) 0 999 && (inB (t.2 8) 0 99999)) := by
  rw [Bool.eq_iff_iff, right_iff]
  constructor
  · intro R
    have a := R.all
    rw [e, listK_3] at a
    simp [Pl.okB] at a
    simp [inB, a]
  · intro q
    simp [inB] at q
    refine ⟨by rw [e]; omega, ?_, fun n => ?_, fun n => ?_, fun n => ?_⟩
    · rw [e, listK_3]
      simp [Pl.okB, q]
    · simp [h]
    · simp [h]
    · rw [e] at n; omega
theorem right_diff3 {t : TellP} (e : t.2 0 = 3) (h : ¬ (t.1 1 = ⟨#[]⟩ ∧ t.1 2 = ⟨#[]⟩ ∧ t.2 3 = 0 ∧ t.2 4 = 0 ∧ t.2 5 = 0 ∧ t.2 6 = 0 ∧ t.2 7 = 0)) : rightB t = false := by
  cases c : rightB t with
  | false => rfl
  | true =>
    have R := (right_iff t).1 c
    exact absurd (by have a := R.rep (by omega); have b := R.name (by omega); simp [a, b]) h
theorem right_same4 {t : TellP} (e : t.2 0 = 4) (h : t.1 1 = ⟨#[]⟩ ∧ t.1 2 = ⟨#[]⟩ ∧ t.2 3 = 0 ∧ t.2 4 = 0 ∧ t.2 5 = 0 ∧ t.2 6 = 0 ∧ t.2 7 = 0) : rightB t = (inB (t.2 9) 0 999 && (inB (t.2 8) 0 99999)) := by
  rw [Bool.eq_iff_iff, right_iff]
  constructor
  · intro R
    have a := R.all
    rw [e, listK_4] at a
    simp [Pl.okB] at a
    simp [inB, a]
  · intro q
    simp [inB] at q
    refine ⟨by rw [e]; omega, ?_, fun n => ?_, fun n => ?_, fun n => ?_⟩
    · rw [e, listK_4]
      simp [Pl.okB, q]
    · simp [h]
    · simp [h]
    · rw [e] at n; omega
theorem right_diff4 {t : TellP} (e : t.2 0 = 4) (h : ¬ (t.1 1 = ⟨#[]⟩ ∧ t.1 2 = ⟨#[]⟩ ∧ t.2 3 = 0 ∧ t.2 4 = 0 ∧ t.2 5 = 0 ∧ t.2 6 = 0 ∧ t.2 7 = 0)) : rightB t = false := by
  cases c : rightB t with
  | false => rfl
  | true =>
    have R := (right_iff t).1 c
    exact absurd (by have a := R.rep (by omega); have b := R.name (by omega); simp [a, b]) h
theorem refRight_any (t : TellP) (h1 : (t.1 1).size ≤ 100000) (h2 : (t.1 2).size ≤ 100000) (w : World) :
    Calls Tryd.prog 12 #[.agg #[.int .i64 (t.2 0), .string (t.1 1), .string (t.1 2), .int .i64 (t.2 3), .int .i64 (t.2 4), .int .i64 (t.2 5), .int .i64 (t.2 6), .int .i64 (t.2 7), .int .i64 (t.2 8), .int .i64 (t.2 9)]] w fun e w' => e = .returned (.bool (rightB t)) ∧ Below w.heap.size w w' := by
  by_cases hk : 1 ≤ t.2 0 ∧ t.2 0 ≤ 4
  case neg =>
    have e : rightB t = false := by unfold rightB; rw [decide_eq_false hk, Bool.false_and]
    rw [e]
    exact refRight_none _ _ _ _ _ _ _ _ _ _ w (by unfold inB; exact decide_eq_false hk)
  case pos =>
    rcases kinds hk.1 hk.2 with e | e | e | e
    · by_cases h : t.2 8 = 0
      · rw [right_same1 e h]
        have F := refRight_same1 (t.1 1) (t.1 2) (t.2 3) (t.2 4) (t.2 5) (t.2 6) (t.2 7) (t.2 9) h1 h2 w
        have q0 := h
        rw [e, q0]
        exact F
      · rw [right_diff1 e h, e]
        exact refRight_diff1 _ _ _ _ _ _ _ _ _ w h
    · by_cases h : t.1 2 = ⟨#[]⟩ ∧ t.2 4 = 0 ∧ t.2 5 = 0 ∧ t.2 6 = 0 ∧ t.2 7 = 0 ∧ t.2 8 = 0
      · rw [right_same2 e h]
        have F := refRight_same2 (t.1 1) (t.2 3) (t.2 9) h1 w
        obtain ⟨q0, q1, q2, q3, q4, q5⟩ := h
        rw [e, q0, q1, q2, q3, q4, q5]
        exact F
      · rw [right_diff2 e h, e]
        exact refRight_diff2 _ _ _ _ _ _ _ _ _ w h
    · by_cases h : t.1 1 = ⟨#[]⟩ ∧ t.1 2 = ⟨#[]⟩ ∧ t.2 3 = 0 ∧ t.2 4 = 0 ∧ t.2 5 = 0 ∧ t.2 6 = 0 ∧ t.2 7 = 0
      · rw [right_same3 e h]
        have F := refRight_same3 (t.2 8) (t.2 9) w
        obtain ⟨q0, q1, q2, q3, q4, q5, q6⟩ := h
        rw [e, q0, q1, q2, q3, q4, q5, q6]
        exact F
      · rw [right_diff3 e h, e]
        exact refRight_diff3 _ _ _ _ _ _ _ _ _ w h
    · by_cases h : t.1 1 = ⟨#[]⟩ ∧ t.1 2 = ⟨#[]⟩ ∧ t.2 3 = 0 ∧ t.2 4 = 0 ∧ t.2 5 = 0 ∧ t.2 6 = 0 ∧ t.2 7 = 0
      · rw [right_same4 e h]
        have F := refRight_same4 (t.2 8) (t.2 9) w
        obtain ⟨q0, q1, q2, q3, q4, q5, q6⟩ := h
        rw [e, q0, q1, q2, q3, q4, q5, q6]
        exact F
      · rw [right_diff4 e h, e]
        exact refRight_diff4 _ _ _ _ _ _ _ _ _ w h
theorem dg35 : decDigits 35 = [51, 53] := by rw [decDigits_two (by omega) (by omega)]; rfl
theorem dg11 : decDigits 11 = [49, 49] := by rw [decDigits_two (by omega) (by omega)]; rfl
theorem dg17 : decDigits 17 = [49, 55] := by rw [decDigits_two (by omega) (by omega)]; rfl
theorem dg39 : decDigits 39 = [51, 57] := by rw [decDigits_two (by omega) (by omega)]; rfl
theorem dg32 : decDigits 32 = [51, 50] := by rw [decDigits_two (by omega) (by omega)]; rfl
theorem dg31 : decDigits 31 = [51, 49] := by rw [decDigits_two (by omega) (by omega)]; rfl
theorem dg14 : decDigits 14 = [49, 52] := by rw [decDigits_two (by omega) (by omega)]; rfl
theorem dg151 : decDigits 151 = [49, 53, 49] := by rw [digits_three (by omega) (by omega)]; rfl
theorem dg103 : decDigits 103 = [49, 48, 51] := by rw [digits_three (by omega) (by omega)]; rfl
theorem dg371 : decDigits 371 = [51, 55, 49] := by rw [digits_three (by omega) (by omega)]; rfl
theorem dg373 : decDigits 373 = [51, 55, 51] := by rw [digits_three (by omega) (by omega)]; rfl
theorem dg380 : decDigits 380 = [51, 56, 48] := by rw [digits_three (by omega) (by omega)]; rfl
theorem refForm_any (t : TellP) (R : RightP t) (w : World) :
    Calls Tryd.prog 20 #[.agg #[.int .i64 (t.2 0), .string (t.1 1), .string (t.1 2), .int .i64 (t.2 3), .int .i64 (t.2 4), .int .i64 (t.2 5), .int .i64 (t.2 6), .int .i64 (t.2 7), .int .i64 (t.2 8), .int .i64 (t.2 9)]] w fun e w' => e = .returned (.string (mk (cat (fieldsT t)))) ∧ Below w.heap.size w w' := by
  obtain ⟨ok, _⟩ := right_allOk R
  rw [cat_flat ok]
  have A := R.all
  have SZ : ∀ s : ByteArray, vldB s = true → s.size ≤ 600 := fun s h => by
    have := (name_val h).2.1
    rw [size_eq]
    omega
  rcases kinds R.kind.1 R.kind.2 with e | e | e | e
  · unfold fieldsT
    rw [e, listK_1] at A ⊢
    simp only [List.mem_cons, List.not_mem_nil, or_false, forall_eq_or_imp, forall_eq, Pl.okB, if_true, decide_eq_true_eq, Bool.false_eq_true, if_false] at A
    have F := refForm_1 (t.1 1) (t.1 2) (t.2 3) (t.2 4) (t.2 5) (t.2 6) (t.2 7) (t.2 8) (t.2 9) (SZ _ A.1) (SZ _ A.2.1) (by have := A.2.2.1; omega) (by have := A.2.2.2.1; omega) (by have := A.2.2.2.2.1; omega) (by have := A.2.2.2.2.2.1; omega) (by have := A.2.2.2.2.2.2.1; omega) (by have := A.2.2.2.2.2.2.2; omega) w
    refine F.mono ?_
    rintro e' w' ⟨rfl, b⟩
    refine ⟨?_, b⟩
    congr 3
    have T : ∀ n : Nat, ((n : Int)).toNat = n := fun n => rfl
    simp [flat, Pl.text, wordT, dg35, dg11, dg17, dg39, dg32, dg31, dg14, dg151, dg103]
  · unfold fieldsT
    rw [e, listK_2] at A ⊢
    simp only [List.mem_cons, List.not_mem_nil, or_false, forall_eq_or_imp, forall_eq, Pl.okB, if_true, decide_eq_true_eq, Bool.false_eq_true, if_false] at A
    have F := refForm_2 (t.1 1) (t.1 2) (t.2 3) (t.2 4) (t.2 5) (t.2 6) (t.2 7) (t.2 8) (t.2 9) (SZ _ A.1) (by have := A.2.1; omega) (by have := A.2.2; omega) w
    refine F.mono ?_
    rintro e' w' ⟨rfl, b⟩
    refine ⟨?_, b⟩
    congr 3
    have T : ∀ n : Nat, ((n : Int)).toNat = n := fun n => rfl
    simp [flat, Pl.text, wordT, dg35, dg11, dg39, dg103]
  · unfold fieldsT
    rw [e, listK_3] at A ⊢
    simp only [List.mem_cons, List.not_mem_nil, or_false, forall_eq_or_imp, forall_eq, Pl.okB, decide_eq_true_eq, Bool.false_eq_true, if_false] at A
    have F := refForm_3 (t.1 1) (t.1 2) (t.2 3) (t.2 4) (t.2 5) (t.2 6) (t.2 7) (t.2 8) (t.2 9) (by have := A.1; omega) (by have := A.2; omega) w
    refine F.mono ?_
    rintro e' w' ⟨rfl, b⟩
    refine ⟨?_, b⟩
    congr 3
    have T : ∀ n : Nat, ((n : Int)).toNat = n := fun n => rfl
    simp [flat, Pl.text, wordT, dg35, dg371, dg373]
  · unfold fieldsT
    rw [e, listK_4] at A ⊢
    simp only [List.mem_cons, List.not_mem_nil, or_false, forall_eq_or_imp, forall_eq, Pl.okB, decide_eq_true_eq, Bool.false_eq_true, if_false] at A
    have F := refForm_4 (t.1 1) (t.1 2) (t.2 3) (t.2 4) (t.2 5) (t.2 6) (t.2 7) (t.2 8) (t.2 9) (by have := A.1; omega) (by have := A.2; omega) w
    refine F.mono ?_
    rintro e' w' ⟨rfl, b⟩
    refine ⟨?_, b⟩
    congr 3
    have T : ∀ n : Nat, ((n : Int)).toNat = n := fun n => rfl
    simp [flat, Pl.text, wordT, dg35, dg371, dg380]
set_option maxHeartbeats 4000000 in
theorem refEncode_any (t : TellP) (h1 : (t.1 1).size ≤ 100000) (h2 : (t.1 2).size ≤ 100000) (w : World) :
    Calls Tryd.prog 9 #[.agg #[.int .i64 (t.2 0), .string (t.1 1), .string (t.1 2), .int .i64 (t.2 3), .int .i64 (t.2 4), .int .i64 (t.2 5), .int .i64 (t.2 6), .int .i64 (t.2 7), .int .i64 (t.2 8), .int .i64 (t.2 9)]] w fun e w' => e = .returned (.tuple #[.string (mk (encE t).1), .int .i64 (encE t).2]) ∧ Below w.heap.size w w' := by
  have HB0 : Hid (Below w.heap.size w (boxR w t)) := boxR_below w t
  have HT0 : Hid (TellAt (boxR w t) w.heap.size t) := TellAt.boxR w t
  have RR := refRight_any t h1 h2 (boxR w t)
  unfold encE
  by_cases R : rightB t = true
  case neg =>
    rw [if_neg R]
    rw [show rightB t = false by simpa using R] at RR
    clear R
    go_enter Tryd.func9, Tryd.ntmps9
    go_wp2_with fail
    refine RR.mono ?_
    rintro e w1 ⟨rfl, b1⟩
    go_wp2_with fail
    go_ret2
    exact ⟨rfl, HB0.out.trans (b1.mono HB0.out.size)⟩
  case pos =>
    rw [if_pos R]
    rw [R] at RR
    have RP := (right_iff t).1 R
    obtain ⟨ok, l64⟩ := right_allOk RP
    have FF := fun w => refForm_any t RP w
    have hz : (mk (cat (fieldsT t))).size ≤ 1000000 := by
      have := cat_len ok
      rw [mk_size]
      omega
    have FD := fun w => refFields_any (mk (cat (fieldsT t))) w hz
    have fe : ((fieldsL (mk (cat (fieldsT t))).data.toList).2.2 : Int) = 0 := by rw [mk_list, fields_cat12 ok l64]; rfl
    obtain ⟨N, hN⟩ : ∃ N : Int, ((fieldsL (mk (cat (fieldsT t))).data.toList).2.1 : Int) = N := ⟨_, rfl⟩
    have FD' : ∀ w, Calls Tryd.prog 21 #[.string (mk (cat (fieldsT t)))] w fun e w' => ∃ v, e = .returned (.tuple #[v, .int .i64 N, .int .i64 0]) ∧ Below w.heap.size w w' := fun w => (FD w).mono fun e w' ⟨v, h, G⟩ => ⟨v, by rw [h, fe, hN], G.below⟩
    dsimp only
    generalize mk (cat (fieldsT t)) = X at *
    clear R RP ok l64 hz FD fe hN
    go_enter Tryd.func9, Tryd.ntmps9
    go_wp2_with fail
    refine RR.mono ?_
    rintro e w1 ⟨rfl, b1⟩
    have HT1 : Hid (TellAt w1 w.heap.size t) := HT0.out.still b1
    have HB1 : Hid (Below w.heap.size w w1) := HB0.out.trans (b1.mono HB0.out.size)
    obtain ⟨d0, d1, d2, d3, d4, d5, d6, d7, d8, d9⟩ := HT1.out.all
    clear RR b1
    go_wp2_with fail
    refine (FF _).mono ?_
    rintro e w2 ⟨rfl, b2⟩
    have HB2 : Hid (Below w.heap.size w w2) := HB1.out.trans (b2.mono HB1.out.size)
    clear FF b2 d0 d1 d2 d3 d4 d5 d6 d7 d8 d9
    go_wp2_with fail
    refine (FD' _).mono ?_
    rintro e w3 ⟨v, rfl, b3⟩
    have HB3 : Hid (Below w.heap.size w w3) := HB2.out.trans (b3.mono HB2.out.size)
    clear FD' b3
    go_wp2_with fail
    go_ret2
    exact ⟨rfl, HB3.out⟩
end Go.Proofs.YtdacmhnniecmhaaDoor
