/-
  Contracts of matrix's Word and of the reference's: for every number.
-/
import Derived.Test.YtelkhmcgnhlacaaMaSmall
namespace Go.Proofs.Ytelkhmcgnhlacaa.MA
open Go.ChangeShapes Go.WideShapes Go.ChangeAt Go.RowKit

/-- A state's word. -/
def wds : List ByteArray := [⟨#[]⟩, ⟨#[112, 101, 110, 100, 105, 110, 103]⟩, ⟨#[110, 101, 119]⟩, ⟨#[112, 97, 114, 116, 105, 97, 108]⟩, ⟨#[99, 97, 110, 99, 101, 108, 105, 110, 103]⟩, ⟨#[114, 101, 112, 108, 97, 99, 105, 110, 103]⟩, ⟨#[102, 105, 108, 108, 101, 100]⟩, ⟨#[99, 97, 110, 99, 101, 108, 101, 100]⟩, ⟨#[114, 101, 106, 101, 99, 116, 101, 100]⟩]
def wd (s : Int) : ByteArray := if 0 ≤ s then wds.getD s.toNat ⟨#[]⟩ else ⟨#[]⟩
theorem wd_none {s : Int} (h : s < 1 ∨ 8 < s) : wd s = ⟨#[]⟩ := by
  unfold wd
  by_cases k : 0 ≤ s
  · rw [if_pos k]
    by_cases z : s = 0
    · subst z; rfl
    · obtain ⟨n, rfl⟩ : ∃ n : Nat, s = ((n + 9 : Nat) : Int) := ⟨(s - 9).toNat, by omega⟩
      rfl
  · rw [if_neg k]
set_option maxHeartbeats 4000000 in
theorem word_1 (w : World) : Calls Try.prog 13 #[.int .i64 1] w fun e w' => e = .returned (.string ⟨#[112, 101, 110, 100, 105, 110, 103]⟩) ∧ Below w.heap.size w w' := by
  have F1 := isState_any 1
  rw [show stB 1 = true by decide] at F1
  go_enter Try.func13, Try.ntmps13
  go_wp2_with fail
  refine (F1 _).mono ?_
  rintro e w1 ⟨rfl, rfl⟩
  go_wp2_with fail
  go_ret
  exact ⟨rfl, (Below.refl _ _).alloc (Nat.le_refl _) _⟩
set_option maxHeartbeats 4000000 in
theorem word_2 (w : World) : Calls Try.prog 13 #[.int .i64 2] w fun e w' => e = .returned (.string ⟨#[110, 101, 119]⟩) ∧ Below w.heap.size w w' := by
  have F1 := isState_any 2
  rw [show stB 2 = true by decide] at F1
  go_enter Try.func13, Try.ntmps13
  go_wp2_with fail
  refine (F1 _).mono ?_
  rintro e w1 ⟨rfl, rfl⟩
  go_wp2_with fail
  go_ret
  exact ⟨rfl, (Below.refl _ _).alloc (Nat.le_refl _) _⟩
set_option maxHeartbeats 4000000 in
theorem word_3 (w : World) : Calls Try.prog 13 #[.int .i64 3] w fun e w' => e = .returned (.string ⟨#[112, 97, 114, 116, 105, 97, 108]⟩) ∧ Below w.heap.size w w' := by
  have F1 := isState_any 3
  rw [show stB 3 = true by decide] at F1
  go_enter Try.func13, Try.ntmps13
  go_wp2_with fail
  refine (F1 _).mono ?_
  rintro e w1 ⟨rfl, rfl⟩
  go_wp2_with fail
  go_ret
  exact ⟨rfl, (Below.refl _ _).alloc (Nat.le_refl _) _⟩
set_option maxHeartbeats 4000000 in
theorem word_4 (w : World) : Calls Try.prog 13 #[.int .i64 4] w fun e w' => e = .returned (.string ⟨#[99, 97, 110, 99, 101, 108, 105, 110, 103]⟩) ∧ Below w.heap.size w w' := by
  have F1 := isState_any 4
  rw [show stB 4 = true by decide] at F1
  go_enter Try.func13, Try.ntmps13
  go_wp2_with fail
  refine (F1 _).mono ?_
  rintro e w1 ⟨rfl, rfl⟩
  go_wp2_with fail
  go_ret
  exact ⟨rfl, (Below.refl _ _).alloc (Nat.le_refl _) _⟩
set_option maxHeartbeats 4000000 in
theorem word_5 (w : World) : Calls Try.prog 13 #[.int .i64 5] w fun e w' => e = .returned (.string ⟨#[114, 101, 112, 108, 97, 99, 105, 110, 103]⟩) ∧ Below w.heap.size w w' := by
  have F1 := isState_any 5
  rw [show stB 5 = true by decide] at F1
  go_enter Try.func13, Try.ntmps13
  go_wp2_with fail
  refine (F1 _).mono ?_
  rintro e w1 ⟨rfl, rfl⟩
  go_wp2_with fail
  go_ret
  exact ⟨rfl, (Below.refl _ _).alloc (Nat.le_refl _) _⟩
set_option maxHeartbeats 4000000 in
theorem word_6 (w : World) : Calls Try.prog 13 #[.int .i64 6] w fun e w' => e = .returned (.string ⟨#[102, 105, 108, 108, 101, 100]⟩) ∧ Below w.heap.size w w' := by
  have F1 := isState_any 6
  rw [show stB 6 = true by decide] at F1
  go_enter Try.func13, Try.ntmps13
  go_wp2_with fail
  refine (F1 _).mono ?_
  rintro e w1 ⟨rfl, rfl⟩
  go_wp2_with fail
  go_ret
  exact ⟨rfl, (Below.refl _ _).alloc (Nat.le_refl _) _⟩
set_option maxHeartbeats 4000000 in
theorem word_7 (w : World) : Calls Try.prog 13 #[.int .i64 7] w fun e w' => e = .returned (.string ⟨#[99, 97, 110, 99, 101, 108, 101, 100]⟩) ∧ Below w.heap.size w w' := by
  have F1 := isState_any 7
  rw [show stB 7 = true by decide] at F1
  go_enter Try.func13, Try.ntmps13
  go_wp2_with fail
  refine (F1 _).mono ?_
  rintro e w1 ⟨rfl, rfl⟩
  go_wp2_with fail
  go_ret
  exact ⟨rfl, (Below.refl _ _).alloc (Nat.le_refl _) _⟩
set_option maxHeartbeats 4000000 in
theorem word_8 (w : World) : Calls Try.prog 13 #[.int .i64 8] w fun e w' => e = .returned (.string ⟨#[114, 101, 106, 101, 99, 116, 101, 100]⟩) ∧ Below w.heap.size w w' := by
  have F1 := isState_any 8
  rw [show stB 8 = true by decide] at F1
  go_enter Try.func13, Try.ntmps13
  go_wp2_with fail
  refine (F1 _).mono ?_
  rintro e w1 ⟨rfl, rfl⟩
  go_wp2_with fail
  go_ret
  exact ⟨rfl, (Below.refl _ _).alloc (Nat.le_refl _) _⟩
set_option maxHeartbeats 4000000 in
theorem word_no (s : Int) (w : World) (h : ¬ (1 ≤ s ∧ s ≤ 8)) : Calls Try.prog 13 #[.int .i64 s] w fun e w' => e = .returned (.string ⟨#[]⟩) ∧ Below w.heap.size w w' := by
  have F1 := isState_any s
  rw [Bool.eq_false_iff.2 (fun e => h ((st_iff s).1 e))] at F1
  clear h
  go_enter Try.func13, Try.ntmps13
  go_wp2_with fail
  refine (F1 _).mono ?_
  rintro e w1 ⟨rfl, rfl⟩
  go_wp2_with fail
  go_ret
  exact ⟨rfl, Below.refl _ _⟩
theorem word_any (s : Int) (w : World) : Calls Try.prog 13 #[.int .i64 s] w fun e w' => e = .returned (.string (wd s)) ∧ Below w.heap.size w w' := by
  by_cases k : 1 ≤ s ∧ s ≤ 8
  · rcases (show s = 1 ∨ s = 2 ∨ s = 3 ∨ s = 4 ∨ s = 5 ∨ s = 6 ∨ s = 7 ∨ s = 8 by omega) with rfl | rfl | rfl | rfl | rfl | rfl | rfl | rfl
    · exact word_1 w
    · exact word_2 w
    · exact word_3 w
    · exact word_4 w
    · exact word_5 w
    · exact word_6 w
    · exact word_7 w
    · exact word_8 w
  · rw [wd_none (by omega)]; exact word_no s w k
set_option maxHeartbeats 4000000 in
theorem refWord_0 (w : World) : Calls Try.prog 14 #[.int .i64 0] w fun e w' => e = .returned (.string ⟨#[]⟩) ∧ Below w.heap.size w w' := by
  go_enter Try.func14, Try.ntmps14
  go_wp2_with fail
  go_ret
  exact ⟨rfl, (Below.refl _ _).alloc (Nat.le_refl _) _⟩
set_option maxHeartbeats 4000000 in
theorem refWord_1 (w : World) : Calls Try.prog 14 #[.int .i64 1] w fun e w' => e = .returned (.string ⟨#[112, 101, 110, 100, 105, 110, 103]⟩) ∧ Below w.heap.size w w' := by
  go_enter Try.func14, Try.ntmps14
  go_wp2_with fail
  go_ret
  exact ⟨rfl, (Below.refl _ _).alloc (Nat.le_refl _) _⟩
set_option maxHeartbeats 4000000 in
theorem refWord_2 (w : World) : Calls Try.prog 14 #[.int .i64 2] w fun e w' => e = .returned (.string ⟨#[110, 101, 119]⟩) ∧ Below w.heap.size w w' := by
  go_enter Try.func14, Try.ntmps14
  go_wp2_with fail
  go_ret
  exact ⟨rfl, (Below.refl _ _).alloc (Nat.le_refl _) _⟩
set_option maxHeartbeats 4000000 in
theorem refWord_3 (w : World) : Calls Try.prog 14 #[.int .i64 3] w fun e w' => e = .returned (.string ⟨#[112, 97, 114, 116, 105, 97, 108]⟩) ∧ Below w.heap.size w w' := by
  go_enter Try.func14, Try.ntmps14
  go_wp2_with fail
  go_ret
  exact ⟨rfl, (Below.refl _ _).alloc (Nat.le_refl _) _⟩
set_option maxHeartbeats 4000000 in
theorem refWord_4 (w : World) : Calls Try.prog 14 #[.int .i64 4] w fun e w' => e = .returned (.string ⟨#[99, 97, 110, 99, 101, 108, 105, 110, 103]⟩) ∧ Below w.heap.size w w' := by
  go_enter Try.func14, Try.ntmps14
  go_wp2_with fail
  go_ret
  exact ⟨rfl, (Below.refl _ _).alloc (Nat.le_refl _) _⟩
set_option maxHeartbeats 4000000 in
theorem refWord_5 (w : World) : Calls Try.prog 14 #[.int .i64 5] w fun e w' => e = .returned (.string ⟨#[114, 101, 112, 108, 97, 99, 105, 110, 103]⟩) ∧ Below w.heap.size w w' := by
  go_enter Try.func14, Try.ntmps14
  go_wp2_with fail
  go_ret
  exact ⟨rfl, (Below.refl _ _).alloc (Nat.le_refl _) _⟩
set_option maxHeartbeats 4000000 in
theorem refWord_6 (w : World) : Calls Try.prog 14 #[.int .i64 6] w fun e w' => e = .returned (.string ⟨#[102, 105, 108, 108, 101, 100]⟩) ∧ Below w.heap.size w w' := by
  go_enter Try.func14, Try.ntmps14
  go_wp2_with fail
  go_ret
  exact ⟨rfl, (Below.refl _ _).alloc (Nat.le_refl _) _⟩
set_option maxHeartbeats 4000000 in
theorem refWord_7 (w : World) : Calls Try.prog 14 #[.int .i64 7] w fun e w' => e = .returned (.string ⟨#[99, 97, 110, 99, 101, 108, 101, 100]⟩) ∧ Below w.heap.size w w' := by
  go_enter Try.func14, Try.ntmps14
  go_wp2_with fail
  go_ret
  exact ⟨rfl, (Below.refl _ _).alloc (Nat.le_refl _) _⟩
set_option maxHeartbeats 4000000 in
theorem refWord_8 (w : World) : Calls Try.prog 14 #[.int .i64 8] w fun e w' => e = .returned (.string ⟨#[114, 101, 106, 101, 99, 116, 101, 100]⟩) ∧ Below w.heap.size w w' := by
  go_enter Try.func14, Try.ntmps14
  go_wp2_with fail
  go_ret
  exact ⟨rfl, (Below.refl _ _).alloc (Nat.le_refl _) _⟩
set_option maxHeartbeats 4000000 in
theorem refWord_low (s : Int) (w : World) (h : s < 0) : Calls Try.prog 14 #[.int .i64 s] w fun e w' => e = .returned (.string ⟨#[]⟩) ∧ Below w.heap.size w w' := by
  go_enter Try.func14, Try.ntmps14
  go_wp2_with fail
  go_ret
  exact ⟨rfl, (Below.refl _ _).alloc (Nat.le_refl _) _⟩
set_option maxHeartbeats 4000000 in
theorem refWord_high (s : Int) (w : World) (h0 : ¬ s < 0) (h : 8 < s) : Calls Try.prog 14 #[.int .i64 s] w fun e w' => e = .returned (.string ⟨#[]⟩) ∧ Below w.heap.size w w' := by
  go_enter Try.func14, Try.ntmps14
  go_wp2_with fail
  go_ret
  exact ⟨rfl, (Below.refl _ _).alloc (Nat.le_refl _) _⟩
theorem refWord_any (s : Int) (w : World) : Calls Try.prog 14 #[.int .i64 s] w fun e w' => e = .returned (.string (wd s)) ∧ Below w.heap.size w w' := by
  by_cases h0 : s < 0
  · rw [wd_none (by omega)]; exact refWord_low s w h0
  by_cases h1 : 8 < s
  · rw [wd_none (by omega)]; exact refWord_high s w h0 h1
  rcases (show s = 0 ∨ s = 1 ∨ s = 2 ∨ s = 3 ∨ s = 4 ∨ s = 5 ∨ s = 6 ∨ s = 7 ∨ s = 8 by omega) with rfl | rfl | rfl | rfl | rfl | rfl | rfl | rfl | rfl
  · exact refWord_0 w
  · exact refWord_1 w
  · exact refWord_2 w
  · exact refWord_3 w
  · exact refWord_4 w
  · exact refWord_5 w
  · exact refWord_6 w
  · exact refWord_7 w
  · exact refWord_8 w
end Go.Proofs.Ytelkhmcgnhlacaa.MA
