/-
  Contracts of package berg's conditions, lies, isQty, isShow, Target, Shown and Slices, for every input.
-/
import Derived.Lib.MinMax
import Derived.Test.YtdacfnodihannaaGreatBeMath
namespace Go.Proofs.YtdacfnodihannaaGreat.BE
open Go.ChangeShapes Go.WideShapes Go.ChangeAt Go.RowKit

theorem least_any (n : Int) (w : World) : Calls Tryz.prog 71 #[.int .i64 n] w fun e w' => e = .returned (.func (.func 90) #[] #[.pointer (some ⟨w.heap.size, 0, none⟩)]) ∧ w' = w.alloc (.cells #[.int .i64 n] 3) := by
  go_enter Tryz.func71, Tryz.ntmps71
  go_wp2_with fail
  go_ret
  exact ⟨rfl, rfl⟩
theorem most_any (n : Int) (w : World) : Calls Tryz.prog 72 #[.int .i64 n] w fun e w' => e = .returned (.func (.func 91) #[] #[.pointer (some ⟨w.heap.size, 0, none⟩)]) ∧ w' = w.alloc (.cells #[.int .i64 n] 3) := by
  go_enter Tryz.func72, Tryz.ntmps72
  go_wp2_with fail
  go_ret
  exact ⟨rfl, rfl⟩
theorem least1_any (n m : Int) (B : Nat) (w : World) (hc : w.cell? ⟨B, 0, none⟩ = some (.int .i64 m)) : Calls Tryz.prog 90 #[.int .i64 n, .pointer (some ⟨B, 0, none⟩)] w fun e w' => e = .returned (.bool (decide (m ≤ n))) ∧ w = w' := by
  go_enter Tryz.func90, Tryz.ntmps90
  go_wp2_with fail
  go_ret
  exact ⟨rfl, rfl⟩
theorem most1_any (n m : Int) (B : Nat) (w : World) (hc : w.cell? ⟨B, 0, none⟩ = some (.int .i64 m)) : Calls Tryz.prog 91 #[.int .i64 n, .pointer (some ⟨B, 0, none⟩)] w fun e w' => e = .returned (.bool (decide (n ≤ m))) ∧ w = w' := by
  go_enter Tryz.func91, Tryz.ntmps91
  go_wp2_with fail
  go_ret
  exact ⟨rfl, rfl⟩
/-- How far the two conditions have come. -/
def Far (n lo hi : Int) (x : Value) : Prop := x = .int .i64 0 ∨ (x = .int .i64 1 ∧ lo ≤ n) ∨ (x = .int .i64 2 ∧ lo ≤ n ∧ n ≤ hi)
theorem far_one {n lo hi : Int} (h : lo ≤ n) : Far n lo hi (.int .i64 1) := .inr (.inl ⟨rfl, h⟩)
theorem far_two {n lo hi : Int} (h1 : lo ≤ n) (h2 : n ≤ hi) : Far n lo hi (.int .i64 2) := .inr (.inr ⟨rfl, h1, h2⟩)
set_option maxHeartbeats 1000000 in
theorem lies_any (n lo hi : Int) (A B C : Nat) (w : World) (hA : w.cell? ⟨A, 0, none⟩ = some (.int .i64 lo)) (hB : w.cell? ⟨B, 0, none⟩ = some (.int .i64 hi))
    (h0 : w.cell? ⟨C, 0, none⟩ = some (.func (.func 90) #[] #[.pointer (some ⟨A, 0, none⟩)])) (h1 : w.cell? ⟨C, 1, none⟩ = some (.func (.func 91) #[] #[.pointer (some ⟨B, 0, none⟩)])) :
    Calls Tryz.prog 70 #[.int .i64 n, .slice (some ⟨C, 0, none⟩) 2 2] w fun e w' => e = .returned (.bool (inB n lo hi)) ∧ w = w' := by
  have F1 := fun w hc => least1_any n lo A w hc
  have F2 := fun w hc => most1_any n hi B w hc
  go_enter Tryz.func70, Tryz.ntmps70
  go_wp2_with fail
  go_loopw [9] (fun x wr => Far n lo hi x ∧ wr = w) (fun x _ => 2 - (RowKit.intOf x).toNat)
  case atStart => exact ⟨.inl rfl, rfl⟩
  case round =>
    obtain ⟨hF, rfl⟩ := hrel
    rcases hF with rfl | ⟨rfl, hl⟩ | ⟨rfl, hl, hm⟩
    · by_cases c : lo ≤ n
      · rw [decide_eq_true c] at F1
        have R : Hid (Far n lo hi (.int .i64 1)) := far_one c
        clear c
        go_wp2_with fail
        refine (F1 _ hA).mono ?_
        rintro e w1 ⟨rfl, rfl⟩
        go_wp2_with fail
        go_roundw
        case rel => exact ⟨R.out, trivial⟩
        case measure => simp [RowKit.intOf] <;> omega
      · rw [decide_eq_false c] at F1
        have R : Hid (inB n lo hi = false) := inB_no (by omega)
        clear c
        go_wp2_with fail
        refine (F1 _ hA).mono ?_
        rintro e w1 ⟨rfl, rfl⟩
        go_wp2_with fail
        go_ret
        exact ⟨by rw [R.out]; rfl, rfl⟩
    · by_cases c : n ≤ hi
      · rw [decide_eq_true c] at F2
        have R : Hid (Far n lo hi (.int .i64 2)) := far_two hl c
        clear c hl
        go_wp2_with fail
        refine (F2 _ hB).mono ?_
        rintro e w1 ⟨rfl, rfl⟩
        go_wp2_with fail
        go_roundw
        case rel => exact ⟨R.out, trivial⟩
        case measure => simp [RowKit.intOf] <;> omega
      · rw [decide_eq_false c] at F2
        have R : Hid (inB n lo hi = false) := inB_no (by omega)
        clear c hl
        go_wp2_with fail
        refine (F2 _ hB).mono ?_
        rintro e w1 ⟨rfl, rfl⟩
        go_wp2_with fail
        go_ret
        exact ⟨by rw [R.out]; rfl, rfl⟩
    · have R : Hid (inB n lo hi = true) := inB_yes hl hm
      clear hl hm
      go_wp2_with fail
      go_ret
      exact ⟨by rw [R.out]; rfl, rfl⟩
/-- A list of two conditions, as it is made for a call. -/
theorem packed_any (n lo hi : Int) (w : World) : Calls Tryz.prog 70 #[.int .i64 n, .slice (some ⟨w.heap.size + 1 + 1, 0, none⟩) 2 2]
    (((w.alloc (.cells #[.int .i64 lo] 3)).alloc (.cells #[.int .i64 hi] 3)).alloc (.cells #[.func (.func 90) #[] #[.pointer (some ⟨w.heap.size, 0, none⟩)], .func (.func 91) #[] #[.pointer (some ⟨w.heap.size + 1, 0, none⟩)]] 87))
    fun e w' => e = .returned (.bool (inB n lo hi)) ∧ Below w.heap.size w w' := by
  have c0 : (((w.alloc (.cells #[.int .i64 lo] 3)).alloc (.cells #[.int .i64 hi] 3)).alloc (.cells #[.func (.func 90) #[] #[.pointer (some ⟨w.heap.size, 0, none⟩)], .func (.func 91) #[] #[.pointer (some ⟨w.heap.size + 1, 0, none⟩)]] 87)).cell? ⟨w.heap.size, 0, none⟩ = some (.int .i64 lo) := by
    rw [World.cell?_alloc_past _ _ _ (by simp; omega), World.cell?_alloc_past _ _ _ (by simp), World.cell?_alloc_at _ _ _ _ (by simp)]; rfl
  have c1 : (((w.alloc (.cells #[.int .i64 lo] 3)).alloc (.cells #[.int .i64 hi] 3)).alloc (.cells #[.func (.func 90) #[] #[.pointer (some ⟨w.heap.size, 0, none⟩)], .func (.func 91) #[] #[.pointer (some ⟨w.heap.size + 1, 0, none⟩)]] 87)).cell? ⟨w.heap.size + 1, 0, none⟩ = some (.int .i64 hi) := by
    rw [World.cell?_alloc_past _ _ _ (by simp), World.cell?_alloc_at _ _ _ _ (by simp)]; rfl
  have hb := (((Below.refl _ w).alloc (Nat.le_refl _) (.cells #[.int .i64 lo] 3)).alloc (by simp) (.cells #[.int .i64 hi] 3)).alloc (by simp; omega) (.cells #[.func (.func 90) #[] #[.pointer (some ⟨w.heap.size, 0, none⟩)], .func (.func 91) #[] #[.pointer (some ⟨w.heap.size + 1, 0, none⟩)]] 87)
  refine (lies_any n lo hi w.heap.size (w.heap.size + 1) (w.heap.size + 1 + 1) _ c0 c1 (by rw [World.cell?_alloc_at _ _ _ _ (by simp)]; rfl) (by rw [World.cell?_alloc_at _ _ _ _ (by simp)]; rfl)).mono ?_
  rintro e w1 ⟨rfl, rfl⟩
  exact ⟨rfl, hb⟩
theorem qty_any (n : Int) (w : World) : Calls Tryz.prog 68 #[.int .i64 n] w fun e w' => e = .returned (.bool (inB n 0 1099511627776)) ∧ Below w.heap.size w w' := by
  have F := fun w => packed_any n 0 1099511627776 w
  go_enter Tryz.func68, Tryz.ntmps68
  go_wp2_with fail
  refine (least_any _ _).mono ?_
  rintro e w1 ⟨rfl, rfl⟩
  go_wp2_with fail
  refine (most_any _ _).mono ?_
  rintro e w2 ⟨rfl, rfl⟩
  go_wp2_with fail
  refine (F _).mono ?_
  rintro e w3 ⟨rfl, hb⟩
  go_wp2_with fail
  go_ret
  exact ⟨rfl, hb⟩
theorem show_any (n : Int) (w : World) : Calls Tryz.prog 69 #[.int .i64 n] w fun e w' => e = .returned (.bool (inB n 1 1099511627776)) ∧ Below w.heap.size w w' := by
  have F := fun w => packed_any n 1 1099511627776 w
  go_enter Tryz.func69, Tryz.ntmps69
  go_wp2_with fail
  refine (least_any _ _).mono ?_
  rintro e w1 ⟨rfl, rfl⟩
  go_wp2_with fail
  refine (most_any _ _).mono ?_
  rintro e w2 ⟨rfl, rfl⟩
  go_wp2_with fail
  refine (F _).mono ?_
  rintro e w3 ⟨rfl, hb⟩
  go_wp2_with fail
  go_ret
  exact ⟨rfl, hb⟩
set_option maxHeartbeats 1000000 in
theorem target_any (q s f : Int) (w : World) : Calls Tryz.prog 47 #[.int .i64 q, .int .i64 s, .int .i64 f] w fun e w' => e = .returned (.tuple #[.int .i64 (tgN q s f), .int .i64 (tgE q s f)]) ∧ Below w.heap.size w w' := by
  have F1 := fun w => qty_any q w
  have F2 := fun w => show_any s w
  have F3 := fun w => packed_any f 0 q w
  unfold tgN tgE
  cases hf : fineB q s f
  · simp only [Bool.false_eq_true, if_false]
    unfold fineB twoB at hf
    cases h1 : inB q 0 1099511627776
    · rw [h1] at F1
      clear hf F2 F3 h1
      go_enter Tryz.func47, Tryz.ntmps47
      go_wp2_with fail
      refine (F1 _).mono ?_
      rintro e w1 ⟨rfl, hb⟩
      go_wp2_with fail
      go_ret2
      exact ⟨rfl, hb⟩
    · rw [h1] at F1 hf
      rw [Bool.true_and] at hf
      cases h2 : inB s 1 1099511627776
      · rw [h2] at F2
        clear hf F3 h1 h2
        go_enter Tryz.func47, Tryz.ntmps47
        go_wp2_with fail
        refine (F1 _).mono ?_
        rintro e w1 ⟨rfl, hb1⟩
        go_wp2_with fail
        refine (F2 _).mono ?_
        rintro e w2 ⟨rfl, hb2⟩
        go_wp2_with fail
        go_ret2
        exact ⟨rfl, hb1.trans (hb2.mono hb1.size)⟩
      · rw [h2] at F2 hf
        rw [Bool.true_and] at hf
        rw [hf] at F3
        clear hf h1 h2
        go_enter Tryz.func47, Tryz.ntmps47
        go_wp2_with fail
        refine (F1 _).mono ?_
        rintro e w1 ⟨rfl, hb1⟩
        go_wp2_with fail
        refine (F2 _).mono ?_
        rintro e w2 ⟨rfl, hb2⟩
        have s1 := hb1.size
        have hb12 := hb1.trans (hb2.mono s1)
        have s2 := hb12.size
        clear hb1 hb2 s1
        go_wp2_with fail
        refine (least_any _ _).mono ?_
        rintro e w3 ⟨rfl, rfl⟩
        go_wp2_with fail
        refine (most_any _ _).mono ?_
        rintro e w3 ⟨rfl, rfl⟩
        go_wp2_with fail
        refine (F3 _).mono ?_
        rintro e w3 ⟨rfl, hb3⟩
        go_wp2_with fail
        go_ret2
        exact ⟨rfl, hb12.trans (hb3.mono s2)⟩
  · have h := fine_of hf
    rw [inB_yes h.1.q0 h.1.q1] at F1
    rw [inB_yes h.1.s0 h.1.s1] at F2
    rw [inB_yes h.2.1 h.2.2] at F3
    have hw : wrap64 (f + s) = f + s := wrap_in _ (by have := h.1.s0; omega) (by have := h.1.s1; have := h.1.q1; omega)
    simp only [if_true]
    clear hf h
    go_enter Tryz.func47, Tryz.ntmps47
    go_wp2_with fail
    refine (F1 _).mono ?_
    rintro e w1 ⟨rfl, hb1⟩
    go_wp2_with fail
    refine (F2 _).mono ?_
    rintro e w2 ⟨rfl, hb2⟩
    have s1 := hb1.size
    have hb12 := hb1.trans (hb2.mono s1)
    have s2 := hb12.size
    clear hb1 hb2 s1
    go_wp2_with fail
    refine (least_any _ _).mono ?_
    rintro e w3 ⟨rfl, rfl⟩
    go_wp2_with fail
    refine (most_any _ _).mono ?_
    rintro e w3 ⟨rfl, rfl⟩
    go_wp2_with fail
    refine (F3 _).mono ?_
    rintro e w3 ⟨rfl, hb3⟩
    go_wp2_with fail
    go_ret2
    exact ⟨rfl, hb12.trans (hb3.mono s2)⟩
end Go.Proofs.YtdacfnodihannaaGreat.BE
