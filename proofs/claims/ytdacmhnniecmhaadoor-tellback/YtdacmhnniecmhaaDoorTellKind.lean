/-
  The table of the kinds' letters in memory; the contract of tell's kindOf.
-/
import Derived.Test.YtdacmhnniecmhaaDoorOrder
import Derived.Test.YtdacmhnniecmhaaDoorBut
import Derived.Test.YtdacmhnniecmhaaDoorTellMath
namespace Go.Proofs.YtdacmhnniecmhaaDoor
open Go.ChangeShapes Go.WideShapes Go.ChangeAt Go.RowKit Go.Lib

/-- Five texts lie where the table of letters lies. -/
def Let5 (w : World) (l0 l1 l2 l3 l4 : ByteArray) : Prop := w.cell? ⟨0, 0, none⟩ = some (.string l0) ∧ w.cell? ⟨0, 1, none⟩ = some (.string l1) ∧ w.cell? ⟨0, 2, none⟩ = some (.string l2) ∧ w.cell? ⟨0, 3, none⟩ = some (.string l3) ∧ w.cell? ⟨0, 4, none⟩ = some (.string l4)
/-- The table of letters is laid. -/
def Let (w : World) : Prop := Let5 w ⟨#[]⟩ ⟨#[56]⟩ ⟨#[57]⟩ ⟨#[51]⟩ ⟨#[106]⟩
theorem Let5.below {w w' : World} {l0 l1 l2 l3 l4 : ByteArray} {n : Nat} (h : Let5 w l0 l1 l2 l3 l4) (hb : Below n w w') (hn : w.heap.size ≤ n) : Let5 w' l0 l1 l2 l3 l4 := by
  obtain ⟨h0, h1, h2, h3, h4⟩ := h
  have lt := Nat.lt_of_lt_of_le (World.block_lt_of_cell? _ _ h0) hn
  exact ⟨(hb.cell (p := ⟨0, 0, none⟩) lt).trans h0, (hb.cell (p := ⟨0, 1, none⟩) lt).trans h1, (hb.cell (p := ⟨0, 2, none⟩) lt).trans h2, (hb.cell (p := ⟨0, 3, none⟩) lt).trans h3, (hb.cell (p := ⟨0, 4, none⟩) lt).trans h4⟩
theorem Let.still {w w' : World} (h : Let w) (hb : Below w.heap.size w w') : Let w' := Let5.below h hb (Nat.le_refl _)
/-- The first of five texts that is s, or 0. -/
def firstL (l0 l1 l2 l3 l4 s : ByteArray) : Nat := if l0 = s then 0 else if l1 = s then 1 else if l2 = s then 2 else if l3 = s then 3 else if l4 = s then 4 else 0
theorem first_kind (s : ByteArray) : ((firstL ⟨#[]⟩ ⟨#[56]⟩ ⟨#[57]⟩ ⟨#[51]⟩ ⟨#[106]⟩ s : Nat) : Int) = kindOf s := by
  have sw : ∀ a : ByteArray, (a = s) = (s = a) := fun a => propext ⟨Eq.symm, Eq.symm⟩
  unfold firstL kindOf
  simp only [sw]
  by_cases h0 : s = ⟨#[]⟩
  · subst h0
    decide
  rw [if_neg h0]
  repeat' split
  all_goals first | rfl | omega
set_option maxHeartbeats 4000000 in
theorem kindOf_at (l0 l1 l2 l3 l4 s : ByteArray) (w : World) (h : Let5 w l0 l1 l2 l3 l4) :
    Calls Tryd.prog 30 #[.string s] w fun e w' => e = .returned (.int .i64 (firstL l0 l1 l2 l3 l4 s : Nat)) ∧ w' = w := by
  obtain ⟨h0, h1, h2, h3, h4⟩ := h
  have i0 : ∀ (w : World), (Instr.index 40 (.agg #[.string l0, .string l1, .string l2, .string l3, .string l4]) (.int .i64 0)).run Tryd.prog w = .ok (.string l0) w := fun _ => by kernel_rfl
  have i1 : ∀ (w : World), (Instr.index 40 (.agg #[.string l0, .string l1, .string l2, .string l3, .string l4]) (.int .i64 1)).run Tryd.prog w = .ok (.string l1) w := fun _ => by kernel_rfl
  have i2 : ∀ (w : World), (Instr.index 40 (.agg #[.string l0, .string l1, .string l2, .string l3, .string l4]) (.int .i64 2)).run Tryd.prog w = .ok (.string l2) w := fun _ => by kernel_rfl
  have i3 : ∀ (w : World), (Instr.index 40 (.agg #[.string l0, .string l1, .string l2, .string l3, .string l4]) (.int .i64 3)).run Tryd.prog w = .ok (.string l3) w := fun _ => by kernel_rfl
  have i4 : ∀ (w : World), (Instr.index 40 (.agg #[.string l0, .string l1, .string l2, .string l3, .string l4]) (.int .i64 4)).run Tryd.prog w = .ok (.string l4) w := fun _ => by kernel_rfl
  have q0 := beq_bytes l0 s
  have q1 := beq_bytes l1 s
  have q2 := beq_bytes l2 s
  have q3 := beq_bytes l3 s
  have q4 := beq_bytes l4 s
  go_enter Tryd.func30, Tryd.ntmps30
  go_wp2_with fail
  go_loopw [6] (fun i wr => ∃ k : Nat, i = .int .i64 (k : Int) ∧ k ≤ 5 ∧ Hid ((0 < k → l0 ≠ s) ∧ (1 < k → l1 ≠ s) ∧ (2 < k → l2 ≠ s) ∧ (3 < k → l3 ≠ s) ∧ (4 < k → l4 ≠ s)) ∧ wr = w) (fun i _ => 5 - (RowKit.intOf i).toNat)
  case atStart => exact ⟨0, rfl, by omega, ⟨fun h => absurd h (by omega), fun h => absurd h (by omega), fun h => absurd h (by omega), fun h => absurd h (by omega), fun h => absurd h (by omega)⟩, rfl⟩
  case round =>
    obtain ⟨k, rfl, hk, HN, rfl⟩ := hrel
    rcases (show k = 0 ∨ k = 1 ∨ k = 2 ∨ k = 3 ∨ k = 4 ∨ k = 5 by omega) with rfl | rfl | rfl | rfl | rfl | rfl
    · by_cases h : l0 = s
      · rw [decide_eq_true h] at q0
        have HE : Hid (firstL l0 l1 l2 l3 l4 s = 0) := by
          have H := HN.out
          show firstL l0 l1 l2 l3 l4 s = 0
          unfold firstL
          rw [if_pos h]
        clear h HN
        go_wp2_with fail
        go_ret
        exact ⟨by rw [HE.out]; rfl, rfl⟩
      · rw [decide_eq_false h] at q0
        have HN2 : Hid ((0 < 1 → l0 ≠ s) ∧ (1 < 1 → l1 ≠ s) ∧ (2 < 1 → l2 ≠ s) ∧ (3 < 1 → l3 ≠ s) ∧ (4 < 1 → l4 ≠ s)) := ⟨fun _ => h, fun g => absurd g (by omega), fun g => absurd g (by omega), fun g => absurd g (by omega), fun g => absurd g (by omega)⟩
        clear h HN
        go_wp2_with fail
        go_roundw
        case rel => exact ⟨1, by first | rfl | simp, by omega, HN2, by first | trivial | rfl⟩
        case measure => simp [RowKit.intOf]
    · by_cases h : l1 = s
      · rw [decide_eq_true h] at q1
        have HE : Hid (firstL l0 l1 l2 l3 l4 s = 1) := by
          have H := HN.out
          show firstL l0 l1 l2 l3 l4 s = 1
          unfold firstL
          rw [if_neg (H.1 (by omega)), if_pos h]
        clear h HN
        go_wp2_with fail
        go_ret
        exact ⟨by rw [HE.out]; rfl, rfl⟩
      · rw [decide_eq_false h] at q1
        have HN2 : Hid ((0 < 2 → l0 ≠ s) ∧ (1 < 2 → l1 ≠ s) ∧ (2 < 2 → l2 ≠ s) ∧ (3 < 2 → l3 ≠ s) ∧ (4 < 2 → l4 ≠ s)) := ⟨fun _ => HN.out.1 (by omega), fun _ => h, fun g => absurd g (by omega), fun g => absurd g (by omega), fun g => absurd g (by omega)⟩
        clear h HN
        go_wp2_with fail
        go_roundw
        case rel => exact ⟨2, by first | rfl | simp, by omega, HN2, by first | trivial | rfl⟩
        case measure => simp [RowKit.intOf]
    · by_cases h : l2 = s
      · rw [decide_eq_true h] at q2
        have HE : Hid (firstL l0 l1 l2 l3 l4 s = 2) := by
          have H := HN.out
          show firstL l0 l1 l2 l3 l4 s = 2
          unfold firstL
          rw [if_neg (H.1 (by omega)), if_neg (H.2.1 (by omega)), if_pos h]
        clear h HN
        go_wp2_with fail
        go_ret
        exact ⟨by rw [HE.out]; rfl, rfl⟩
      · rw [decide_eq_false h] at q2
        have HN2 : Hid ((0 < 3 → l0 ≠ s) ∧ (1 < 3 → l1 ≠ s) ∧ (2 < 3 → l2 ≠ s) ∧ (3 < 3 → l3 ≠ s) ∧ (4 < 3 → l4 ≠ s)) := ⟨fun _ => HN.out.1 (by omega), fun _ => HN.out.2.1 (by omega), fun _ => h, fun g => absurd g (by omega), fun g => absurd g (by omega)⟩
        clear h HN
        go_wp2_with fail
        go_roundw
        case rel => exact ⟨3, by first | rfl | simp, by omega, HN2, by first | trivial | rfl⟩
        case measure => simp [RowKit.intOf]
    · by_cases h : l3 = s
      · rw [decide_eq_true h] at q3
        have HE : Hid (firstL l0 l1 l2 l3 l4 s = 3) := by
          have H := HN.out
          show firstL l0 l1 l2 l3 l4 s = 3
          unfold firstL
          rw [if_neg (H.1 (by omega)), if_neg (H.2.1 (by omega)), if_neg (H.2.2.1 (by omega)), if_pos h]
        clear h HN
        go_wp2_with fail
        go_ret
        exact ⟨by rw [HE.out]; rfl, rfl⟩
      · rw [decide_eq_false h] at q3
        have HN2 : Hid ((0 < 4 → l0 ≠ s) ∧ (1 < 4 → l1 ≠ s) ∧ (2 < 4 → l2 ≠ s) ∧ (3 < 4 → l3 ≠ s) ∧ (4 < 4 → l4 ≠ s)) := ⟨fun _ => HN.out.1 (by omega), fun _ => HN.out.2.1 (by omega), fun _ => HN.out.2.2.1 (by omega), fun _ => h, fun g => absurd g (by omega)⟩
        clear h HN
        go_wp2_with fail
        go_roundw
        case rel => exact ⟨4, by first | rfl | simp, by omega, HN2, by first | trivial | rfl⟩
        case measure => simp [RowKit.intOf]
    · by_cases h : l4 = s
      · rw [decide_eq_true h] at q4
        have HE : Hid (firstL l0 l1 l2 l3 l4 s = 4) := by
          have H := HN.out
          show firstL l0 l1 l2 l3 l4 s = 4
          unfold firstL
          rw [if_neg (H.1 (by omega)), if_neg (H.2.1 (by omega)), if_neg (H.2.2.1 (by omega)), if_neg (H.2.2.2.1 (by omega)), if_pos h]
        clear h HN
        go_wp2_with fail
        go_ret
        exact ⟨by rw [HE.out]; rfl, rfl⟩
      · rw [decide_eq_false h] at q4
        have HN2 : Hid ((0 < 5 → l0 ≠ s) ∧ (1 < 5 → l1 ≠ s) ∧ (2 < 5 → l2 ≠ s) ∧ (3 < 5 → l3 ≠ s) ∧ (4 < 5 → l4 ≠ s)) := ⟨fun _ => HN.out.1 (by omega), fun _ => HN.out.2.1 (by omega), fun _ => HN.out.2.2.1 (by omega), fun _ => HN.out.2.2.2.1 (by omega), fun _ => h⟩
        clear h HN
        go_wp2_with fail
        go_roundw
        case rel => exact ⟨5, by first | rfl | simp, by omega, HN2, by first | trivial | rfl⟩
        case measure => simp [RowKit.intOf]
    · have HE : Hid (firstL l0 l1 l2 l3 l4 s = 0) := by
        have H := HN.out
        show firstL l0 l1 l2 l3 l4 s = 0
        unfold firstL
        rw [if_neg (H.1 (by omega)), if_neg (H.2.1 (by omega)), if_neg (H.2.2.1 (by omega)), if_neg (H.2.2.2.1 (by omega)), if_neg (H.2.2.2.2 (by omega))]
      clear HN
      go_wp2_with fail
      go_ret
      exact ⟨by rw [HE.out]; rfl, rfl⟩
theorem kindOf_any (s : ByteArray) (w : World) (h : Let w) :
    Calls Tryd.prog 30 #[.string s] w fun e w' => e = .returned (.int .i64 (kindOf s)) ∧ w' = w := by
  refine (kindOf_at ⟨#[]⟩ ⟨#[56]⟩ ⟨#[57]⟩ ⟨#[51]⟩ ⟨#[106]⟩ s w h).mono ?_
  rintro e w' ⟨rfl, rfl⟩
  rw [first_kind]
  exact ⟨rfl, rfl⟩
end Go.Proofs.YtdacmhnniecmhaaDoor
