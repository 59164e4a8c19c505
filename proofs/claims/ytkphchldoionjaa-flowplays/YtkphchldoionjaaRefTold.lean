/-
  Contracts of the reference's Int and Told and of the statements' told: a whole number is told as itself, or refused where it has no room.
-/
import Derived.Test.YtkphchldoionjaaRefAdd
import Derived.Test.YtkphchldoionjaaWide
namespace Go.Proofs.Ytkphchldoionjaa
open Go.ChangeShapes Go.WideShapes Go.ChangeAt Go.RowKit

theorem val_drop (l : List Bool) (j : Nat) (hj : j < l.length) : val (l.drop j) = (l.getD j false).toNat + 2 * val (l.drop (j + 1)) := by
  rw [List.drop_eq_getElem_cons hj]
  simp [val, hj]
theorem val_drop_lt (l : List Bool) (j : Nat) (h : l.length ≤ 64) : val (l.drop j) < 18446744073709551616 := by
  have h1 := val_lt (l.drop j)
  have h2 : 2 ^ (l.drop j).length ≤ 2 ^ 64 := Nat.pow_le_pow_right (by omega) (by simp; omega)
  exact Nat.lt_of_lt_of_le h1 h2

set_option maxHeartbeats 1000000 in
theorem intR_long {B : Nat} (s : Bool) (va : Value) (l : List Bool) (w : World) (hv : Reads B w va l) (hl : 64 < l.length) :
    Calls Try.prog 38 #[.agg #[.bool s, va]] w fun e w' => e = .returned (.tuple #[.int .i64 0, .bool false]) ∧ Below w.heap.size w w' := by
  obtain ⟨a, ca, rfl, h1, h2, _⟩ := id hv
  unfold maxLen at h2
  have t : (64 : Int) < (l.length : Int) := by omega
  go_enter Try.func38, Try.ntmps38
  go_wp2
  go_ret2
  exact ⟨rfl, (Below.refl _ _).alloc (Nat.le_refl _) _⟩

set_option maxHeartbeats 1000000 in
theorem intR_pos {B : Nat} (va : Value) (l : List Bool) (w : World) (hv : Reads B w va l) (hl : l.length ≤ 64) :
    Calls Try.prog 38 #[.agg #[.bool false, va]] w fun e w' => e = .returned (.tuple #[.int .i64 (wrap64 (val l : Int)), .bool (decide ((val l : Int) < 9223372036854775808))]) ∧ Below w.heap.size w w' := by
  obtain ⟨a, ca, rfl, h1, h2, hcell⟩ := id hv
  have t : ¬ (64 : Int) < (l.length : Int) := by omega
  go_enter Try.func38, Try.ntmps38
  go_wp2_with fail
  go_loop [4, 5] (fun m i => ∃ k : Nat, i = .int .i64 ((k : Int) - 1) ∧ k ≤ l.length ∧ m = .int .u64 (val (l.drop k) : Int)) (fun _ i => (intOf i + 1).toNat)
  case atStart => exact ⟨l.length, rfl, Nat.le_refl _, by simp [val]⟩
  case round =>
    obtain ⟨k, rfl, hk, rfl⟩ := hrel
    rcases Nat.eq_zero_or_pos k with rfl | hp
    · have hb := val_drop_lt l 0 hl
      rw [List.drop_zero] at *
      go_wp2_with fail
      go_ret2
      exact ⟨rfl, (Below.refl _ _).alloc (Nat.le_refl _) _⟩
    · obtain ⟨j, rfl⟩ : ∃ j, k = j + 1 := ⟨k - 1, by omega⟩
      have ej : ((j + 1 : Nat) : Int) - 1 = (j : Int) := by omega
      rw [ej]
      clear ej
      have tj : (0 : Int) ≤ (j : Int) := by omega
      obtain ⟨b, off, rfl, _, hc⟩ := hcell j (by omega)
      have hblk := World.block_lt_of_cell? _ _ hc
      have hd := val_drop l j (by omega)
      have hb := val_drop_lt l j hl
      have tl : (j : Int) < (l.length : Int) := by omega
      have HD : Hid (val (l.drop j) = (l.getD j false).toNat + 2 * val (l.drop (j + 1))) := hd
      have hm : val (l.drop (j + 1)) ≤ 9223372036854775807 := by omega
      clear hd hb
      generalize val (l.drop (j + 1)) = m at *
      cases hbit : l.getD j false
      · rw [hbit] at hc
        have HD2 : Hid (val (l.drop j) = 2 * m) := by have := HD.out; rw [hbit] at this; show _ = _; simpa using this
        clear HD hbit
        go_wp2_with fail
        go_round
        case rel => exact ⟨j, rfl, by omega, congrArg (Value.int .u64) (by rw [HD2.out]; omega)⟩
        case measure => simp [intOf]
      · rw [hbit] at hc
        have HD2 : Hid (val (l.drop j) = 1 + 2 * m) := by have := HD.out; rw [hbit] at this; show _ = _; simpa using this
        clear HD hbit
        go_wp2_with fail
        go_round
        case rel => exact ⟨j, rfl, by omega, congrArg (Value.int .u64) (by rw [HD2.out]; omega)⟩
        case measure => simp [intOf]

set_option maxHeartbeats 1000000 in
theorem intR_neg {B : Nat} (va : Value) (l : List Bool) (w : World) (hv : Reads B w va l) (hl : l.length ≤ 64) :
    Calls Try.prog 38 #[.agg #[.bool true, va]] w fun e w' => e = .returned (.tuple #[.int .i64 (wrap64 (IntKind.u64.wrap (-(val l : Int)))), .bool (decide ((val l : Int) ≤ 9223372036854775808))]) ∧ Below w.heap.size w w' := by
  obtain ⟨a, ca, rfl, h1, h2, hcell⟩ := id hv
  have t : ¬ (64 : Int) < (l.length : Int) := by omega
  go_enter Try.func38, Try.ntmps38
  go_wp2_with fail
  go_loop [4, 5] (fun m i => ∃ k : Nat, i = .int .i64 ((k : Int) - 1) ∧ k ≤ l.length ∧ m = .int .u64 (val (l.drop k) : Int)) (fun _ i => (intOf i + 1).toNat)
  case atStart => exact ⟨l.length, rfl, Nat.le_refl _, by simp [val]⟩
  case round =>
    obtain ⟨k, rfl, hk, rfl⟩ := hrel
    rcases Nat.eq_zero_or_pos k with rfl | hp
    · have hb := val_drop_lt l 0 hl
      rw [List.drop_zero] at *
      go_wp2_with fail
      go_ret2
      exact ⟨rfl, (Below.refl _ _).alloc (Nat.le_refl _) _⟩
    · obtain ⟨j, rfl⟩ : ∃ j, k = j + 1 := ⟨k - 1, by omega⟩
      have ej : ((j + 1 : Nat) : Int) - 1 = (j : Int) := by omega
      rw [ej]
      clear ej
      have tj : (0 : Int) ≤ (j : Int) := by omega
      obtain ⟨b, off, rfl, _, hc⟩ := hcell j (by omega)
      have hblk := World.block_lt_of_cell? _ _ hc
      have hd := val_drop l j (by omega)
      have hb := val_drop_lt l j hl
      have tl : (j : Int) < (l.length : Int) := by omega
      have HD : Hid (val (l.drop j) = (l.getD j false).toNat + 2 * val (l.drop (j + 1))) := hd
      have hm : val (l.drop (j + 1)) ≤ 9223372036854775807 := by omega
      clear hd hb
      generalize val (l.drop (j + 1)) = m at *
      cases hbit : l.getD j false
      · rw [hbit] at hc
        have HD2 : Hid (val (l.drop j) = 2 * m) := by have := HD.out; rw [hbit] at this; show _ = _; simpa using this
        clear HD hbit
        go_wp2_with fail
        go_round
        case rel => exact ⟨j, rfl, by omega, congrArg (Value.int .u64) (by rw [HD2.out]; omega)⟩
        case measure => simp [intOf]
      · rw [hbit] at hc
        have HD2 : Hid (val (l.drop j) = 1 + 2 * m) := by have := HD.out; rw [hbit] at this; show _ = _; simpa using this
        clear HD hbit
        go_wp2_with fail
        go_round
        case rel => exact ⟨j, rfl, by omega, congrArg (Value.int .u64) (by rw [HD2.out]; omega)⟩
        case measure => simp [intOf]

theorem room_pos (z : Int) (l : List Bool) (hz : ¬ z < 0) (h : val l = z.natAbs) {x : Value} : Ending.returned (.tuple #[x, .bool (decide ((val l : Int) < 9223372036854775808))]) = .returned (.tuple #[x, .bool (decide (-9223372036854775808 ≤ z ∧ z ≤ 9223372036854775807))]) := by
  have e : decide ((val l : Int) < 9223372036854775808) = decide (-9223372036854775808 ≤ z ∧ z ≤ 9223372036854775807) := decide_eq_decide.2 (by omega)
  rw [e]
theorem room_neg (z : Int) (l : List Bool) (hz : z < 0) (h : val l = z.natAbs) {x : Value} : Ending.returned (.tuple #[x, .bool (decide ((val l : Int) ≤ 9223372036854775808))]) = .returned (.tuple #[x, .bool (decide (-9223372036854775808 ≤ z ∧ z ≤ 9223372036854775807))]) := by
  have e : decide ((val l : Int) ≤ 9223372036854775808) = decide (-9223372036854775808 ≤ z ∧ z ≤ 9223372036854775807) := decide_eq_decide.2 (by omega)
  rw [e]
/-- What Int answers, in all: the number and that it has room, or no room. -/
theorem intR_any {B : Nat} (s : Bool) (va : Value) (z : Int) (n : Nat) (w : World) (hv : IsNum B w s va z n) :
    Calls Try.prog 38 #[.agg #[.bool s, va]] w fun e w' => ∃ x, e = .returned (.tuple #[.int .i64 x, .bool (decide (-9223372036854775808 ≤ z ∧ z ≤ 9223372036854775807))]) ∧ Below w.heap.size w w' ∧ (-9223372036854775808 ≤ z ∧ z ≤ 9223372036854775807 → x = z) := by
  obtain ⟨hs, l, h1, h2, h3, h4⟩ := hv
  by_cases hl : l.length ≤ 64
  · have hlt := val_drop_lt l 0 hl
    rw [List.drop_zero] at hlt
    cases s
    · have hz : ¬ z < 0 := by simpa using hs.symm
      refine (intR_pos va l w h1 hl).mono ?_
      rintro e w' ⟨rfl, hb⟩
      exact ⟨_, room_pos z l hz h3, hb, fun h => by unfold wrap64; omega⟩
    · have hz : z < 0 := by simpa using hs.symm
      refine (intR_neg va l w h1 hl).mono ?_
      rintro e w' ⟨rfl, hb⟩
      exact ⟨_, room_neg z l hz h3, hb, fun h => by rw [IntKind.wrap_u64]; unfold wrap64; omega⟩
  · refine (intR_long s va l w h1 (by omega)).mono ?_
    rintro e w' ⟨rfl, hb⟩
    have hge := canon_ge l h2 (fun e => by rw [e] at hl; simp at hl)
    have hp : 2 ^ 64 ≤ 2 ^ (l.length - 1) := Nat.pow_le_pow_right (by omega) (by omega)
    have hbig : 18446744073709551616 ≤ z.natAbs := by omega
    refine ⟨0, ?_, hb, fun h => by omega⟩
    rw [show decide (-9223372036854775808 ≤ z ∧ z ≤ 9223372036854775807) = false by simp; omega]

set_option maxHeartbeats 400000 in
theorem toldR_any {B : Nat} (s : Bool) (va : Value) (z : Int) (n : Nat) (w : World) (hv : IsNum B w s va z n) :
    Calls Try.prog 26 #[.agg #[.bool s, va]] w fun e w' => e = .returned (.tuple #[.int .i64 (ansN z), .int .i64 (ansE z)]) ∧ Below w.heap.size w w' := by
  obtain ⟨a, N, ca, rfl⟩ : ∃ a N ca, va = .slice a N ca := by
    obtain ⟨_, l, ⟨a, ca, e, _⟩, _⟩ := hv
    exact ⟨a, _, ca, e⟩
  have hb0 : ∀ o : Obj, Below w.heap.size w (w.alloc o) := fun o => (Below.refl _ _).alloc (Nat.le_refl _) _
  by_cases hz : -9223372036854775808 ≤ z ∧ z ≤ 9223372036854775807
  · have e1 : Hid (ansN z = z) := by show _ = _; unfold ansN; exact if_pos hz
    have e2 : Hid (ansE z = 0) := by show _ = _; unfold ansE; exact if_pos hz
    have e3 : Hid (decide (-9223372036854775808 ≤ z ∧ z ≤ 9223372036854775807) = true) := by show _ = _; simp [hz]
    have HZ : Hid (-9223372036854775808 ≤ z ∧ z ≤ 9223372036854775807) := hz
    clear hz
    go_enter Try.func26, Try.ntmps26
    go_wp2_with fail
    refine (intR_any (B := B) s _ z n _ ?_).mono ?_
    · exact hv.below (hb0 _)
    rintro e w1 ⟨x, rfl, hb1, hx⟩
    rw [e3.out, hx HZ.out]
    clear hx
    go_wp2_with fail
    go_ret2
    exact ⟨by rw [e1.out, e2.out]; rfl, (hb0 _).trans (hb1.mono (by simp))⟩
  · have e1 : Hid (ansN z = 0) := by show _ = _; unfold ansN; exact if_neg hz
    have e2 : Hid (ansE z = 10) := by show _ = _; unfold ansE; exact if_neg hz
    have e3 : Hid (decide (-9223372036854775808 ≤ z ∧ z ≤ 9223372036854775807) = false) := by show _ = _; simpa using hz
    clear hz
    go_enter Try.func26, Try.ntmps26
    go_wp2_with fail
    refine (intR_any (B := B) s _ z n _ ?_).mono ?_
    · exact hv.below (hb0 _)
    rintro e w1 ⟨x, rfl, hb1, hx⟩
    rw [e3.out]
    clear hx
    go_wp2_with fail
    go_ret2
    exact ⟨by rw [e1.out, e2.out]; rfl, (hb0 _).trans (hb1.mono (by simp))⟩

end Go.Proofs.Ytkphchldoionjaa
