/-
  Contracts of sum's Sum, valid and Join, and of the reference's Sum.
-/
import Derived.Test.YtcgojnofkbjinaaDoorSumMath
import Derived.Test.YtcgojnofkbjinaaDoorLists
namespace Go.Proofs.YtcgojnofkbjinaaDoor
open Go.ChangeShapes Go.WideShapes Go.ChangeAt Go.RowKit Go.Lib

theorem tot_step (s : ByteArray) {k : Nat} (h : k < s.size) : tot (s.data.toList.drop k) = (s[k]'h).toNat + tot (s.data.toList.drop (k + 1)) := by
  rw [drop_byte s h, tot]
theorem tot_end (s : ByteArray) : tot (s.data.toList.drop s.size) = 0 := by
  rw [size_eq, List.drop_length]
  rfl
set_option maxRecDepth 1000000 in
set_option maxHeartbeats 2000000 in
theorem sum_any (s : ByteArray) (w : World) (hs : s.size ≤ maxLen) :
    Calls Tryd.prog 24 #[.string s] w fun e w' => e = .returned (.int .i64 (sumL s.data.toList : Int)) ∧ w' = w := by
  obtain ⟨S, hS⟩ : ∃ S, sumL s.data.toList = S := ⟨_, rfl⟩
  rw [hS]
  unfold maxLen at hs
  go_enter Tryd.func24, Tryd.ntmps24
  go_wp2_with fail
  go_loopw [3, 7] (fun u i w' => ∃ (k a : Nat), w' = w ∧ u = .int .u8 (a : Int) ∧ i = .int .i64 (k : Int) ∧ k ≤ s.size ∧ a < 256 ∧ (a + tot (s.data.toList.drop k)) % 256 = S) (fun _ i _ => s.size - (RowKit.intOf i).toNat)
  case atStart => exact ⟨0, 0, rfl, rfl, rfl, by omega, by omega, by rw [← hS]; simp [sumL]⟩
  case round =>
    clear hS
    obtain ⟨k, a, rfl, rfl, rfl, hk, ha, hg⟩ := hrel
    by_cases hp : k < s.size
    · have t0 : (k : Int) < (s.size : Int) := by omega
      rw [tot_step s hp] at hg
      obtain ⟨c, hc⟩ : ∃ c, (s[k]'hp).toNat = c := ⟨_, rfl⟩
      have hc8 : c < 256 := by rw [← hc]; exact UInt8.toNat_lt _
      rw [hc] at hg
      have HG : Hid (((a + c) % 256 + tot (s.data.toList.drop (k + 1))) % 256 = S) := by
        show _ = S
        rw [← hg]
        omega
      have HW : Hid (IntKind.u8.wrap ((a : Int) + (c : Int)) = (((a + c) % 256 : Nat) : Int)) := by
        show IntKind.u8.wrap ((a : Int) + (c : Int)) = (((a + c) % 256 : Nat) : Int)
        rw [IntKind.wrap_u8]
        omega
      clear hg
      go_wp2_with fail
      go_roundw
      case rel => exact ⟨k + 1, (a + c) % 256, by first | trivial | rfl, by first | exact congrArg _ HW.out | (simp only [HW.out]), by simp, by omega, Nat.mod_lt _ (by decide), HG.out⟩
      case measure => simp [RowKit.intOf]; omega
    · obtain rfl : k = s.size := by omega
      rw [tot_end, Nat.add_zero, Nat.mod_eq_of_lt ha] at hg
      subst hg
      have t0 : ¬ (s.size : Int) < (s.size : Int) := by omega
      go_wp2_with fail
      go_ret
      exact ⟨rfl, rfl⟩
/-- A number can be a sum. -/
def sumB (n : Int) : Bool := decide (0 ≤ n ∧ n ≤ 255)
theorem sumB_yes {n : Int} (h : 0 ≤ n ∧ n ≤ 255) : sumB n = true := decide_eq_true h
theorem sumB_no {n : Int} (h : ¬ (0 ≤ n ∧ n ≤ 255)) : sumB n = false := decide_eq_false h
set_option maxHeartbeats 1000000 in
theorem valid_any9 (n : Int) (w : World) : Calls Tryd.prog 35 #[.int .i64 n] w fun e w' => e = .returned (.bool (sumB n)) ∧ w' = w := by
  by_cases h1 : 0 ≤ n
  · by_cases h2 : n ≤ 255
    · rw [sumB_yes ⟨h1, h2⟩]
      go_enter Tryd.func35, Tryd.ntmps35
      go_wp2
      go_ret
      exact ⟨rfl, rfl⟩
    · rw [sumB_no (by omega)]
      go_enter Tryd.func35, Tryd.ntmps35
      go_wp2
      go_ret
      exact ⟨rfl, rfl⟩
  · rw [sumB_no (by omega)]
    go_enter Tryd.func35, Tryd.ntmps35
    go_wp2
    go_ret
    exact ⟨rfl, rfl⟩
end Go.Proofs.YtcgojnofkbjinaaDoor
