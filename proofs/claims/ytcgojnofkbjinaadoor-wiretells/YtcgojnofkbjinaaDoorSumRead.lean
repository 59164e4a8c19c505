/-
  Contracts of sum's read, Read and ReadLength.
-/
import Derived.Test.YtcgojnofkbjinaaDoorSumAdd
import Derived.Test.YtcgojnofkbjinaaDoorOrder
namespace Go.Proofs.YtcgojnofkbjinaaDoor
open Go.ChangeShapes Go.WideShapes Go.ChangeAt Go.RowKit Go.Lib

set_option maxRecDepth 1000000 in
set_option maxHeartbeats 2000000 in
theorem read_any (s : ByteArray) (most : Nat) (w : World) (hs : s.size ≤ maxLen) (hm : most ≤ 4096) :
    Calls Tryd.prog 40 #[.string s, .int .i64 (most : Int)] w fun e w' => e = .returned (.tuple #[.int .i64 ((readA most s.data.toList 0).1 : Int), .int .i64 ((readA most s.data.toList 0).2 : Int)]) ∧ w' = w := by
  obtain ⟨N, e0, hR⟩ : ∃ N e0, readA most s.data.toList 0 = (N, e0) := ⟨_, _, rfl⟩
  rw [hR]
  dsimp only
  unfold maxLen at hs
  go_enter Tryd.func40, Tryd.ntmps40
  go_wp2_with fail
  go_loopw [6, 11] (fun u i w' => ∃ (k num : Nat), w' = w ∧ u = .int .i64 (num : Int) ∧ i = .int .i64 (k : Int) ∧ k ≤ s.size ∧ num ≤ most ∧ readA most (s.data.toList.drop k) num = (N, e0)) (fun _ i _ => s.size - (RowKit.intOf i).toNat)
  case atStart => exact ⟨0, 0, rfl, rfl, rfl, by omega, by omega, by simpa using hR⟩
  case round =>
    clear hR
    obtain ⟨k, num, rfl, rfl, rfl, hk, hn, hg⟩ := hrel
    by_cases hp : k < s.size
    · have t0 : (k : Int) < (s.size : Int) := by omega
      rw [drop_byte s hp, readA] at hg
      obtain ⟨c, hc⟩ : ∃ c, (s[k]'hp).toNat = c := ⟨_, rfl⟩
      have hc8 : c < 256 := by rw [← hc]; exact UInt8.toNat_lt _
      rw [hc] at hg
      by_cases c1 : (c : Int) < 48
      · have HG : Hid (N = 0 ∧ e0 = 112) := by
          rw [if_pos (by omega)] at hg
          simp only [Prod.mk.injEq] at hg
          exact ⟨hg.1.symm, hg.2.symm⟩
        clear hg
        go_wp2_with fail
        go_ret2
        exact ⟨by rw [HG.out.1, HG.out.2]; rfl, rfl⟩
      by_cases c2 : (57 : Int) < (c : Int)
      · have HG : Hid (N = 0 ∧ e0 = 112) := by
          rw [if_pos (by omega)] at hg
          simp only [Prod.mk.injEq] at hg
          exact ⟨hg.1.symm, hg.2.symm⟩
        clear hg
        go_wp2_with fail
        go_ret2
        exact ⟨by rw [HG.out.1, HG.out.2]; rfl, rfl⟩
      rw [if_neg (by omega)] at hg
      obtain ⟨d, hd⟩ : ∃ d, c - 48 = d := ⟨_, rfl⟩
      rw [hd] at hg
      obtain rfl : c = d + 48 := by omega
      have d9 : d ≤ 9 := by omega
      have r1 : ((d + 48 : Nat) : Int) - 48 = (d : Int) := by omega
      by_cases c3 : most < 10 * num + d
      · have t3 : (most : Int) < 10 * (num : Int) + (d : Int) := by omega
        have HG : Hid (N = 0 ∧ e0 = 112) := by
          rw [if_pos c3] at hg
          simp only [Prod.mk.injEq] at hg
          exact ⟨hg.1.symm, hg.2.symm⟩
        clear hg
        go_wp2_with fail
        go_ret2
        exact ⟨by rw [HG.out.1, HG.out.2]; rfl, rfl⟩
      · have t3 : ¬ (most : Int) < 10 * (num : Int) + (d : Int) := by omega
        rw [if_neg c3] at hg
        have HG : Hid (readA most (s.data.toList.drop (k + 1)) (10 * num + d) = (N, e0)) := hg
        clear hg
        go_wp2_with fail
        go_roundw
        case rel => exact ⟨k + 1, 10 * num + d, by first | trivial | rfl, by simp, by simp, by omega, by omega, HG.out⟩
        case measure => simp [RowKit.intOf]; omega
    · obtain rfl : k = s.size := by omega
      have HG : Hid (N = num ∧ e0 = 0) := by
        rw [size_eq, List.drop_length, readA, Prod.mk.injEq] at hg
        exact ⟨hg.1.symm, hg.2.symm⟩
      clear hg
      have t0 : ¬ (s.size : Int) < (s.size : Int) := by omega
      go_wp2_with fail
      go_ret2
      exact ⟨by rw [HG.out.1, HG.out.2]; rfl, rfl⟩
set_option maxHeartbeats 1000000 in
theorem readLength_any (s : ByteArray) (w : World) (hs : s.size ≤ maxLen) :
    Calls Tryd.prog 36 #[.string s] w fun e w' => e = .returned (.tuple #[.int .i64 ((lengthE s.data.toList).1 : Int), .int .i64 ((lengthE s.data.toList).2 : Int)]) ∧ w' = w := by
  have F := fun w => read_any s 4096 w hs (by omega)
  unfold lengthE
  by_cases h : s.size = 0
  · have e : s = ⟨#[]⟩ := by
      apply bytes_ext8
      rw [size_eq] at h
      rw [List.eq_nil_of_length_eq_zero h]
    subst e
    have e1 : (if ((⟨#[]⟩ : ByteArray)).data.toList.getD 0 48 = 48 then (0, 112) else readA 4096 ((⟨#[]⟩ : ByteArray)).data.toList 0) = (0, 112) := rfl
    rw [e1]
    clear F h hs e1
    go_enter Tryd.func36, Tryd.ntmps36
    go_wp2_with fail
    go_ret2
    exact ⟨rfl, rfl⟩
  · have h0 : 0 < s.size := by omega
    have t0 : s.toList.isEmpty = false := by
      rw [empty_bytes]
      exact decide_eq_false (fun e => h (by rw [e]; rfl))
    have t1 : (0 : Int) < (s.size : Int) := by omega
    have e0 : s.data.toList.getD 0 48 = s[0]'h0 := by
      have := drop_byte s h0
      rw [List.drop_zero] at this
      rw [this]
      rfl
    rw [e0]
    obtain ⟨c, hc⟩ : ∃ c, (s[0]'h0).toNat = c := ⟨_, rfl⟩
    by_cases c0 : c = 48
    · subst c0
      rw [if_pos (UInt8.toNat_inj.1 hc)]
      clear F e0
      go_enter Tryd.func36, Tryd.ntmps36
      go_wp2_with fail
      go_ret2
      exact ⟨rfl, rfl⟩
    · rw [if_neg (fun e => c0 (by rw [← hc, e]; rfl))]
      have t2 : ((c : Int) == 48) = false := beq_false_of_ne (by omega)
      clear e0
      generalize readA 4096 s.data.toList 0 = p at *
      go_enter Tryd.func36, Tryd.ntmps36
      go_wp2_with fail
      refine (F _).mono ?_
      rintro e w1 ⟨rfl, rfl⟩
      go_wp2_with fail
      go_ret2
      exact ⟨rfl, rfl⟩
end Go.Proofs.YtcgojnofkbjinaaDoor
