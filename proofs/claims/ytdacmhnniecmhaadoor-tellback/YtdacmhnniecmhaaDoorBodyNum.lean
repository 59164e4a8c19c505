/-
  The contract of body's Number.
-/
import Derived.Test.YtdacmhnniecmhaaDoorBodyMath
import Derived.Test.YtdacmhnniecmhaaDoorLists
import Derived.Test.YtdacmhnniecmhaaDoorOrder
namespace Go.Proofs.YtdacmhnniecmhaaDoor
open Go.ChangeShapes Go.WideShapes Go.ChangeAt Go.RowKit Go.Lib

theorem head_byte (s : ByteArray) (h0 : 0 < s.size) (d : UInt8) : s.data.toList.getD 0 d = s[0]'h0 := by
  have := drop_byte s h0
  rw [List.drop_zero] at this
  rw [this]
  rfl
theorem no_bytes {s : ByteArray} (h : s.size = 0) : s = ⟨#[]⟩ := by
  apply bytes_ext8
  rw [size_eq] at h
  rw [List.eq_nil_of_length_eq_zero h]
theorem some_bytes {s : ByteArray} (h : ¬ s.size = 0) : s.toList.isEmpty = false := by
  rw [empty_bytes]
  exact decide_eq_false (fun e => h (by rw [e]; rfl))
set_option maxRecDepth 1000000 in
set_option maxHeartbeats 4000000 in
theorem number_good (s : ByteArray) (w : World) (hs : s.size ≤ maxLen) (h0 : 0 < s.size) (hh : ¬ ((s[0]'h0).toNat = 48 ∧ 1 < s.size)) :
    Calls Tryd.prog 69 #[.string s] w fun e w' => e = .returned (.tuple #[.int .i64 ((readA 9223372036854775807 s.data.toList 0).1 : Int), .int .i64 ((readA 9223372036854775807 s.data.toList 0).2 : Int)]) ∧ w' = w := by
  obtain ⟨N, e0, hR⟩ : ∃ N e0, readA 9223372036854775807 s.data.toList 0 = (N, e0) := ⟨_, _, rfl⟩
  rw [hR]
  dsimp only
  unfold maxLen at hs
  have z0 := some_bytes (s := s) (by omega)
  obtain ⟨c0, hc0⟩ : ∃ c, (s[0]'h0).toNat = c := ⟨_, rfl⟩
  have z1 : (0 : Int) < (s.size : Int) := by omega
  rw [hc0] at hh
  have F : Calls Tryd.prog 69 #[.string s] w fun e w' => e = .returned (.tuple #[.int .i64 (N : Int), .int .i64 (e0 : Int)]) ∧ w' = w := by
    have hz : (((c0 : Int) == 48) && decide ((1 : Int) < (s.size : Int))) = false := by
      by_cases g : c0 = 48
      · have : ¬ 1 < s.size := fun k => hh ⟨g, k⟩
        rw [decide_eq_false (by omega), Bool.and_false]
      · rw [beq_false_of_ne (by omega), Bool.false_and]
    clear hh
    by_cases g : c0 = 48
    · have q0 : ((c0 : Int) == 48) = true := by simp; omega
      have q1 : ¬ (1 : Int) < (s.size : Int) := by
        rw [q0, Bool.true_and] at hz
        exact of_decide_eq_false hz
      clear hz g
      go_enter Tryd.func69, Tryd.ntmps69
      go_wp2_with fail
      go_loopw [4, 22] (fun u i w' => ∃ (k num : Nat), w' = w ∧ u = .int .i64 (num : Int) ∧ i = .int .i64 (k : Int) ∧ k ≤ s.size ∧ num ≤ 9223372036854775807 ∧ readA 9223372036854775807 (s.data.toList.drop k) num = (N, e0)) (fun _ i _ => s.size - (RowKit.intOf i).toNat)
      case atStart => exact ⟨0, 0, rfl, rfl, rfl, by omega, by omega, by simpa using hR⟩
      case round =>
        clear hR hc0 q0 z0 z1
        obtain ⟨k, num, rfl, rfl, rfl, hk, hn, hg⟩ := hrel
        by_cases hp : k < s.size
        · have t0 : (k : Int) < (s.size : Int) := by omega
          rw [drop_byte s hp, readA] at hg
          obtain ⟨c, hc⟩ : ∃ c, (s[k]'hp).toNat = c := ⟨_, rfl⟩
          have hc8 : c < 256 := by rw [← hc]; exact UInt8.toNat_lt _
          rw [hc] at hg
          by_cases c1 : (c : Int) < 48
          · have HG : Hid (N = 0 ∧ e0 = 112) := by
              rw [if_pos (by omega)] at hg
              simp only [Prod.mk.injEq] at hg
              exact ⟨hg.1.symm, hg.2.symm⟩
            clear hg
            go_wp2_with fail
            go_ret2
            exact ⟨by rw [HG.out.1, HG.out.2]; rfl, rfl⟩
          by_cases c2 : (57 : Int) < (c : Int)
          · have HG : Hid (N = 0 ∧ e0 = 112) := by
              rw [if_pos (by omega)] at hg
              simp only [Prod.mk.injEq] at hg
              exact ⟨hg.1.symm, hg.2.symm⟩
            clear hg
            go_wp2_with fail
            go_ret2
            exact ⟨by rw [HG.out.1, HG.out.2]; rfl, rfl⟩
          rw [if_neg (by omega)] at hg
          obtain ⟨d, hd⟩ : ∃ d, c - 48 = d := ⟨_, rfl⟩
          rw [hd] at hg
          obtain rfl : c = d + 48 := by omega
          have d9 : d ≤ 9 := by omega
          have r1 : ((d + 48 : Nat) : Int) - 48 = (d : Int) := by omega
          obtain ⟨m, hm⟩ : ∃ m : Nat, (9223372036854775807 - d) / 10 = m := ⟨_, rfl⟩
          have r2 : (9223372036854775807 - (d : Int)) / 10 = (m : Int) := by omega
          have r3 : (9223372036854775807 - (d : Int)).tdiv 10 = (m : Int) := by rw [Int.tdiv_eq_ediv_of_nonneg (by omega)]; exact r2
          by_cases c3 : 9223372036854775807 < 10 * num + d
          · have t3 : (m : Int) < (num : Int) := by omega
            have HG : Hid (N = 0 ∧ e0 = 112) := by
              rw [if_pos c3] at hg
              simp only [Prod.mk.injEq] at hg
              exact ⟨hg.1.symm, hg.2.symm⟩
            clear hg hm
            go_wp2_with fail
            go_ret2
            exact ⟨by rw [HG.out.1, HG.out.2]; rfl, rfl⟩
          · have t3 : ¬ (m : Int) < (num : Int) := by omega
            rw [if_neg c3] at hg
            have HG : Hid (readA 9223372036854775807 (s.data.toList.drop (k + 1)) (10 * num + d) = (N, e0)) := hg
            clear hg hm
            go_wp2_with fail
            go_roundw
            case rel => exact ⟨k + 1, 10 * num + d, by first | trivial | rfl, by simp, by simp, by omega, by omega, HG.out⟩
            case measure => simp [RowKit.intOf]; omega
        · obtain rfl : k = s.size := by omega
          have HG : Hid (N = num ∧ e0 = 0) := by
            rw [size_eq, List.drop_length, readA, Prod.mk.injEq] at hg
            exact ⟨hg.1.symm, hg.2.symm⟩
          clear hg
          have t0 : ¬ (s.size : Int) < (s.size : Int) := by omega
          go_wp2_with fail
          go_ret2
          exact ⟨by rw [HG.out.1, HG.out.2]; rfl, rfl⟩
    · have q0 : ((c0 : Int) == 48) = false := beq_false_of_ne (by omega)
      clear hz g
      go_enter Tryd.func69, Tryd.ntmps69
      go_wp2_with fail
      go_loopw [4, 22] (fun u i w' => ∃ (k num : Nat), w' = w ∧ u = .int .i64 (num : Int) ∧ i = .int .i64 (k : Int) ∧ k ≤ s.size ∧ num ≤ 9223372036854775807 ∧ readA 9223372036854775807 (s.data.toList.drop k) num = (N, e0)) (fun _ i _ => s.size - (RowKit.intOf i).toNat)
      case atStart => exact ⟨0, 0, rfl, rfl, rfl, by omega, by omega, by simpa using hR⟩
      case round =>
        clear hR hc0 q0 z0 z1
        obtain ⟨k, num, rfl, rfl, rfl, hk, hn, hg⟩ := hrel
        by_cases hp : k < s.size
        · have t0 : (k : Int) < (s.size : Int) := by omega
          rw [drop_byte s hp, readA] at hg
          obtain ⟨c, hc⟩ : ∃ c, (s[k]'hp).toNat = c := ⟨_, rfl⟩
          have hc8 : c < 256 := by rw [← hc]; exact UInt8.toNat_lt _
          rw [hc] at hg
          by_cases c1 : (c : Int) < 48
          · have HG : Hid (N = 0 ∧ e0 = 112) := by
              rw [if_pos (by omega)] at hg
              simp only [Prod.mk.injEq] at hg
              exact ⟨hg.1.symm, hg.2.symm⟩
            clear hg
            go_wp2_with fail
            go_ret2
            exact ⟨by rw [HG.out.1, HG.out.2]; rfl, rfl⟩
          by_cases c2 : (57 : Int) < (c : Int)
          · have HG : Hid (N = 0 ∧ e0 = 112) := by
              rw [if_pos (by omega)] at hg
              simp only [Prod.mk.injEq] at hg
              exact ⟨hg.1.symm, hg.2.symm⟩
            clear hg
            go_wp2_with fail
            go_ret2
            exact ⟨by rw [HG.out.1, HG.out.2]; rfl, rfl⟩
          rw [if_neg (by omega)] at hg
          obtain ⟨d, hd⟩ : ∃ d, c - 48 = d := ⟨_, rfl⟩
          rw [hd] at hg
          obtain rfl : c = d + 48 := by omega
          have d9 : d ≤ 9 := by omega
          have r1 : ((d + 48 : Nat) : Int) - 48 = (d : Int) := by omega
          obtain ⟨m, hm⟩ : ∃ m : Nat, (9223372036854775807 - d) / 10 = m := ⟨_, rfl⟩
          have r2 : (9223372036854775807 - (d : Int)) / 10 = (m : Int) := by omega
          have r3 : (9223372036854775807 - (d : Int)).tdiv 10 = (m : Int) := by rw [Int.tdiv_eq_ediv_of_nonneg (by omega)]; exact r2
          by_cases c3 : 9223372036854775807 < 10 * num + d
          · have t3 : (m : Int) < (num : Int) := by omega
            have HG : Hid (N = 0 ∧ e0 = 112) := by
              rw [if_pos c3] at hg
              simp only [Prod.mk.injEq] at hg
              exact ⟨hg.1.symm, hg.2.symm⟩
            clear hg hm
            go_wp2_with fail
            go_ret2
            exact ⟨by rw [HG.out.1, HG.out.2]; rfl, rfl⟩
          · have t3 : ¬ (m : Int) < (num : Int) := by omega
            rw [if_neg c3] at hg
            have HG : Hid (readA 9223372036854775807 (s.data.toList.drop (k + 1)) (10 * num + d) = (N, e0)) := hg
            clear hg hm
            go_wp2_with fail
            go_roundw
            case rel => exact ⟨k + 1, 10 * num + d, by first | trivial | rfl, by simp, by simp, by omega, by omega, HG.out⟩
            case measure => simp [RowKit.intOf]; omega
        · obtain rfl : k = s.size := by omega
          have HG : Hid (N = num ∧ e0 = 0) := by
            rw [size_eq, List.drop_length, readA, Prod.mk.injEq] at hg
            exact ⟨hg.1.symm, hg.2.symm⟩
          clear hg
          have t0 : ¬ (s.size : Int) < (s.size : Int) := by omega
          go_wp2_with fail
          go_ret2
          exact ⟨by rw [HG.out.1, HG.out.2]; rfl, rfl⟩
  exact F
set_option maxHeartbeats 2000000 in
theorem number_bad (s : ByteArray) (w : World) (hs : s.size ≤ maxLen) (hh : s.size = 0 ∨ (∃ h0 : 0 < s.size, (s[0]'h0).toNat = 48 ∧ 1 < s.size)) :
    Calls Tryd.prog 69 #[.string s] w fun e w' => e = .returned (.tuple #[.int .i64 0, .int .i64 112]) ∧ w' = w := by
  rcases hh with h | ⟨h0, hc, h1⟩
  · have e := no_bytes h
    subst e
    clear h hs
    go_enter Tryd.func69, Tryd.ntmps69
    go_wp2_with fail
    go_ret2
    exact ⟨rfl, rfl⟩
  · have z0 := some_bytes (s := s) (by omega)
    have z1 : (0 : Int) < (s.size : Int) := by omega
    have z2 : (1 : Int) < (s.size : Int) := by omega
    go_enter Tryd.func69, Tryd.ntmps69
    go_wp2_with fail
    go_ret2
    exact ⟨rfl, rfl⟩
/-- Number of any text. -/
theorem number_any (s : ByteArray) (w : World) (hs : s.size ≤ maxLen) :
    Calls Tryd.prog 69 #[.string s] w fun e w' => e = .returned (.tuple #[.int .i64 ((numE s.data.toList).1 : Int), .int .i64 ((numE s.data.toList).2 : Int)]) ∧ w' = w := by
  by_cases h0 : 0 < s.size
  · by_cases hh : (s[0]'h0).toNat = 48 ∧ 1 < s.size
    · have e : numE s.data.toList = (0, 112) := by
        unfold numE
        rw [if_pos (.inr ⟨by rw [head_byte s h0]; exact UInt8.toNat_inj.1 hh.1, by rw [← size_eq]; exact hh.2⟩)]
      rw [e]
      exact number_bad s w hs (.inr ⟨h0, hh⟩)
    · have e : numE s.data.toList = readA 9223372036854775807 s.data.toList 0 := by
        unfold numE
        rw [if_neg]
        rintro (g | ⟨g1, g2⟩)
        · rw [size_eq, g] at h0
          simp at h0
        · rw [head_byte s h0] at g1
          exact hh ⟨by rw [g1]; rfl, by rw [size_eq]; exact g2⟩
      rw [e]
      exact number_good s w hs h0 hh
  · have e : numE s.data.toList = (0, 112) := by
      have := no_bytes (s := s) (by omega)
      rw [this]
      rfl
    rw [e]
    exact number_bad s w hs (.inl (by omega))
end Go.Proofs.YtdacmhnniecmhaaDoor
