/-
  Contracts of the reference's Three, Read and ReadLength.
-/
import Derived.Test.YtihcbainolichaaSumForms
import Derived.Test.YtihcbainolichaaRefDigits
namespace Go.Proofs.Ytihcbainolichaa
open Go.ChangeShapes Go.WideShapes Go.ChangeAt Go.RowKit Go.Lib

theorem nn_join (l : List UInt8) : (⟨#[48, 48]⟩ : ByteArray) ++ mk l = mk (48 :: 48 :: l) := by
  apply bytes_ext8
  simp [mk]
set_option maxRecDepth 1000000 in
set_option maxHeartbeats 4000000 in
theorem refThree_any (n : Nat) (w : World) (hn : n < 256) :
    Calls Try.prog 14 #[.int .i64 (n : Int)] w fun e w' => e = .returned (.string (mk (three n))) ∧ Below w.heap.size w w' := by
  have F := fun w => refDigits_any n (by omega) w
  have hj := nn_join (decDigits n)
  have hL : (decDigits n).length = 1 ∨ (decDigits n).length = 2 ∨ (decDigits n).length = 3 := by
    rw [dec_four (by omega)]
    by_cases h1 : n < 10
    · rw [if_pos h1]; exact .inl rfl
    · rw [if_neg h1]
      by_cases h2 : n < 100
      · rw [if_pos h2]; exact .inr (.inl rfl)
      · rw [if_neg h2, if_pos (by omega)]; exact .inr (.inr rfl)
  have hz : (mk (48 :: 48 :: decDigits n)).size = (decDigits n).length + 2 := by rw [mk_size]; rfl
  have hzD : (mk (decDigits n)).size = (decDigits n).length := mk_size _
  have he : (mk (48 :: 48 :: decDigits n)).extract ((decDigits n).length + 2 - 3) (mk (48 :: 48 :: decDigits n)).size = mk (three n) := by
    rw [ext_tail, mk_list, three_dec hn]
  rw [hz] at he
  generalize mk (48 :: 48 :: decDigits n) = S at *
  generalize mk (decDigits n) = D at *
  generalize (decDigits n).length = L at *
  generalize mk (three n) = T at *
  rcases hL with rfl | rfl | rfl
  all_goals
    go_enter Try.func14, Try.ntmps14
    go_wp2_with fail
    refine (F _).mono ?_
    rintro e w1 ⟨rfl, hb⟩
    go_wp2_with fail
    go_ret
    exact ⟨by first | rfl | (rw [← he]), hb⟩
set_option maxRecDepth 1000000 in
set_option maxHeartbeats 4000000 in
theorem refRead_any (s : ByteArray) (w : World) :
    Calls Try.prog 13 #[.string s] w fun e w' => ∃ y : Int, e = .returned (.int .i64 y) ∧ Hid (Found three 0 256 s.data.toList y) ∧ Below w.heap.size w w' := by
  have F := fun n w (h : n < 256) => refThree_any n w h
  go_enter Try.func13, Try.ntmps13
  go_wp2_with fail
  go_loopw [3] (fun i wr => ∃ k : Nat, i = .int .i64 (k : Int) ∧ 0 ≤ k ∧ k ≤ 256 ∧ Hid (∀ n, 0 ≤ n → n < k → three n ≠ s.data.toList) ∧ Below w.heap.size w wr) (fun i _ => 256 - (RowKit.intOf i).toNat)
  case atStart => exact ⟨0, rfl, by omega, by omega, fun n h g => absurd g (by omega), Below.refl _ _⟩
  case round =>
    obtain ⟨k, rfl, hlo, hk, HN, hB⟩ := hrel
    by_cases hp : k < 256
    · have t0 : (k : Int) < 256 := by omega
      have G := fun w => F k w hp
      clear F
      have hge := hB.size
      by_cases h : three k = s.data.toList
      · have HE : Hid (three k = s.data.toList) := h
        have t1 : ((mk (three k)).toList == s.toList) = true := by rw [beq_bytes]; exact decide_eq_true (by rw [h, list_mk])
        clear h
        generalize mk (three k) = T at *
        go_wp2_with fail
        refine (G _).mono ?_
        rintro e w1 ⟨rfl, hb⟩
        go_wp2_with fail
        go_ret
        exact ⟨k, rfl, .inr ⟨k, hlo, hp, HE.out, rfl⟩, hB.trans (hb.mono hge)⟩
      · have t1 : ((mk (three k)).toList == s.toList) = false := by
          rw [beq_bytes]
          exact decide_eq_false (fun e => h (by rw [← e, mk_list]))
        have HN2 : Hid (∀ n, 0 ≤ n → n < k + 1 → three n ≠ s.data.toList) := fun n h1 h2 => if e : n = k then by rw [e]; exact h else HN.out n h1 (by omega)
        clear h HN
        generalize mk (three k) = T at *
        go_wp2_with fail
        refine (G _).mono ?_
        rintro e w1 ⟨rfl, hb⟩
        go_wp2_with fail
        go_roundw
        case rel => exact ⟨k + 1, by simp, by omega, by omega, HN2, hB.trans (hb.mono hge)⟩
        case measure => simp [RowKit.intOf]; omega
    · obtain rfl : k = 256 := by omega
      go_wp2_with fail
      go_ret
      exact ⟨-1, rfl, .inl ⟨rfl, fun n h1 h2 => HN.out n h1 h2⟩, hB⟩
set_option maxRecDepth 1000000 in
set_option maxHeartbeats 4000000 in
theorem refReadLength_long (s : ByteArray) (w : World) (hs : 4 < s.size) :
    Calls Try.prog 17 #[.string s] w fun e w' => ∃ y : Int, e = .returned (.int .i64 y) ∧ Hid (Found decDigits 1 4097 s.data.toList y) ∧ Below w.heap.size w w' := by
  have HN : Hid (∀ n, 1 ≤ n → n < 4097 → decDigits n ≠ s.data.toList) := fun n _ h2 e => by
    have := dec_len (n := n) (by omega)
    rw [e, ← size_eq] at this
    omega
  have t : (4 : Int) < (s.size : Int) := by omega
  go_enter Try.func17, Try.ntmps17
  go_wp2_with fail
  go_ret
  exact ⟨-1, rfl, .inl ⟨rfl, HN.out⟩, Below.refl _ _⟩
set_option maxRecDepth 1000000 in
set_option maxHeartbeats 4000000 in
theorem refReadLength_short (s : ByteArray) (w : World) (hs : s.size ≤ 4) :
    Calls Try.prog 17 #[.string s] w fun e w' => ∃ y : Int, e = .returned (.int .i64 y) ∧ Hid (Found decDigits 1 4097 s.data.toList y) ∧ Below w.heap.size w w' := by
  have F := fun n w (_ : 1 ≤ n) (h : n ≤ 4096) => refDigits_any n (by omega) w
  have t : ¬ (4 : Int) < (s.size : Int) := by omega
  go_enter Try.func17, Try.ntmps17
  go_wp2_with fail
  go_loopw [3] (fun i wr => ∃ k : Nat, i = .int .i64 (k : Int) ∧ 1 ≤ k ∧ k ≤ 4097 ∧ Hid (∀ n, 1 ≤ n → n < k → decDigits n ≠ s.data.toList) ∧ Below w.heap.size w wr) (fun i _ => 4097 - (RowKit.intOf i).toNat)
  case atStart => exact ⟨1, rfl, by omega, by omega, fun n h g => absurd g (by omega), Below.refl _ _⟩
  case round =>
    obtain ⟨k, rfl, hlo, hk, HN, hB⟩ := hrel
    by_cases hp : k < 4097
    · have t0 : (k : Int) ≤ 4096 := by omega
      have G := fun w => F k w hlo (by omega)
      clear F
      have hge := hB.size
      by_cases h : decDigits k = s.data.toList
      · have HE : Hid (decDigits k = s.data.toList) := h
        have t1 : ((mk (decDigits k)).toList == s.toList) = true := by rw [beq_bytes]; exact decide_eq_true (by rw [h, list_mk])
        clear h
        generalize mk (decDigits k) = T at *
        go_wp2_with fail
        refine (G _).mono ?_
        rintro e w1 ⟨rfl, hb⟩
        go_wp2_with fail
        go_ret
        exact ⟨k, rfl, .inr ⟨k, hlo, hp, HE.out, rfl⟩, hB.trans (hb.mono hge)⟩
      · have t1 : ((mk (decDigits k)).toList == s.toList) = false := by
          rw [beq_bytes]
          exact decide_eq_false (fun e => h (by rw [← e, mk_list]))
        have HN2 : Hid (∀ n, 1 ≤ n → n < k + 1 → decDigits n ≠ s.data.toList) := fun n h1 h2 => if e : n = k then by rw [e]; exact h else HN.out n h1 (by omega)
        clear h HN
        generalize mk (decDigits k) = T at *
        go_wp2_with fail
        refine (G _).mono ?_
        rintro e w1 ⟨rfl, hb⟩
        go_wp2_with fail
        go_roundw
        case rel => exact ⟨k + 1, by simp, by omega, by omega, HN2, hB.trans (hb.mono hge)⟩
        case measure => simp [RowKit.intOf]; omega
    · obtain rfl : k = 4097 := by omega
      go_wp2_with fail
      go_ret
      exact ⟨-1, rfl, .inl ⟨rfl, fun n h1 h2 => HN.out n h1 h2⟩, hB⟩
theorem refReadLength_any (s : ByteArray) (w : World) :
    Calls Try.prog 17 #[.string s] w fun e w' => ∃ y : Int, e = .returned (.int .i64 y) ∧ Hid (Found decDigits 1 4097 s.data.toList y) ∧ Below w.heap.size w w' := by
  by_cases h : 4 < s.size
  · exact refReadLength_long s w h
  · exact refReadLength_short s w (by omega)
end Go.Proofs.Ytihcbainolichaa
