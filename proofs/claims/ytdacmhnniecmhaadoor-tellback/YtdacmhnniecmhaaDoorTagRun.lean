/-
  Contracts of tag's barred, run, readTag, readValue and Next: how far a value goes, which tag stands at the beginning of a text, which field.
-/
import Derived.Test.YtdacmhnniecmhaaDoorTagLib
import Derived.Test.YtdacmhnniecmhaaDoorBytes
import Derived.WalkMore
namespace Go.Proofs.YtdacmhnniecmhaaDoor
open Go.ChangeShapes Go.WideShapes Go.ChangeAt Go.RowKit Go.Lib

set_option maxHeartbeats 1000000 in
theorem barred_any (c : Nat) (w : World) :
    Calls Tryd.prog 81 #[.int .i32 (c : Int)] w fun e w' => e = .returned (.bool (!mayB c)) ∧ w' = w := by
  by_cases h1 : (c : Int) < 32
  · go_enter Tryd.func81, Tryd.ntmps81
    go_wp2
    go_ret
    exact ⟨by rw [mayB, decide_eq_false (by omega)]; rfl, rfl⟩
  by_cases h2 : c = 127
  · subst h2
    go_enter Tryd.func81, Tryd.ntmps81
    go_wp2
    go_ret
    exact ⟨rfl, rfl⟩
  by_cases h4 : c = 65533
  · subst h4
    go_enter Tryd.func81, Tryd.ntmps81
    go_wp2
    go_ret
    exact ⟨rfl, rfl⟩
  have k2 : ((c : Int) == 127) = false := beq_false_of_ne (by omega)
  have k4 : ((c : Int) == 65533) = false := beq_false_of_ne (by omega)
  go_enter Tryd.func81, Tryd.ntmps81
  go_wp2
  go_ret
  exact ⟨by rw [mayB, decide_eq_true (by omega)]; rfl, rfl⟩

theorem width_four (s : ByteArray) (pos : Nat) : (Utf8.decode s pos).2 ≤ 4 := by
  rw [decode_N]
  rcases decodeN_shape (s.data.toList.length - pos) (s.data.toList.getD pos 0).toNat (s.data.toList.getD (pos + 1) 0).toNat (s.data.toList.getD (pos + 2) 0).toNat (s.data.toList.getD (pos + 3) 0).toNat with ⟨c, e⟩ | ⟨c1, c2, c3, cv, e⟩ | ⟨c1, c2, c3, c4, cv, cs, e⟩ | ⟨c1, c2, c3, c4, c5, cv, cw, e⟩ | e
  all_goals (rw [e]; dsimp only; omega)
theorem run_end {l : List UInt8} {pos : Nat} (hp : pos ≤ 512) (h : mayB (decodeL (l.drop pos)).1 = true → 512 < pos + (decodeL (l.drop pos)).2) : runM (512 - pos) (l.drop pos) = 0 := by
  by_cases e : l.drop pos = []
  · rw [e, runM_nil]
  · rw [runM_step _ e, if_neg]
    rintro ⟨a, b⟩
    have := h a
    omega
theorem run_on {l : List UInt8} {pos : Nat} (hne : pos < l.length) (h : mayB (decodeL (l.drop pos)).1 = true) (hp : pos + (decodeL (l.drop pos)).2 ≤ 512) :
    pos + runM (512 - pos) (l.drop pos) = pos + (decodeL (l.drop pos)).2 + runM (512 - (pos + (decodeL (l.drop pos)).2)) (l.drop (pos + (decodeL (l.drop pos)).2)) := by
  have e : l.drop pos ≠ [] := by
    intro e
    have := congrArg List.length e
    rw [List.length_drop, List.length_nil] at this
    omega
  rw [runM_step _ e, if_pos ⟨h, by omega⟩, List.drop_drop, Nat.sub_sub]
  omega
set_option maxRecDepth 1000000 in
set_option maxHeartbeats 2000000 in
theorem run_any (s : ByteArray) (w : World) :
    Calls Tryd.prog 60 #[.string s] w fun e w' => e = .returned (.int .i64 (runM 512 s.data.toList : Int)) ∧ Below w.heap.size w w' := by
  have B : ∀ pos, Below w.heap.size w (w.iter s pos) := fun pos => (Below.refl _ w).alloc (Nat.le_refl _) _
  obtain ⟨M, hM⟩ : ∃ M, runM 512 s.data.toList = M := ⟨_, rfl⟩
  rw [hM]
  go_enter Tryd.func60, Tryd.ntmps60
  go_wp2_with fail
  go_step3
  go_wp2_with fail
  go_step3
  go_wp2_with fail
  go_loopw [3] (fun n w' => ∃ (pos : Nat), w' = w.iter s pos ∧ n = .int .i64 (pos : Int) ∧ pos ≤ 512 ∧ pos + runM (512 - pos) (s.data.toList.drop pos) = M) (fun _ w' => s.size - w'.iterPos w.heap.size)
  case atStart => exact ⟨0, rfl, rfl, by omega, by simpa using hM⟩
  case round =>
    clear hM
    obtain ⟨pos, rfl, rfl, hk, hg⟩ := hrel
    by_cases hp : pos < s.size
    · have hnx : ∀ ty, (Instr.next (.pointer (some ⟨w.heap.size, 0, none⟩)) true ty).run Tryd.prog (w.iter s pos) = _ := fun ty => run_next_any w s pos ty hp
      have hd := decodeL_drop s pos
      have hw := width_pos s pos
      have hle := Go.decode_le s pos
      have HG : Hid (pos + runM (512 - pos) (s.data.toList.drop pos) = M) := hg
      have HD : Hid (decodeL (s.data.toList.drop pos) = Utf8.decode s pos) := hd
      clear hg hd
      have F := barred_any (Utf8.decode s pos).1
      have G := runeLen_any ((Utf8.decode s pos).1 : Int)
      cases hc : mayB (Utf8.decode s pos).1
      · rw [hc, Bool.not_false] at F
        have HE : Hid (M = pos) := by
          have := run_end (l := s.data.toList) (pos := pos) hk (by rw [HD.out, hc]; intro e; cases e)
          show M = pos
          rw [← HG.out, this]
          rfl
        obtain ⟨q, hq⟩ : ∃ q, runeLen ((Utf8.decode s pos).1 : Int) = q := ⟨_, rfl⟩
        rw [hq] at G
        have hq' : -1 ≤ q ∧ q ≤ 4 := by rw [← hq]; unfold runeLen; repeat' split <;> omega
        clear hq
        generalize (Utf8.decode s pos).1 = c at *
        go_wp2_with fail
        refine (G _).mono ?_
        rintro e w1 ⟨rfl, rfl⟩
        go_wp2_with fail
        refine (F _).mono ?_
        rintro e w1 ⟨rfl, rfl⟩
        go_wp2_with fail
        try rw [Exit.noGoto_ret]
        go_ret
        exact ⟨by rw [HE.out]; rfl, B _⟩
      · rw [hc, Bool.not_true] at F
        have hq : runeLen ((Utf8.decode s pos).1 : Int) = ((Utf8.decode s pos).2 : Int) := by
          have := runeLen_decode (s.data.toList.drop pos) (by rw [HD.out]; exact may_right hc)
          rw [HD.out] at this
          exact this
        rw [hq] at G
        clear hq
        obtain ⟨wd, hwd⟩ : ∃ wd, (Utf8.decode s pos).2 = wd := ⟨_, rfl⟩
        have h4 : wd ≤ 4 := by rw [← hwd]; exact width_four s pos
        by_cases hlt : 512 < pos + wd
        · have t : (512 : Int) < (pos : Int) + (wd : Int) := by omega
          have HE : Hid (M = pos) := by
            have := run_end (l := s.data.toList) (pos := pos) hk (by rw [HD.out, hwd]; intro _; exact hlt)
            show M = pos
            rw [← HG.out, this]
            rfl
          rw [hwd] at G hw
          generalize (Utf8.decode s pos).1 = c at *
          go_wp2_with fail
          refine (G _).mono ?_
          rintro e w1 ⟨rfl, rfl⟩
          go_wp2_with fail
          refine (F _).mono ?_
          rintro e w1 ⟨rfl, rfl⟩
          go_wp2_with fail
          try rw [Exit.noGoto_ret]
          go_ret
          exact ⟨by rw [HE.out]; rfl, B _⟩
        · have t : ¬ (512 : Int) < (pos : Int) + (wd : Int) := by omega
          have HE : Hid (pos + wd + runM (512 - (pos + wd)) (s.data.toList.drop (pos + wd)) = M) := by
            have := run_on (l := s.data.toList) (pos := pos) (by rw [← size_eq]; exact hp) (by rw [HD.out]; exact hc) (by rw [HD.out, hwd]; omega)
            rw [HD.out, hwd] at this
            show _ = M
            rw [← HG.out, this]
          rw [hwd] at G hw hnx
          have HW : Hid ((Utf8.decode s pos).2 = wd) := hwd
          clear hwd
          generalize (Utf8.decode s pos).1 = c at *
          go_wp2_with fail
          refine (G _).mono ?_
          rintro e w1 ⟨rfl, rfl⟩
          go_wp2_with fail
          refine (F _).mono ?_
          rintro e w1 ⟨rfl, rfl⟩
          go_wp2_with fail
          go_roundw
          case rel => exact ⟨pos + wd, rfl, by simp, by omega, HE.out⟩
          case measure => simp; omega
    · have hnx : ∀ ty, (Instr.next (.pointer (some ⟨w.heap.size, 0, none⟩)) true ty).run Tryd.prog (w.iter s pos) = _ := fun ty => run_next_end w s pos ty hp
      have he : s.data.toList.drop pos = [] := List.drop_eq_nil_of_le (by rw [← size_eq]; omega)
      rw [he, runM_nil] at hg
      have HG : Hid (M = pos) := hg.symm
      clear hg he
      go_wp2_with fail
      rw [Exit.noGoto_ret]
      go_ret
      exact ⟨by rw [HG.out]; rfl, B _⟩

set_option maxRecDepth 1000000 in
set_option maxHeartbeats 2000000 in
theorem readTag_any (s : ByteArray) (w : World) (hs : s.size ≤ maxLen) :
    Calls Tryd.prog 84 #[.string s] w fun e w' => e = .returned (.tuple #[.int .i64 ((tagR s.data.toList 0 0).1 : Int), .int .i64 ((tagR s.data.toList 0 0).2.1 : Int), .int .i64 ((tagR s.data.toList 0 0).2.2 : Int)]) ∧ w' = w := by
  obtain ⟨N, b, e0, hR⟩ : ∃ N b e0, tagR s.data.toList 0 0 = (N, b, e0) := ⟨_, _, _, rfl⟩
  rw [hR]
  dsimp only
  unfold maxLen at hs
  go_enter Tryd.func84, Tryd.ntmps84
  go_wp2_with fail
  go_loopw [2, 9] (fun u i w' => ∃ (k num : Nat), w' = w ∧ u = .int .i64 (num : Int) ∧ i = .int .i64 (k : Int) ∧ k ≤ s.size ∧ num ≤ 99999 ∧ tagR (s.data.toList.drop k) k num = (N, b, e0)) (fun _ i _ => s.size - (RowKit.intOf i).toNat)
  case atStart => exact ⟨0, 0, rfl, rfl, rfl, by omega, by omega, by simpa using hR⟩
  case round =>
    clear hR
    obtain ⟨k, num, rfl, rfl, rfl, hk, hn, hg⟩ := hrel
    by_cases hp : k < s.size
    · have t0 : (k : Int) < (s.size : Int) := by omega
      rw [drop_byte s hp, tagR] at hg
      obtain ⟨c, hc⟩ : ∃ c, (s[k]'hp).toNat = c := ⟨_, rfl⟩
      have hc8 : c < 256 := by rw [← hc]; exact UInt8.toNat_lt _
      rw [hc] at hg
      have h61 : ((⟨#[61]⟩ : ByteArray)[0]'(by decide)).toNat = 61 := rfl
      by_cases k0 : k = 0
      · subst k0
        by_cases c1 : (c : Int) < 48
        · have HG : Hid (N = 0 ∧ b = 0 ∧ e0 = 80) := by
            rw [if_neg (by omega), if_pos (by omega)] at hg
            simp only [Prod.mk.injEq] at hg
            exact ⟨hg.1.symm, hg.2.1.symm, hg.2.2.symm⟩
          clear hg
          go_wp2_with fail
          go_ret3
          exact ⟨by rw [HG.out.1, HG.out.2.1, HG.out.2.2]; rfl, rfl⟩
        by_cases c2 : (57 : Int) < (c : Int)
        · have HG : Hid (N = 0 ∧ b = 0 ∧ e0 = 80) := by
            rw [if_neg (by omega), if_pos (by omega)] at hg
            simp only [Prod.mk.injEq] at hg
            exact ⟨hg.1.symm, hg.2.1.symm, hg.2.2.symm⟩
          clear hg
          go_wp2_with fail
          go_ret3
          exact ⟨by rw [HG.out.1, HG.out.2.1, HG.out.2.2]; rfl, rfl⟩
        by_cases c3 : c = 48
        · have HG : Hid (N = 0 ∧ b = 0 ∧ e0 = 80) := by
            rw [if_neg (by omega), if_pos (by omega)] at hg
            simp only [Prod.mk.injEq] at hg
            exact ⟨hg.1.symm, hg.2.1.symm, hg.2.2.symm⟩
          clear hg
          subst c3
          go_wp2_with fail
          go_ret3
          exact ⟨by rw [HG.out.1, HG.out.2.1, HG.out.2.2]; rfl, rfl⟩
        have t4 : ((c : Int) == 48) = false := beq_false_of_ne (by omega)
        by_cases hov : 99999 < 10 * num + (c - 48)
        · have t5 : (99999 : Int) < 10 * (num : Int) + ((c : Int) - 48) := by omega
          have HG : Hid (N = 0 ∧ b = 0 ∧ e0 = 80) := by
            rw [if_neg (by omega), if_neg (by omega), if_pos hov] at hg
            simp only [Prod.mk.injEq] at hg
            exact ⟨hg.1.symm, hg.2.1.symm, hg.2.2.symm⟩
          clear hg
          go_wp2_with fail
          go_ret3
          exact ⟨by rw [HG.out.1, HG.out.2.1, HG.out.2.2]; rfl, rfl⟩
        · have t5 : ¬ (99999 : Int) < 10 * (num : Int) + ((c : Int) - 48) := by omega
          rw [if_neg (by omega), if_neg (by omega), if_neg hov] at hg
          have HG : Hid (tagR (List.drop (0 + 1) s.data.toList) (0 + 1) (10 * num + (c - 48)) = (N, b, e0)) := hg
          clear hg
          go_wp2_with fail
          go_roundw
          case rel => exact ⟨0 + 1, 10 * num + (c - 48), trivial, by congr 1; omega, by simp, by omega, by omega, HG.out⟩
          case measure => simp [RowKit.intOf]; omega
      · have t1 : ((k : Int) == 0) = false := beq_false_of_ne (by omega)
        have t2 : (0 : Int) < (k : Int) := by omega
        by_cases c0 : c = 61
        · have HG : Hid (N = num ∧ b = k + 1 ∧ e0 = 0) := by
            rw [if_pos (by omega)] at hg
            simp only [Prod.mk.injEq] at hg
            exact ⟨hg.1.symm, hg.2.1.symm, hg.2.2.symm⟩
          clear hg
          have t4 : ((c : Int) == 61) = true := by simp [c0]
          clear c0
          go_wp2_with fail
          go_ret3
          exact ⟨by rw [HG.out.1, HG.out.2.1, HG.out.2.2]; rfl, rfl⟩
        have t4 : ((c : Int) == 61) = false := beq_false_of_ne (by omega)
        by_cases c1 : (c : Int) < 48
        · have HG : Hid (N = 0 ∧ b = 0 ∧ e0 = 80) := by
            rw [if_neg (by omega), if_pos (by omega)] at hg
            simp only [Prod.mk.injEq] at hg
            exact ⟨hg.1.symm, hg.2.1.symm, hg.2.2.symm⟩
          clear hg
          go_wp2_with fail
          go_ret3
          exact ⟨by rw [HG.out.1, HG.out.2.1, HG.out.2.2]; rfl, rfl⟩
        by_cases c2 : (57 : Int) < (c : Int)
        · have HG : Hid (N = 0 ∧ b = 0 ∧ e0 = 80) := by
            rw [if_neg (by omega), if_pos (by omega)] at hg
            simp only [Prod.mk.injEq] at hg
            exact ⟨hg.1.symm, hg.2.1.symm, hg.2.2.symm⟩
          clear hg
          go_wp2_with fail
          go_ret3
          exact ⟨by rw [HG.out.1, HG.out.2.1, HG.out.2.2]; rfl, rfl⟩
        by_cases hov : 99999 < 10 * num + (c - 48)
        · have t5 : (99999 : Int) < 10 * (num : Int) + ((c : Int) - 48) := by omega
          have HG : Hid (N = 0 ∧ b = 0 ∧ e0 = 80) := by
            rw [if_neg (by omega), if_neg (by omega), if_pos hov] at hg
            simp only [Prod.mk.injEq] at hg
            exact ⟨hg.1.symm, hg.2.1.symm, hg.2.2.symm⟩
          clear hg
          go_wp2_with fail
          go_ret3
          exact ⟨by rw [HG.out.1, HG.out.2.1, HG.out.2.2]; rfl, rfl⟩
        · have t5 : ¬ (99999 : Int) < 10 * (num : Int) + ((c : Int) - 48) := by omega
          rw [if_neg (by omega), if_neg (by omega), if_neg hov] at hg
          have HG : Hid (tagR (List.drop (k + 1) s.data.toList) (k + 1) (10 * num + (c - 48)) = (N, b, e0)) := hg
          clear hg
          go_wp2_with fail
          go_roundw
          case rel => exact ⟨k + 1, 10 * num + (c - 48), trivial, by congr 1; omega, by simp, by omega, by omega, HG.out⟩
          case measure => simp [RowKit.intOf]; omega
    · obtain rfl : k = s.size := by omega
      have t0 : ¬ (s.size : Int) < (s.size : Int) := by omega
      have he : s.data.toList.drop s.size = [] := List.drop_eq_nil_of_le (by rw [← size_eq]; omega)
      rw [he, tagR] at hg
      have HG : Hid (N = 0 ∧ b = 0 ∧ e0 = 82) := by
        simp only [Prod.mk.injEq] at hg
        exact ⟨hg.1.symm, hg.2.1.symm, hg.2.2.symm⟩
      clear hg he
      go_wp2_with fail
      go_ret3
      exact ⟨by rw [HG.out.1, HG.out.2.1, HG.out.2.2]; rfl, rfl⟩
end Go.Proofs.YtdacmhnniecmhaaDoor
