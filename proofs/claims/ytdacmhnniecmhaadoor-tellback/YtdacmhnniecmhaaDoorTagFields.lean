/-
  The contract of tag's Fields: all fields of a text.
-/
import Derived.Test.YtdacmhnniecmhaaDoorTagNext
import Derived.Test.YtdacmhnniecmhaaDoorTagRows
namespace Go.Proofs.YtdacmhnniecmhaaDoor
open Go.ChangeShapes Go.WideShapes Go.ChangeAt Go.RowKit Go.Lib

theorem infoA : (Tryd.prog.info? 42).map (fun i => (i.zero, i.size, i.bytes)) = some (some (.agg #[.int .i64 0, .string ⟨#[]⟩]), 2, 24) := by kernel_rfl
set_option maxRecDepth 1000000 in
set_option maxHeartbeats 4000000 in
theorem fields_any (s : ByteArray) (w : World) (hs : s.size ≤ 1000000) :
    Calls Tryd.prog 48 #[.string s] w fun e w' => ∃ v, e = .returned (.tuple #[v, .int .i64 ((fieldsL s.data.toList).2.1 : Int), .int .i64 ((fieldsL s.data.toList).2.2 : Int)]) ∧ Grows w 42 w' v (fieldsL s.data.toList).1 := by
  obtain ⟨L, A, E, hR⟩ : ∃ L A E, fieldsL s.data.toList = (L, A, E) := ⟨_, _, _, rfl⟩
  rw [hR]
  dsimp only
  obtain ⟨i0, hi0, hz0, hzs, hzb⟩ := info_parts infoA
  go_enter Tryd.func48, Tryd.ntmps48
  go_wp2_with fail
  go_loopw [2, 3] (fun v i wr => ∃ (k : Nat) (acc : List Fd), i = .int .i64 (k : Int) ∧ k ≤ s.size ∧ acc.length ≤ 64 ∧ fieldsA (64 - acc.length) (s.data.toList.drop k) acc k = (L, A, E) ∧ Grows w 42 wr v acc) (fun _ i _ => s.size - (RowKit.intOf i).toNat)
  case atStart => exact ⟨0, [], rfl, by omega, by simp, by rw [List.drop_zero]; exact hR, Grows.none _ _ _ (Below.refl _ _)⟩
  case round =>
    clear hR
    obtain ⟨k, acc, rfl, hk, ha, hg, Q⟩ := hrel
    obtain ⟨a0, cap0, rfl⟩ := Q.shape
    obtain ⟨n, hn⟩ : ∃ n, acc.length = n := ⟨_, rfl⟩
    have hB := Q.below
    by_cases hp : k < s.size
    · have t0 : (k : Int) < (s.size : Int) := by omega
      have hne := drop_ne (l := s.data.toList) (k := k) (by rw [← size_eq]; exact hp)
      by_cases hf : n = 64
      · rw [hn, hf, fieldsA_full hne] at hg
        simp only [Prod.mk.injEq] at hg
        obtain ⟨rfl, rfl, rfl⟩ := hg
        have HQ : Hid (Grows w 42 wr (.slice a0 acc.length cap0) acc) := Q
        have t1 : ((acc.length : Int) == 64) = true := by simp; omega
        clear hn hf Q hB hne
        go_wp2_with fail
        go_ret3
        exact ⟨_, rfl, HQ.out⟩
      · have t1 : ((acc.length : Int) == 64) = false := beq_false_of_ne (by omega)
        have el : (s.extract k s.size).data.toList = s.data.toList.drop k := by rw [ext_tail, mk_list]
        have F := fun w => next_any (s.extract k s.size) w (by rw [size_eq, el, List.length_drop, ← size_eq]; omega)
        rw [el] at F
        obtain ⟨f, m, e1, hN⟩ : ∃ f m e1, nextL (s.data.toList.drop k) = (f, m, e1) := ⟨_, _, _, rfl⟩
        rw [hN] at F
        dsimp only at F
        by_cases he : e1 = 0
        · subst he
          rw [fieldsA_ok hne _ _ (by omega) (by rw [hN]), hN] at hg
          dsimp only at hg
          have hm := next_form (l := s.data.toList.drop k) (by rw [hN])
          rw [hN] at hm
          dsimp only at hm
          rw [List.length_drop, ← size_eq] at hm
          obtain ⟨_, m1, m2⟩ := hm
          rw [List.drop_drop] at hg
          have HG : Hid (fieldsA (64 - acc.length - 1) (s.data.toList.drop (k + m)) (acc ++ [f]) (k + m) = (L, A, E)) := hg
          have hn64 : acc.length ≤ 63 := by omega
          have HQ : Hid (Grows w 42 wr (.slice a0 acc.length cap0) acc) := Q
          clear hg hN el hn hf Q hB hne
          go_wp2_with fail
          refine (F _).mono ?_
          rintro e w1 ⟨rfl, hb1⟩
          have Q1 := HQ.out.still hb1
          have Q2 := (Q1.still ((Below.refl _ _).alloc (Nat.le_refl _) (.cells #[.int .i64 f.1, .string f.2] 42))).still ((Below.refl _ _).alloc (Nat.le_refl _) (.cells #[.int .i64 f.1, .string f.2] 42))
          have hown := Q2.own
          have hz := Q1.below.size
          have hcn := cell_fd_new2 w1 (.cells #[.int .i64 f.1, .string f.2] 42) f 42
          have H2 : Hid (Grows w 42 ((w1.alloc (.cells #[.int .i64 f.1, .string f.2] 42)).alloc (.cells #[.int .i64 f.1, .string f.2] 42)) (.slice a0 acc.length cap0) acc) := Q2
          clear Q1 Q2 hb1
          go_wp2_with (at_builtin; refine wpList_append_own_at _ rfl _ _ 43 rfl w.heap.size 42 i0 (.agg #[.int .i64 0, .string ⟨#[]⟩]) 2 24 Tryd.underlying43 hi0 hz0 hzs hzb rfl (by decide) _ _ _ rfl hown ⟨w1.heap.size + 1, 0, none⟩ 1 1 (fd2 f) rfl rfl ?hnews (fd2_one _) ?h63 ?hbytes ?hbase ?_)
          case hnews => exact hcn
          case h63 => unfold maxLen; omega
          case hbytes => omega
          case hbase => first | omega | (simp; omega)
          intro v5 w5 hown5 hg5 _ _
          have Q5 := H2.out.more hg5 hown5
          clear hown5 hg5 hown hcn
          go_wp2_with fail
          go_roundw
          case rel => exact ⟨k + m, acc ++ [f], by simp, by omega, by simp; omega, by rw [List.length_append]; exact HG.out, Q5⟩
          case measure => simp [RowKit.intOf]; omega
        · rw [fieldsA_err hne _ _ (by omega) (by rw [hN]; exact he), hN] at hg
          simp only [Prod.mk.injEq] at hg
          obtain ⟨rfl, rfl, rfl⟩ := hg
          have t2 : ((e1 : Int) == 0) = false := beq_false_of_ne (by omega)
          have HQ : Hid (Grows w 42 wr (.slice a0 acc.length cap0) acc) := Q
          clear hN el hn hf Q hB hne
          go_wp2_with fail
          refine (F _).mono ?_
          rintro e w1 ⟨rfl, hb1⟩
          have Q1 := HQ.out.still hb1
          have Q2 := Q1.still ((Below.refl _ _).alloc (Nat.le_refl _) (.cells #[.int .i64 f.1, .string f.2] 42))
          go_wp2_with fail
          go_ret3
          exact ⟨_, rfl, Q2⟩
    · obtain rfl : k = s.size := by omega
      have t0 : ¬ (s.size : Int) < (s.size : Int) := by omega
      have he : s.data.toList.drop s.size = [] := List.drop_eq_nil_of_le (by rw [← size_eq]; omega)
      rw [fieldsA_end he] at hg
      simp only [Prod.mk.injEq] at hg
      obtain ⟨rfl, rfl, rfl⟩ := hg
      have HQ : Hid (Grows w 42 wr (.slice a0 acc.length cap0) acc) := Q
      clear he hn Q hB
      go_wp2_with fail
      go_ret3
      exact ⟨_, rfl, HQ.out⟩
end Go.Proofs.YtdacmhnniecmhaaDoor
