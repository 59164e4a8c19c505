/-
  The contract of the reference's Cut.
-/
import Derived.Test.YtcgojnofkbjinaaWireRefOpen
import Derived.Test.YtcgojnofkbjinaaWireCut
namespace Go.Proofs.Ytcgojnofkbjinaa
open Go.ChangeShapes Go.WideShapes Go.ChangeAt Go.RowKit Go.Lib

set_option maxRecDepth 1000000 in
set_option maxHeartbeats 4000000 in
theorem refCut_any (s : ByteArray) (w : World) (hs : s.size ≤ 100000) :
    Calls Try.prog 13 #[.string s] w fun e w' => ∃ v, e = .returned (.tuple #[v, .int .i64 ((cutL s.data.toList [] 0).2.1 : Int), .int .i64 ((cutL s.data.toList [] 0).2.2 : Int)]) ∧ GrowsT w w' v (cutL s.data.toList [] 0).1 ∧ (cutL s.data.toList [] 0).1.length ≤ s.size := by
  obtain ⟨L, A, E, hR⟩ : ∃ L A E, cutL s.data.toList [] 0 = (L, A, E) := ⟨_, _, _, rfl⟩
  rw [hR]
  dsimp only
  obtain ⟨i0, hi0, hz0, hzs, hzb⟩ := info_parts infoT
  go_enter Try.func13, Try.ntmps13
  go_wp2_with fail
  go_loopw [5, 6] (fun v i wr => ∃ (k : Nat) (acc : List (List UInt8)), i = .int .i64 (k : Int) ∧ k ≤ s.size ∧ acc.length ≤ k ∧ cutL (s.data.toList.drop k) acc k = (L, A, E) ∧ GrowsT w wr v acc) (fun _ i _ => s.size - (RowKit.intOf i).toNat)
  case atStart => exact ⟨0, [], rfl, by omega, by simp, by rw [List.drop_zero]; exact hR, GrowsT.none _ _ (Below.refl _ _)⟩
  case round =>
    clear hR
    obtain ⟨k, acc, rfl, hk, ha, hg, Q⟩ := hrel
    obtain ⟨a0, cap0, rfl⟩ := Q.shape
    by_cases hp : k < s.size
    · have t0 : (k : Int) < (s.size : Int) := by omega
      have hne := drop_some (l := s.data.toList) (k := k) (by rw [← size_eq]; exact hp)
      have el : (s.extract k s.size).data.toList = s.data.toList.drop k := by rw [ext_tail, mk_list]
      have F := fun w => refOpen_any (s.extract k s.size) w (by rw [size_eq, el, List.length_drop, ← size_eq]; omega)
      rw [el] at F
      have HQ : Hid (GrowsT w wr (.slice a0 acc.length cap0) acc) := Q
      by_cases o : (openE (s.data.toList.drop k)).2.2 = 0
      · rw [cutL_ok hne o, List.drop_drop] at hg
        obtain ⟨_, m2, m1, _⟩ := seal_open o
        rw [List.length_drop, ← size_eq] at m2
        rw [o] at F
        generalize (openE (s.data.toList.drop k)).2.1 = m at *
        generalize (openE (s.data.toList.drop k)).1 = b at *
        have HG : Hid (cutL (s.data.toList.drop (k + m)) (acc ++ [b]) (k + m) = (L, A, E)) := hg
        clear hg el o hne Q
        go_wp2_with fail
        refine (F _).mono ?_
        rintro e w1 ⟨rfl, hb1⟩
        have Q1 := HQ.out.still hb1
        have Q2 := Q1.still ((Below.refl _ _).alloc (Nat.le_refl _) (.cells #[.string (mk b)] 9))
        have hown := Q2.own
        have hz := Q1.below.size
        have hcn := cell_txt_new w1 (.string (mk b)) 9
        have H2 : Hid (GrowsT w (w1.alloc (.cells #[.string (mk b)] 9)) (.slice a0 acc.length cap0) acc) := Q2
        clear Q1 Q2 hb1 HQ
        go_wp2_with (at_builtin; refine wpList_append_own_at _ rfl _ _ 33 rfl w.heap.size 9 i0 (.string ⟨#[]⟩) 1 16 Try.underlying33 hi0 hz0 hzs hzb rfl (by decide) _ _ _ rfl hown ⟨w1.heap.size, 0, none⟩ 1 1 [.string (mk b)] rfl rfl ?hnews ?hone ?h63 ?hbytes ?hbase ?_)
        case hnews => exact hcn
        case hone => simp [Value.oneCell']
        case h63 => unfold maxLen; omega
        case hbytes => omega
        case hbase => first | omega | (simp; omega)
        intro v5 w5 hown5 hg5 _ _
        have Q5 := H2.out.more hg5 hown5
        clear hown5 hg5 hown hcn
        go_wp2_with fail
        go_roundw
        case rel => exact ⟨k + m, acc ++ [b], by simp, by omega, by simp; omega, HG.out, Q5⟩
        case measure => simp [RowKit.intOf]; omega
      · rw [cutL_bad hne o] at hg
        simp only [Prod.mk.injEq] at hg
        obtain ⟨rfl, rfl, h3⟩ := hg
        rw [h3] at F o
        have t2 : ((E : Int) == 0) = false := beq_false_of_ne (by omega)
        clear h3
        generalize (openE (s.data.toList.drop k)).2.1 = m at *
        generalize (openE (s.data.toList.drop k)).1 = b at *
        clear el o hne Q
        go_wp2_with fail
        refine (F _).mono ?_
        rintro e w1 ⟨rfl, hb1⟩
        have Q1 := HQ.out.still hb1
        go_wp2_with fail
        go_ret3
        first | exact ⟨_, rfl, Q1, by omega⟩ | exact ⟨_, rfl, Q1⟩
    · obtain rfl : k = s.size := by omega
      have t0 : ¬ (s.size : Int) < (s.size : Int) := by omega
      have he : s.data.toList.drop s.size = [] := List.drop_eq_nil_of_le (by rw [← size_eq]; omega)
      rw [he, cutL_end] at hg
      simp only [Prod.mk.injEq] at hg
      obtain ⟨rfl, rfl, rfl⟩ := hg
      have HQ : Hid (GrowsT w wr (.slice a0 acc.length cap0) acc) := Q
      clear he Q
      go_wp2_with fail
      go_ret3
      first | exact ⟨_, rfl, HQ.out, ha⟩ | exact ⟨_, rfl, HQ.out⟩
end Go.Proofs.Ytcgojnofkbjinaa
