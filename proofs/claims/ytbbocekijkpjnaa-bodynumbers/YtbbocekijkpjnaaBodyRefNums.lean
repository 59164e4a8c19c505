/-
  The contract of the reference's Numbers, out of its Number's.
-/
import Derived.Test.YtbbocekijkpjnaaBodyRefNum
import Derived.Test.YtbbocekijkpjnaaBodyNums
namespace Go.Proofs.Ytbbocekijkpjnaa
open Go.ChangeShapes Go.WideShapes Go.ChangeAt Go.RowKit Go.Lib

set_option maxHeartbeats 2000000 in
theorem refNum_bad (s : ByteArray) (w : World) (hh : s.size = 0 ∨ 19 < s.size ∨ ∃ h0 : 0 < s.size, (s[0]'h0).toNat = 48 ∧ 1 < s.size) (hs : s.size ≤ maxLen) :
    Calls Try.prog 8 #[.string s] w fun e w' => e = .returned (.int .i64 (-1)) ∧ Below w.heap.size w w' := by
  unfold maxLen at hs
  by_cases h19 : 19 < s.size
  · have z1 : ¬ (s.size : Int) < 1 := by omega
    have z2 : (19 : Int) < (s.size : Int) := by omega
    clear hh
    go_enter Try.func8, Try.ntmps8
    go_wp2_with fail
    go_ret
    exact ⟨rfl, Below.refl _ _⟩
  · by_cases h0 : s.size = 0
    · have z1 : (s.size : Int) < 1 := by omega
      clear hh
      go_enter Try.func8, Try.ntmps8
      go_wp2_with fail
      go_ret
      exact ⟨rfl, Below.refl _ _⟩
    · obtain ⟨hp, hc, h1⟩ : ∃ h0 : 0 < s.size, (s[0]'h0).toNat = 48 ∧ 1 < s.size := by
        rcases hh with h | h | h
        · exact absurd h h0
        · exact absurd h h19
        · exact h
      have z1 : ¬ (s.size : Int) < 1 := by omega
      have z2 : ¬ (19 : Int) < (s.size : Int) := by omega
      have z3 : (1 : Int) < (s.size : Int) := by omega
      have z4 : (0 : Int) < (s.size : Int) := by omega
      go_enter Try.func8, Try.ntmps8
      go_wp2_with fail
      go_ret
      exact ⟨rfl, Below.refl _ _⟩
/-- The reference's Number of any text. -/
theorem refNumber_any (s : ByteArray) (w : World) (hs : s.size ≤ maxLen) :
    Calls Try.prog 8 #[.string s] w fun e w' => e = .returned (.int .i64 (numZ s.data.toList)) ∧ Below w.heap.size w w' := by
  by_cases hb : s.size = 0 ∨ 19 < s.size ∨ ∃ h0 : 0 < s.size, (s[0]'h0).toNat = 48 ∧ 1 < s.size
  · rw [numZ_bad]
    · exact refNum_bad s w hb hs
    · rw [← size_eq]
      rcases hb with h | h | ⟨h0, h1, h2⟩
      · exact .inl (by omega)
      · exact .inr (.inl h)
      · exact .inr (.inr ⟨h2, by rw [head_byte s h0]; exact UInt8.toNat_inj.1 h1⟩)
  · have h0 : 0 < s.size := by
      rcases Nat.eq_zero_or_pos s.size with h | h
      · exact absurd (.inl h) hb
      · exact h
    have e : numZ s.data.toList = toldN (valA s.data.toList 0) := by
      refine numZ_good ?_
      rw [← size_eq]
      rintro (h | h | ⟨h1, h2⟩)
      · omega
      · exact hb (.inr (.inl h))
      · rw [head_byte s h0] at h2
        exact hb (.inr (.inr ⟨h0, by rw [h2]; rfl, h1⟩))
    rw [e]
    refine refNum_good s w h0 ?_ (fun h => hb (.inr (.inr ⟨h0, h⟩)))
    rcases Nat.lt_or_ge 19 s.size with h | h
    · exact absurd (.inr (.inl h)) hb
    · exact h
/-- Where the reference's loop stands. -/
def Stands (l : List UInt8) (R : Option (List Nat)) (i f : Nat) (acc : List Nat) : Prop :=
  (i ≤ l.length ∧ f ≤ i ∧ (∀ j, f ≤ j → j < i → l[j]? ≠ some 44) ∧ numsA (segs (l.drop f)) acc = R ∧ acc.length ≤ f) ∨ (i = l.length + 1 ∧ some acc = R ∧ acc.length ≤ l.length + 1)
theorem segs_here {l : List UInt8} {i f : Nat} (h1 : f ≤ i) (hno : ∀ j, f ≤ j → j < i → l[j]? ≠ some 44) (h : l[i]? = some 44) : segs (l.drop f) = (l.drop f).take (i - f) :: segs (l.drop (i + 1)) := by
  have := segs_at (l.drop f) (i - f) (by rw [List.getElem?_drop, show f + (i - f) = i by omega]; exact h) (fun j hj => by
    rw [List.getElem?_drop]
    exact hno (f + j) (by omega) (by omega))
  rw [this, List.drop_drop, show f + (i - f + 1) = i + 1 by omega]
theorem segs_end {l : List UInt8} {f : Nat} (hno : ∀ j, f ≤ j → j < l.length → l[j]? ≠ some 44) : segs (l.drop f) = [l.drop f] := by
  apply segs_none
  intro c hc e
  obtain ⟨j, hj⟩ := List.getElem?_of_mem hc
  rw [List.getElem?_drop] at hj
  have hlt : f + j < l.length := (List.getElem?_eq_some_iff.1 hj).1
  exact hno (f + j) (by omega) hlt (by rw [hj, e])
set_option maxRecDepth 1000000 in
set_option maxHeartbeats 8000000 in
theorem refNumbers_any (s : ByteArray) (w : World) (hs : s.size ≤ 1000000) :
    Calls Try.prog 10 #[.string s] w fun e w' => ∃ v, e = .returned (.tuple #[v, .bool (numsO s.data.toList).isSome]) ∧ GrowsI w w' v ((numsO s.data.toList).getD []) := by
  obtain ⟨i0, hi0, hz0, hzs, hzb⟩ := info_parts infoI
  obtain ⟨R, hR⟩ : ∃ R, numsO s.data.toList = R := ⟨_, rfl⟩
  rw [hR]
  have hsl := size_eq s
  have HSL : Hid (s.size = s.data.toList.length) := hsl
  clear hsl
  go_enter Try.func10, Try.ntmps10
  go_wp2_with fail
  go_loopw [4, 5, 6] (fun v c d wr => ∃ (i f : Nat) (acc : List Nat), c = .int .i64 (f : Int) ∧ d = .int .i64 (i : Int) ∧ Stands s.data.toList R i f acc ∧ GrowsI w wr v acc) (fun _ _ d _ => s.size + 1 - (RowKit.intOf d).toNat)
  case atStart => exact ⟨0, 0, [], rfl, rfl, .inl ⟨Nat.zero_le _, Nat.le_refl _, fun j _ h => by omega, hR, by simp⟩, GrowsI.none _ _ (Below.refl _ _)⟩
  case round =>
    clear hR
    obtain ⟨i, f, acc, rfl, rfl, hst, Q⟩ := hrel
    obtain ⟨a0, cap0, rfl⟩ := Q.shape
    have HQ : Hid (GrowsI w wr (.slice a0 acc.length cap0) acc) := Q
    rcases hst with ⟨h1, h2, h3, h4, h5⟩ | ⟨h1, h2, h3⟩
    · have h1' : i ≤ s.size := by rw [HSL.out]; exact h1
      have t0 : (i : Int) ≤ (s.size : Int) := by omega
      by_cases hp : i < s.size
      · have t1 : (i : Int) < (s.size : Int) := by omega
        obtain ⟨c, hc⟩ : ∃ c, (s[i]'hp).toNat = c := ⟨_, rfl⟩
        have hget : s.data.toList[i]? = some (s[i]'hp) := by
          rw [List.getElem?_eq_getElem (by rw [← size_eq]; exact hp)]
          rfl
        by_cases hcm : c = 44
        · subst hcm
          have h44 : s.data.toList[i]? = some 44 := by rw [hget]; congr 1; exact UInt8.toNat_inj.1 hc
          rw [segs_here h2 h3 h44, numsA] at h4
          have hx : ((s.data.toList.drop f).take (i - f)).length ≤ 1000000 := by simp; omega
          have hF : (s.extract f i).data.toList = ((s.data.toList.drop f).take (i - f)) := by rw [ext_list, mk_list]
          have F := fun w => refNumber_any (s.extract f i) w (by rw [size_eq, hF]; unfold maxLen; omega)
          rw [hF] at F
          have hle := numE_le ((s.data.toList.drop f).take (i - f))
          have her := numE_err ((s.data.toList.drop f).take (i - f))
          obtain ⟨N, e0, hN⟩ : ∃ N e0, numE ((s.data.toList.drop f).take (i - f)) = (N, e0) := ⟨_, _, rfl⟩
          rw [hN] at h4 her hle
          dsimp only at h4 her hle
          have hsz : acc.length ≤ 1000000 := by omega
          have z0 : (f : Int) ≤ (i : Int) := by omega
          have z1 : (0 : Int) ≤ (f : Int) := by omega
          have z2 : (i : Int) ≤ (s.size : Int) := by omega
          by_cases he : e0 = 0
          · subst he
            rw [if_pos rfl] at h4
            rw [numZ_ok (by rw [hN]), hN] at F
            dsimp only at F
            have HS : Hid (Stands s.data.toList R (i + 1) (i + 1) (acc ++ [N])) := .inl ⟨by rw [← size_eq]; omega, Nat.le_refl _, fun j hj1 hj2 => by omega, h4, by simp; omega⟩
            have t3 : ¬ (N : Int) < 0 := by omega
            clear h1 h2 h3 h4 h5 her hN Q hget h44 hF
            go_wp2_with fail
            refine (F _).mono ?_
            rintro e w1 ⟨rfl, hb1⟩
            have Q1 := HQ.out.still hb1
            have Q2 := Q1.still ((Below.refl _ _).alloc (Nat.le_refl _) (.cells #[.int .i64 (N : Int)] 3))
            have hown := Q2.own
            have hz := Q1.below.size
            have hcn := cell_int_new w1 (.int .i64 (N : Int)) 3
            have H2 : Hid (GrowsI w (w1.alloc (.cells #[.int .i64 (N : Int)] 3)) (.slice a0 acc.length cap0) acc) := Q2
            clear Q1 Q2 hb1
            go_wp2_with (at_builtin; refine wpList_append_own_at _ rfl _ _ 27 rfl w.heap.size 3 i0 (.int .i64 0) 1 8 Try.underlying27 hi0 hz0 hzs hzb rfl (by decide) _ _ _ rfl hown ⟨w1.heap.size, 0, none⟩ 1 1 [.int .i64 (N : Int)] rfl rfl ?hnews ?hone ?h63 ?hbytes ?hbase ?_)
            case hnews => exact hcn
            case hone => simp [Value.oneCell']
            case h63 => unfold maxLen; omega
            case hbytes => omega
            case hbase => first | omega | (simp; omega)
            intro v5 w5 hown5 hg5 _ _
            have Q5 := H2.out.more hg5 hown5
            clear hown5 hg5 hown hcn
            go_wp2_with fail
            go_roundw
            case rel => exact ⟨i + 1, i + 1, acc ++ [N], by simp, by simp, HS.out, Q5⟩
            case measure => first | (simp [RowKit.intOf]; done) | (simp [RowKit.intOf]; omega)
          · have he2 : numE ((s.data.toList.drop f).take (i - f)) = (0, 112) := by
              rcases her with h | h
              · exact absurd h he
              · rw [hN]; exact h
            rw [if_neg he] at h4
            rw [numZ_no he2] at F
            have HS : Hid (none = R) := h4
            clear h1 h2 h3 h4 h5 her he2 hN Q hget h44 hF
            go_wp2_with fail
            refine (F _).mono ?_
            rintro e w1 ⟨rfl, hb1⟩
            have Q1 := HQ.out.still hb1
            go_wp2_with fail
            go_ret2
            exact ⟨_, by rw [← HS.out]; rfl, by rw [← HS.out]; exact GrowsI.none _ _ Q1.below⟩
        · have t2 : ((c : Int) == 44) = false := beq_false_of_ne (by omega)
          have HS : Hid (Stands s.data.toList R (i + 1) f acc) := .inl ⟨by rw [← size_eq]; omega, by omega, fun j hj1 hj2 => by
            by_cases e : j = i
            · subst e
              rw [hget]
              intro k
              have := Option.some.inj k
              rw [this] at hc
              exact hcm (by rw [← hc]; rfl)
            · exact h3 j hj1 (by omega), h4, h5⟩
          clear h1 h2 h3 h4 h5 hget Q
          go_wp2_with fail
          go_roundw
          case rel => exact ⟨i + 1, f, acc, rfl, by simp, HS.out, HQ.out⟩
          case measure => first | (simp [RowKit.intOf]; done) | (simp [RowKit.intOf]; omega)
      · obtain rfl : i = s.size := by omega
        have t1 : ¬ (s.size : Int) < (s.size : Int) := by omega
        rw [segs_end (fun j hj1 hj2 => h3 j hj1 (by rw [size_eq]; exact hj2)), numsA] at h4
        have hx : (s.data.toList.drop f).length ≤ 1000000 := by simp; omega
        have hF : (s.extract f s.size).data.toList = (s.data.toList.drop f) := by rw [ext_tail, mk_list]
        have F := fun w => refNumber_any (s.extract f s.size) w (by rw [size_eq, hF]; unfold maxLen; omega)
        rw [hF] at F
        have hle := numE_le (s.data.toList.drop f)
        have her := numE_err (s.data.toList.drop f)
        obtain ⟨N, e0, hN⟩ : ∃ N e0, numE (s.data.toList.drop f) = (N, e0) := ⟨_, _, rfl⟩
        rw [hN] at h4 her hle
        dsimp only at h4 her hle
        have hsz : acc.length ≤ 1000000 := by omega
        have z0 : (f : Int) ≤ (s.size : Int) := by omega
        have z1 : (0 : Int) ≤ (f : Int) := by omega
        have z2 : (s.size : Int) ≤ (s.size : Int) := by omega
        by_cases he : e0 = 0
        · subst he
          rw [if_pos rfl] at h4
          rw [numZ_ok (by rw [hN]), hN] at F
          dsimp only at F
          have HS : Hid (Stands s.data.toList R (s.size + 1) (s.size + 1) (acc ++ [N])) := .inr ⟨by rw [← size_eq], by rw [numsA] at h4; exact h4, by rw [← size_eq]; simp; omega⟩
          have t3 : ¬ (N : Int) < 0 := by omega
          clear h1 h2 h3 h4 h5 her hN Q hF
          go_wp2_with fail
          refine (F _).mono ?_
          rintro e w1 ⟨rfl, hb1⟩
          have Q1 := HQ.out.still hb1
          have Q2 := Q1.still ((Below.refl _ _).alloc (Nat.le_refl _) (.cells #[.int .i64 (N : Int)] 3))
          have hown := Q2.own
          have hz := Q1.below.size
          have hcn := cell_int_new w1 (.int .i64 (N : Int)) 3
          have H2 : Hid (GrowsI w (w1.alloc (.cells #[.int .i64 (N : Int)] 3)) (.slice a0 acc.length cap0) acc) := Q2
          clear Q1 Q2 hb1
          go_wp2_with (at_builtin; refine wpList_append_own_at _ rfl _ _ 27 rfl w.heap.size 3 i0 (.int .i64 0) 1 8 Try.underlying27 hi0 hz0 hzs hzb rfl (by decide) _ _ _ rfl hown ⟨w1.heap.size, 0, none⟩ 1 1 [.int .i64 (N : Int)] rfl rfl ?hnews ?hone ?h63 ?hbytes ?hbase ?_)
          case hnews => exact hcn
          case hone => simp [Value.oneCell']
          case h63 => unfold maxLen; omega
          case hbytes => omega
          case hbase => first | omega | (simp; omega)
          intro v5 w5 hown5 hg5 _ _
          have Q5 := H2.out.more hg5 hown5
          clear hown5 hg5 hown hcn
          go_wp2_with fail
          go_roundw
          case rel => exact ⟨s.size + 1, s.size + 1, acc ++ [N], by simp, by simp, HS.out, Q5⟩
          case measure => first | (simp [RowKit.intOf]; done) | (simp [RowKit.intOf]; omega)
        · have he2 : numE (s.data.toList.drop f) = (0, 112) := by
            rcases her with h | h
            · exact absurd h he
            · rw [hN]; exact h
          rw [if_neg he] at h4
          rw [numZ_no he2] at F
          have HS : Hid (none = R) := h4
          clear h1 h2 h3 h4 h5 her he2 hN Q hF
          go_wp2_with fail
          refine (F _).mono ?_
          rintro e w1 ⟨rfl, hb1⟩
          have Q1 := HQ.out.still hb1
          go_wp2_with fail
          go_ret2
          exact ⟨_, by rw [← HS.out]; rfl, by rw [← HS.out]; exact GrowsI.none _ _ Q1.below⟩
    · have HS : Hid (some acc = R) := h2
      have e1 : i = s.size + 1 := by rw [h1, HSL.out]
      have t0 : ¬ (i : Int) ≤ (s.size : Int) := by omega
      clear h1 h2 h3 e1 Q
      go_wp2_with fail
      go_ret2
      exact ⟨_, by rw [← HS.out]; rfl, by rw [← HS.out]; exact HQ.out⟩
end Go.Proofs.Ytbbocekijkpjnaa
