/-
  What strings.Cut answers at a comma.
-/
import Derived.Test.YtbbocekijkpjnaaBodyNum
import Derived.Test.YtbbocekijkpjnaaTagLib
import Derived.Lib.IndexLaws
namespace Go.Proofs.Ytbbocekijkpjnaa
open Go.ChangeShapes Go.WideShapes Go.ChangeAt Go.RowKit Go.Lib

/-- A comma. -/
def comma : ByteArray := ⟨#[44]⟩
theorem indexByte_any (s : ByteArray) (w : World) : Calls Try.prog 47 #[.string s, .int .u8 44] w fun e w' => e = .returned (.int .i64 (indexByte s.data.toList 44)) ∧ w' = w := Any.stringslite_IndexByte Try.lays217 s 44 w
set_option maxRecDepth 100000 in
set_option maxHeartbeats 2000000 in
theorem index_any (s : ByteArray) (w : World) : Calls Try.prog 43 #[.string s, .string ⟨#[44]⟩] w fun e w' => e = .returned (.int .i64 (indexByte s.data.toList 44)) ∧ w' = w := by
  have F := indexByte_any s
  by_cases hs : s = comma
  · subst hs
    have e : indexByte comma.data.toList 44 = 0 := by decide
    rw [e]
    unfold comma
    clear F e
    go_enter Try.func43, Try.ntmps43
    go_wp2_with fail
    go_ret
    exact ⟨rfl, rfl⟩
  have t : ([44] == s.toList) = false := by
    have := beq_bytes comma s
    rw [decide_eq_false (fun e => hs e.symm), show comma.toList = [44] by simp [comma, ByteArray.toList, ByteArray.toList.loop, ByteArray.size, ByteArray.get!]] at this
    exact this
  generalize indexByte s.data.toList 44 = x at *
  clear hs
  go_enter Try.func43, Try.ntmps43
  go_wp2_with fail
  refine (F _).mono ?_
  rintro e w1 ⟨rfl, rfl⟩
  go_wp2_with fail
  go_ret
  exact ⟨rfl, rfl⟩
/-- What lies ahead of the first comma and behind it, and whether there is one. -/
def cutC (l : List UInt8) : List UInt8 × List UInt8 × Bool := if indexByte l 44 = -1 then (l, [], false) else (l.take (indexByte l 44).toNat, l.drop ((indexByte l 44).toNat + 1), true)
theorem segs_cut (l : List UInt8) : segs l = (cutC l).1 :: (if (cutC l).2.2 then segs (cutC l).2.1 else []) := by
  unfold cutC
  by_cases h : indexByte l 44 = -1
  · rw [if_pos h]
    simp only [Bool.false_eq_true, if_false]
    apply segs_none
    intro c hc e
    obtain ⟨k, hk⟩ := List.getElem?_of_mem hc
    exact indexByte_none h k (by rw [hk, e])
  · rw [if_neg h]
    have := indexByte_ge l 44
    obtain ⟨o, ho⟩ : ∃ o : Nat, indexByte l 44 = (o : Int) := ⟨(indexByte l 44).toNat, by omega⟩
    obtain ⟨h1, h2⟩ := indexByte_some ho
    simp only [if_true]
    rw [ho, Int.toNat_natCast]
    exact segs_at l o h1 h2
theorem cut_lt (l : List UInt8) (h : (cutC l).2.2 = true) : (cutC l).2.1.length < l.length := by
  unfold cutC at *
  by_cases g : indexByte l 44 = -1
  · rw [if_pos g] at h
    simp at h
  · rw [if_neg g]
    have := indexByte_ge l 44
    obtain ⟨o, ho⟩ : ∃ o : Nat, indexByte l 44 = (o : Int) := ⟨(indexByte l 44).toNat, by omega⟩
    obtain ⟨h1, _⟩ := indexByte_some ho
    have : o < l.length := (List.getElem?_eq_some_iff.1 h1).1
    simp only [List.length_drop]
    omega
theorem cut_end (l : List UInt8) (h : (cutC l).2.2 = false) : (cutC l).2.1 = [] := by
  unfold cutC at *
  by_cases g : indexByte l 44 = -1
  · rw [if_pos g]
  · rw [if_neg g] at h
    simp at h
theorem cut_le (l : List UInt8) : (cutC l).1.length ≤ l.length := by
  unfold cutC
  split
  · exact Nat.le_refl _
  · simp only [List.length_take]
    omega
set_option maxRecDepth 100000 in
set_option maxHeartbeats 2000000 in
theorem cut1_any (s : ByteArray) (w : World) (hs : s.size ≤ maxLen) : Calls Try.prog 38 #[.string s, .string ⟨#[44]⟩] w fun e w' => e = .returned (.tuple #[.string (mk (cutC s.data.toList).1), .string (mk (cutC s.data.toList).2.1), .bool (cutC s.data.toList).2.2]) ∧ ∃ m, w' = w.drewN m := by
  have F := index_any s
  have hge := indexByte_ge s.data.toList 44
  unfold maxLen at hs
  unfold cutC
  by_cases h : indexByte s.data.toList 44 = -1
  · rw [if_pos h]
    rw [h] at F
    dsimp only
    rw [list_mk]
    clear h hge
    go_enter Try.func38, Try.ntmps38
    go_wp2_with fail
    refine (F _).mono ?_
    rintro e w1 ⟨rfl, rfl⟩
    go_wp2_with fail
    go_ret3
    exact ⟨rfl, 0, rfl⟩
  · rw [if_neg h]
    obtain ⟨o, ho⟩ : ∃ o : Nat, indexByte s.data.toList 44 = (o : Int) := ⟨(indexByte s.data.toList 44).toNat, by omega⟩
    have hl : o < s.size := by
      have := (indexByte_some ho).1
      rw [size_eq]
      exact (List.getElem?_eq_some_iff.1 this).1
    rw [ho] at F
    rw [ho, Int.toNat_natCast]
    dsimp only
    rw [← ext_head, ← ext_tail]
    have c1 : (0 : Int) ≤ (o : Int) := by omega
    have c2 : (o : Int) ≤ (s.size : Int) := by omega
    have c3 : (0 : Int) ≤ (o : Int) + 1 := by omega
    have c4 : (o : Int) + 1 ≤ (s.size : Int) := by omega
    clear h hge ho
    go_enter Try.func38, Try.ntmps38
    go_wp2_with fail
    refine (F _).mono ?_
    rintro e w1 ⟨rfl, rfl⟩
    go_wp2_with fail
    go_quiet (fail)
    go_wp2_with fail
    go_ret3
    exact ⟨rfl, _, rfl⟩
set_option maxHeartbeats 1000000 in
theorem cut_any (s : ByteArray) (w : World) (hs : s.size ≤ maxLen) : Calls Try.prog 24 #[.string s, .string ⟨#[44]⟩] w fun e w' => e = .returned (.tuple #[.string (mk (cutC s.data.toList).1), .string (mk (cutC s.data.toList).2.1), .bool (cutC s.data.toList).2.2]) ∧ ∃ m, w' = w.drewN m := by
  have F := fun w => cut1_any s w hs
  generalize mk (cutC s.data.toList).1 = a at *
  generalize mk (cutC s.data.toList).2.1 = b at *
  generalize (cutC s.data.toList).2.2 = c at *
  go_enter Try.func24, Try.ntmps24
  go_wp2_with fail
  refine (F _).mono ?_
  rintro e w1 ⟨rfl, m, rfl⟩
  go_wp2_with fail
  go_ret3
  exact ⟨rfl, m, rfl⟩
end Go.Proofs.Ytbbocekijkpjnaa
