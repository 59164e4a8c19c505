/-
  The first runes of a text, as a text: a beginning of it, cut off between two runes.
-/
import Derived.Test.YtennefdcjgjpiaaDoorTagLaws
import Derived.Laws.Cover4
namespace Go.Proofs.YtennefdcjgjpiaaDoor
open Go.Lib

theorem byte_is (z : Nat) (x : UInt8) (h : z = x.toNat) : UInt8.ofNat z = x := by
  subst h
  simp
theorem valid_is {c : Nat} (h : c < 55296 ∨ (57344 ≤ c ∧ c ≤ 1114111)) : Utf8.valid (c : Int) = true := by
  unfold Utf8.valid
  rw [Bool.or_eq_true, Bool.and_eq_true, Bool.and_eq_true, decide_eq_true_eq, decide_eq_true_eq, decide_eq_true_eq, decide_eq_true_eq]
  omega
/-- A rune that was decoded is encoded as the same bytes. -/
theorem enc_take (l : List UInt8) (hne : l ≠ []) (hv : (decodeL l).1 ≠ 65533) : (Utf8.encode ((decodeL l).1 : Int)).data.toList = l.take (decodeL l).2 := by
  have hl : 0 < l.length := List.length_pos_iff.2 hne
  rw [decodeL_N] at hv ⊢
  have k0 := (l.getD 0 0).toNat_lt
  have k1 := (l.getD 1 0).toNat_lt
  have k2 := (l.getD 2 0).toNat_lt
  have k3 := (l.getD 3 0).toNat_lt
  rcases decodeN_shape l.length (l.getD 0 0).toNat (l.getD 1 0).toNat (l.getD 2 0).toNat (l.getD 3 0).toNat with ⟨c, e⟩ | ⟨c1, c2, c3, cv, e⟩ | ⟨c1, c2, c3, c4, cv, cs, e⟩ | ⟨c1, c2, c3, c4, c5, cv, cw, e⟩ | e
  · rw [e]
    dsimp only
    unfold Utf8.encode
    simp only [valid_is (c := (l.getD 0 0).toNat) (by omega), if_true, Int.toNat_natCast]
    rw [if_pos (by omega), takeA l hl]
    simp only
    rw [byte_is _ (l.getD 0 0) rfl]
  · rw [e]
    dsimp only
    unfold Utf8.encode
    simp only [valid_is (c := (l.getD 0 0).toNat % 32 * 64 + (l.getD 1 0).toNat % 64) (by omega), if_true, Int.toNat_natCast]
    rw [if_neg (by omega), if_pos (by omega), takeB l c2]
    simp only
    rw [byte_is _ (l.getD 0 0) (by omega), byte_is _ (l.getD 1 0) (by omega)]
  · rw [e]
    dsimp only
    unfold Utf8.encode
    simp only [valid_is (c := (l.getD 0 0).toNat % 16 * 4096 + (l.getD 1 0).toNat % 64 * 64 + (l.getD 2 0).toNat % 64) (by omega), if_true, Int.toNat_natCast]
    rw [if_neg (by omega), if_neg (by omega), if_pos (by omega), takeC l c2]
    simp only
    rw [byte_is _ (l.getD 0 0) (by omega), byte_is _ (l.getD 1 0) (by omega), byte_is _ (l.getD 2 0) (by omega)]
  · rw [e]
    dsimp only
    unfold Utf8.encode
    simp only [valid_is (c := (l.getD 0 0).toNat % 8 * 262144 + (l.getD 1 0).toNat % 64 * 4096 + (l.getD 2 0).toNat % 64 * 64 + (l.getD 3 0).toNat % 64) (by omega), if_true, Int.toNat_natCast]
    rw [if_neg (by omega), if_neg (by omega), if_neg (by omega), takeD l c2]
    simp only
    rw [byte_is _ (l.getD 0 0) (by omega), byte_is _ (l.getD 1 0) (by omega), byte_is _ (l.getD 2 0) (by omega), byte_is _ (l.getD 3 0) (by omega)]
  · rw [e] at hv
    exact absurd rfl hv
theorem bytes_cons : ∀ (ns : List Int) (s : ByteArray), (ns.foldl (fun r n => r ++ Utf8.encode n) s).data.toList = s.data.toList ++ (ns.flatMap fun n => (Utf8.encode n).data.toList)
  | [], s => by simp
  | n :: ns, s => by
    rw [List.foldl_cons, bytes_cons ns]
    simp
/-- The first runes of a clean text are a clean beginning of it. -/
theorem cut_runes (l : List UInt8) (j : Nat) (h : Clean l) : ∃ p, (runesBytes (((runesL l).map fun c : Nat => (c : Int)).take j)).data.toList = l.take p ∧ Clean (l.take p) := by
  have key : ∀ l, Clean l → ∀ j, ∃ p, ((((runesL l).map fun c : Nat => (c : Int)).take j).flatMap fun n => (Utf8.encode n).data.toList) = l.take p ∧ Clean (l.take p) := by
    refine byRunes ?_ ?_
    · intro _ j
      exact ⟨0, by simp [runesL_nil], by simp [Clean.nil]⟩
    · intro l hne ih hc j
      cases j with
      | zero => exact ⟨0, by simp, by simp [Clean.nil]⟩
      | succ j =>
        obtain ⟨h1, h2⟩ := (Clean.step hne).1 hc
        obtain ⟨p, e1, e2⟩ := ih h2 j
        have hw := decodeL_width l
        refine ⟨(decodeL l).2 + p, ?_, ?_⟩
        · rw [runesL_step hne, List.map_cons, List.take_succ_cons, List.flatMap_cons, e1, enc_take l hne h1, List.take_add]
        · have hn : l.take ((decodeL l).2 + p) ≠ [] := by
            intro e
            have h3 := congrArg List.length e
            rw [List.length_take, List.length_nil] at h3
            have h4 := List.length_pos_iff.2 hne
            omega
          rw [Clean.step hn, decode_cut l _ hne h1 (by omega)]
          refine ⟨h1, ?_⟩
          rw [List.drop_take, Nat.add_sub_cancel_left]
          exact e2
  obtain ⟨p, e1, e2⟩ := key l h j
  refine ⟨p, ?_, e2⟩
  unfold runesBytes
  rw [bytes_cons]
  rw [e1]
  rfl
end Go.Proofs.YtennefdcjgjpiaaDoor
