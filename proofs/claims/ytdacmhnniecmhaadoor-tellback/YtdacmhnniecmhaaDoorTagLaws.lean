/-
  What is read is formed again as the same bytes; what is formed is read as it was; cut off between two runes all that is whole is read, and the rest is open: plain mathematics, of no program.
-/
import Derived.Test.YtdacmhnniecmhaaDoorTagNext
import Derived.Test.YtdacmhnniecmhaaDoorTagRows
namespace Go.Proofs.YtdacmhnniecmhaaDoor
open Go.Lib

/-- The forms of fields, one behind the other. -/
def cat : List Fd → List UInt8
  | [] => []
  | f :: r => (formE f).1 ++ cat r
def AllOk (L : List Fd) : Prop := ∀ f ∈ L, (formE f).2 = 0
theorem AllOk.cons {f : Fd} {r : List Fd} : AllOk (f :: r) ↔ (formE f).2 = 0 ∧ AllOk r := by
  unfold AllOk
  simp
theorem formsA_all : ∀ (L : List Fd) (acc : List UInt8), AllOk L → formsA L acc = (acc ++ cat L, 0)
  | [], acc, _ => by simp [formsA, cat]
  | f :: r, acc, h => by
    obtain ⟨h1, h2⟩ := AllOk.cons.1 h
    rw [formsA, if_pos h1, formsA_all r _ h2, cat, List.append_assoc]
theorem formsA_inv : ∀ (L : List Fd) (acc x : List UInt8), formsA L acc = (x, 0) → AllOk L
  | [], _, _, _ => fun f hf => absurd hf (by simp)
  | f :: r, acc, x, h => by
    rw [formsA] at h
    by_cases h1 : (formE f).2 = 0
    · rw [if_pos h1] at h
      exact AllOk.cons.2 ⟨h1, formsA_inv r _ _ h⟩
    · rw [if_neg h1] at h
      simp only [Prod.mk.injEq] at h
      exact absurd h.2 h1
/-- What was formed. -/
theorem forms_inv {L : List Fd} {x : List UInt8} (h : formsE L = (x, 0)) : L.length ≤ 64 ∧ AllOk L ∧ x = cat L := by
  unfold formsE at h
  by_cases h1 : 64 < L.length
  · rw [if_pos h1] at h
    simp at h
  · rw [if_neg h1] at h
    have h2 := formsA_inv L [] x h
    rw [formsA_all L [] h2] at h
    simp only [List.nil_append, Prod.mk.injEq, and_true] at h
    exact ⟨by omega, h2, h.symm⟩
theorem formsA_err : ∀ (L : List Fd) (acc : List UInt8), (formsA L acc).2 ≠ 0 → (formsA L acc).1 = []
  | [], acc, h => by simp [formsA] at h
  | f :: r, acc, h => by
    rw [formsA] at h ⊢
    by_cases h1 : (formE f).2 = 0
    · rw [if_pos h1] at h ⊢
      exact formsA_err r _ h
    · rw [if_neg h1]
theorem forms_err {L : List Fd} (h : (formsE L).2 ≠ 0) : (formsE L).1 = [] := by
  unfold formsE at h ⊢
  by_cases h1 : 64 < L.length
  · rw [if_pos h1]
  · rw [if_neg h1] at h ⊢
    exact formsA_err L [] h
/-- What is read is formed again as the same bytes. -/
theorem fieldsA_one : ∀ (k : Nat) (l : List UInt8) (acc : List Fd) (at_ : Nat), ∃ new n, (fieldsA k l acc at_).1 = acc ++ new ∧ (fieldsA k l acc at_).2.1 = at_ + n ∧ n ≤ l.length ∧ new.length ≤ k ∧ AllOk new ∧ cat new = l.take n
  | 0, l, acc, at_ => by
    refine ⟨[], 0, ?_, ?_, by omega, by simp, fun f hf => absurd hf (by simp), by simp [cat]⟩
    · rw [fieldsA]; split <;> simp
    · rw [fieldsA]; split <;> simp
  | k + 1, l, acc, at_ => by
    by_cases h0 : l = []
    · rw [fieldsA, if_pos h0]
      exact ⟨[], 0, by simp, by simp, by omega, by simp, fun f hf => absurd hf (by simp), by simp [cat]⟩
    by_cases h1 : (nextL l).2.2 = 0
    · rw [fieldsA, if_neg h0, if_pos h1]
      obtain ⟨f1, f2, f3⟩ := next_form h1
      obtain ⟨new, n, g1, g2, g3, g4, g5, g6⟩ := fieldsA_one k (l.drop (nextL l).2.1) (acc ++ [(nextL l).1]) (at_ + (nextL l).2.1)
      rw [List.length_drop] at g3
      refine ⟨(nextL l).1 :: new, (nextL l).2.1 + n, ?_, ?_, by omega, by simp; omega, AllOk.cons.2 ⟨by rw [f1], g5⟩, ?_⟩
      · rw [g1, List.append_assoc]; rfl
      · rw [g2]; omega
      · rw [cat, f1, g6, List.take_add]
    · rw [fieldsA, if_neg h0, if_neg h1]
      exact ⟨[], 0, by simp, by simp, by omega, by simp, fun f hf => absurd hf (by simp), by simp [cat]⟩
theorem fields_one (l : List UInt8) : formsE (fieldsL l).1 = (l.take (fieldsL l).2.1, 0) ∧ (fieldsL l).2.1 ≤ l.length ∧ AllOk (fieldsL l).1 := by
  obtain ⟨new, n, g1, g2, g3, g4, g5, g6⟩ := fieldsA_one 64 l [] 0
  rw [List.nil_append] at g1
  rw [Nat.zero_add] at g2
  unfold fieldsL
  rw [g1, g2]
  refine ⟨?_, g3, g5⟩
  unfold formsE
  rw [if_neg (by omega), formsA_all new [] g5, List.nil_append, g6]
theorem ok_form {f : Fd} (h : (formE f).2 = 0) : formE f = ((formE f).1, 0) := Prod.ext rfl h
theorem ok_size {L : List Fd} (h : AllOk L) (i : Nat) (hi : i < L.length) : (L[i]).2.size ≤ 512 := by
  have := (formE_ok (ok_form (h L[i] (List.getElem_mem hi)))).2.2.1.2.1
  rw [size_eq]
  exact this
/-- What is formed is read as it was. -/
theorem fieldsA_back : ∀ (L : List Fd) (k : Nat) (acc : List Fd) (at_ : Nat), AllOk L → L.length ≤ k → fieldsA k (cat L) acc at_ = (acc ++ L, at_ + (cat L).length, 0)
  | [], k, acc, at_, _, _ => by
    rw [fieldsA_end (show cat [] = [] from rfl)]
    simp [cat]
  | f :: r, k, acc, at_, h, hk => by
    obtain ⟨h1, h2⟩ := AllOk.cons.1 h
    obtain ⟨n1, n2⟩ := form_next (cat r) (ok_form h1)
    rw [List.length_cons] at hk
    have hne : cat (f :: r) ≠ [] := by rw [cat]; simp [n2]
    rw [fieldsA_ok hne acc at_ (by omega) (by rw [cat, n1]), cat, n1]
    dsimp only
    rw [List.drop_left' rfl, fieldsA_back r (k - 1) _ _ h2 (by omega), List.append_assoc, List.length_append]
    simp only [List.cons_append, List.nil_append, Prod.mk.injEq, true_and, and_true]
    omega

/-- No rune of a text is the one for a byte that is out of place. -/
def Clean (l : List UInt8) : Prop := ∀ c ∈ runesL l, c ≠ 65533
theorem Clean.nil : Clean [] := fun c h => by rw [runesL_nil] at h; cases h
theorem Clean.step {l : List UInt8} (h : l ≠ []) : Clean l ↔ (decodeL l).1 ≠ 65533 ∧ Clean (l.drop (decodeL l).2) := by
  unfold Clean
  rw [runesL_step h]
  simp
theorem clean_append (x y : List UInt8) (h : Clean x) : Clean (x ++ y) ↔ Clean y := by
  refine byRunes (C := fun x => Clean x → (Clean (x ++ y) ↔ Clean y)) (fun _ => by simp) (fun x hne ih hx => ?_) x h
  obtain ⟨h1, h2⟩ := (Clean.step hne).1 hx
  have he := decode_ext x y hne h1
  have hle := decodeL_le x hne
  rw [Clean.step (by simp [hne]), he, List.drop_append_of_le_length hle, ih h2]
  exact ⟨fun k => k.2, fun k => ⟨h1, k⟩⟩
theorem clean_ascii : ∀ l : List UInt8, (∀ c ∈ l, c.toNat < 128) → Clean l
  | [], _ => Clean.nil
  | c :: l, h => by
    have hc := h c (by simp)
    rw [Clean.step (by simp), decode_one c l hc]
    exact ⟨by omega, clean_ascii l (fun d hd => h d (by simp [hd]))⟩
theorem clean_may {l : List UInt8} (h : AllMay l) : Clean l := fun c hc => may_right (h c hc)
/-- A clean beginning of a text whose runes may stand in a value is such a text. -/
theorem may_begin (p q : List UInt8) (h : AllMay (p ++ q)) (hc : Clean p) : AllMay p := by
  refine byRunes (C := fun p => AllMay (p ++ q) → Clean p → AllMay p) (fun _ _ => AllMay.nil) (fun p hne ih ha hc => ?_) p h hc
  obtain ⟨h1, h2⟩ := (Clean.step hne).1 hc
  have he := decode_ext p q hne h1
  have hle := decodeL_le p hne
  obtain ⟨a1, a2⟩ := (AllMay.step (by simp [hne])).1 ha
  rw [he] at a1 a2
  rw [List.drop_append_of_le_length hle] at a2
  exact (AllMay.step hne).2 ⟨a1, ih a2 h2⟩
theorem digits_ascii : ∀ n, ∀ c ∈ decDigits n, c.toNat < 128 := by
  intro n
  induction n using Nat.strongRecOn with
  | ind n ih =>
    intro c hc
    by_cases h : n < 10
    · rw [decDigits_one h, List.mem_singleton] at hc
      rw [hc, byte_ofNat (by omega)]
      omega
    · rw [decDigits, dif_neg h, List.mem_append, List.mem_singleton] at hc
      rcases hc with hc | hc
      · exact ih (n / 10) (by omega) c hc
      · rw [hc, byte_ofNat (by omega)]
        omega
theorem head_clean (n : Nat) : Clean (decDigits n ++ [61]) := clean_ascii _ (fun c hc => by
  rw [List.mem_append, List.mem_singleton] at hc
  rcases hc with hc | rfl
  · exact digits_ascii n c hc
  · decide)
theorem form_split (D V : List UInt8) : D ++ 61 :: (V ++ [1]) = (D ++ [61]) ++ (V ++ [1]) := by simp
theorem form_clean {f : Fd} {x : List UInt8} (h : formE f = (x, 0)) : Clean x := by
  obtain ⟨_, _, hv, rfl⟩ := formE_ok h
  rw [form_split, clean_append _ _ (head_clean _), clean_append _ _ (clean_may hv.2.2)]
  exact clean_ascii _ (fun c hc => by rw [List.mem_singleton] at hc; subst hc; decide)
theorem cat_clean : ∀ L : List Fd, AllOk L → Clean (cat L)
  | [], _ => Clean.nil
  | f :: r, h => by
    obtain ⟨h1, h2⟩ := AllOk.cons.1 h
    rw [cat, clean_append _ _ (form_clean (ok_form h1))]
    exact cat_clean r h2
/-- Digits that are cut off. -/
theorem tag_cut : ∀ (p q : List UInt8) (k num N b : Nat), tagR (p ++ q) k num = (N, b, 0) → k + p.length < b → tagR p k num = (0, 0, 82)
  | [], _, _, _, _, _, _, _ => rfl
  | c :: p, q, k, num, N, b, h, hb => by
    rw [List.cons_append, tagR] at h
    rw [tagR]
    rw [List.length_cons] at hb
    by_cases g1 : 0 < k ∧ c.toNat = 61
    · rw [if_pos g1] at h
      simp only [Prod.mk.injEq] at h
      omega
    · rw [if_neg g1] at h ⊢
      by_cases g2 : c.toNat < 48 ∨ 57 < c.toNat ∨ (k = 0 ∧ c.toNat = 48)
      · rw [if_pos g2] at h
        simp at h
      · rw [if_neg g2] at h ⊢
        by_cases g3 : 99999 < 10 * num + (c.toNat - 48)
        · rw [if_pos g3] at h
          simp at h
        · rw [if_neg g3] at h ⊢
          exact tag_cut p q _ _ N b h (by omega)
/-- A form that is cut off is open. -/
theorem next_cut {f : Fd} {x y z : List UInt8} (h : formE f = (x, 0)) (hx : x = y ++ z) (hz : z ≠ []) (hc : Clean y) : nextL y = (none8, 0, 82) := by
  obtain ⟨h1, h2, hv, hxe⟩ := formE_ok h
  obtain ⟨t, v⟩ := f
  dsimp only at *
  obtain ⟨n, rfl⟩ : ∃ n : Nat, t = (n : Int) := ⟨t.toNat, by omega⟩
  rw [Int.toNat_natCast] at hxe
  generalize v.data.toList = V at *
  have hp := digits_pos n
  have et : tagR x 0 0 = (n, (decDigits n).length + 1, 0) := by
    rw [hxe, tag_digits n _ (by omega) (by omega)]
    rw [tagR, if_pos ⟨by omega, rfl⟩]
  by_cases hy : y.length < (decDigits n).length + 1
  · rw [hx] at et
    have := tag_cut y z 0 0 _ _ et (by omega)
    rw [next_bad (by rw [this]; decide), this]
  · have hxs : x = (decDigits n ++ [61]) ++ (V ++ [1]) := by rw [hxe]; exact form_split _ _
    have hz0 := List.length_pos_iff.2 hz
    have hlx : x.length = (decDigits n).length + 1 + (V.length + 1) := by rw [hxs]; simp; omega
    have hly : x.length = y.length + z.length := by rw [hx]; simp
    obtain ⟨j, hj⟩ : ∃ j, y.length = (decDigits n).length + 1 + j := ⟨y.length - ((decDigits n).length + 1), by omega⟩
    have ey : y = (decDigits n ++ [61]) ++ V.take j := by
      have e1 : y = x.take y.length := by rw [hx, List.take_left' rfl]
      rw [e1, hj, hxs, List.take_append]
      have e2 : (decDigits n ++ [61]).length = (decDigits n).length + 1 := by simp
      rw [List.take_of_length_le (by rw [e2]; omega), e2, Nat.add_sub_cancel_left, List.take_append_of_le_length (by omega)]
    have hcv : Clean (V.take j) := by
      rw [ey] at hc
      exact (clean_append _ _ (head_clean n)).1 hc
    have ham : AllMay (V.take j) := may_begin (V.take j) (V.drop j) (by rw [List.take_append_drop]; exact hv.2.2) hcv
    have ett : tagR y 0 0 = (n, (decDigits n).length + 1, 0) := by
      rw [ey, List.append_assoc, tag_digits n _ (by omega) (by omega)]
      rw [List.cons_append, tagR, if_pos ⟨by omega, rfl⟩]
    have ed : y.drop ((decDigits n).length + 1) = V.take j := by
      rw [ey, List.drop_left']
      simp
    have hlen : (V.take j).length ≤ 512 := by rw [List.length_take]; have := hv.2.1; omega
    have hval : valL (V.take j) = ([], 82) := by
      unfold valL
      rw [if_pos ((val_run hlen).2 ham)]
    rw [next_good ett, ed, hval]
    rfl
/-- Cut off between two runes all that is whole is read, and the rest is open. -/
theorem fieldsA_cut : ∀ (L : List Fd) (b c : List UInt8) (k : Nat) (acc : List Fd) (at_ : Nat), AllOk L → L.length ≤ k → cat L = b ++ c → Clean b →
    ∃ m n g, fieldsA k b acc at_ = (acc ++ L.take m, at_ + n, g) ∧ m ≤ L.length ∧ (g = 0 ∧ n = b.length ∨ g = 82 ∧ n < b.length)
  | [], b, c, k, acc, at_, _, _, hb, _ => by
    have : b = [] := (List.append_eq_nil_iff.1 hb.symm).1
    subst this
    exact ⟨0, 0, 0, by rw [fieldsA_end rfl]; simp, by simp, .inl ⟨rfl, rfl⟩⟩
  | f :: r, b, c, k, acc, at_, h, hk, hb, hc => by
    obtain ⟨h1, h2⟩ := AllOk.cons.1 h
    rw [List.length_cons] at hk
    have hf := ok_form h1
    rw [cat] at hb
    by_cases h0 : b = []
    · exact ⟨0, 0, 0, by rw [fieldsA_end h0]; simp, by simp, .inl ⟨rfl, by rw [h0]; rfl⟩⟩
    by_cases hlen : b.length < (formE f).1.length
    · have hz : (formE f).1 = b ++ (formE f).1.drop b.length := by
        have e : (formE f).1.take b.length = b := by
          have := congrArg (List.take b.length) hb
          rw [List.take_append_of_le_length (by omega), List.take_left' rfl] at this
          exact this
        have e2 := List.take_append_drop b.length (formE f).1
        rw [e] at e2
        exact e2.symm
      have hn := next_cut hf hz (drop_ne hlen) hc
      refine ⟨0, 0, 82, ?_, by simp, .inr ⟨rfl, List.length_pos_iff.2 h0⟩⟩
      rw [fieldsA_err h0 acc at_ (by omega) (by rw [hn]; decide), hn]
      simp
    · have hz : b = (formE f).1 ++ b.drop (formE f).1.length := by
        have e : b.take (formE f).1.length = (formE f).1 := by
          have := congrArg (List.take (formE f).1.length) hb
          rw [List.take_left' rfl, List.take_append_of_le_length (by omega)] at this
          exact this.symm
        have e2 := List.take_append_drop (formE f).1.length b
        rw [e] at e2
        exact e2.symm
      obtain ⟨n1, n2⟩ := form_next (b.drop (formE f).1.length) hf
      rw [← hz] at n1
      have hc2 : Clean (b.drop (formE f).1.length) := by
        rw [hz] at hc
        exact (clean_append _ _ (form_clean hf)).1 hc
      have hb2 : cat r = b.drop (formE f).1.length ++ c := by
        have := congrArg (List.drop (formE f).1.length) hb
        rw [List.drop_left' rfl, List.drop_append_of_le_length (by omega)] at this
        exact this
      obtain ⟨m, n, g, e1, e2, e3⟩ := fieldsA_cut r (b.drop (formE f).1.length) c (k - 1) (acc ++ [f]) (at_ + (formE f).1.length) h2 (by omega) hb2 hc2
      rw [List.length_drop] at e3
      refine ⟨m + 1, (formE f).1.length + n, g, ?_, by simp; omega, ?_⟩
      · rw [fieldsA_ok h0 acc at_ (by omega) (by rw [n1]), n1]
        dsimp only
        rw [e1]
        simp
        omega
      · rcases e3 with ⟨rfl, e3⟩ | ⟨rfl, e3⟩
        · exact .inl ⟨rfl, by omega⟩
        · exact .inr ⟨rfl, by omega⟩
end Go.Proofs.YtdacmhnniecmhaaDoor
