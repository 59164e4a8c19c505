/-
  Plain mathematics of seats: names in order beside the slots that they have.
-/
import Derived.Test.YtfphjhmhiaepiaaSeatRow
namespace Go.Proofs.Ytfphjhmhiaepiaa
open Go.ChangeShapes Go.WideShapes Go.ChangeAt Go.RowKit Go.Lib

def nmOf (L : List (ByteArray × Nat)) (j : Nat) : ByteArray := (L.getD j (none4, 0)).1
def slOf (L : List (ByteArray × Nat)) (j : Nat) : Nat := (L.getD j (none4, 0)).2
theorem nmOf_at {L : List (ByteArray × Nat)} {j : Nat} (h : j < L.length) : nmOf L j = L[j].1 := by simp [nmOf, h]
theorem slOf_at {L : List (ByteArray × Nat)} {j : Nat} (h : j < L.length) : slOf L j = L[j].2 := by simp [slOf, h]

/-- The seats are those of the slots, in the order of their names. -/
structure Seated (room : Nat) (sl : Nat → ByteArray) (L : List (ByteArray × Nat)) : Prop where
  sorted : ∀ a b, a < b → b < L.length → Lt (nmOf L a) (nmOf L b)
  mem : ∀ i, i < room → sl i ≠ none4 → (sl i, i) ∈ L
  back : ∀ x, x ∈ L → x.2 < room ∧ sl x.2 = x.1 ∧ x.1 ≠ none4

theorem few_of_nodup : ∀ (room : Nat) (l : List Nat), l.Nodup → (∀ x ∈ l, x < room) → l.length ≤ room
  | 0, [], _, _ => Nat.le_refl _
  | 0, x :: l, _, h => absurd (h x (by simp)) (by omega)
  | room + 1, l, hn, h => by
    by_cases hm : room ∈ l
    · have := few_of_nodup room (l.erase room) (hn.erase room) (fun x hx => by
        have h1 := (hn.mem_erase_iff).1 hx
        have := h x h1.2
        have := h1.1
        omega)
      rw [List.length_erase_of_mem hm] at this
      omega
    · have := few_of_nodup room l hn (fun x hx => by
        have := h x hx
        have : x ≠ room := fun e => hm (e ▸ hx)
        omega)
      omega
theorem Seated.le {room : Nat} {sl : Nat → ByteArray} {L : List (ByteArray × Nat)} (h : Seated room sl L) : L.length ≤ room := by
  have := few_of_nodup room (L.map Prod.snd) (by
    unfold List.Nodup
    rw [List.pairwise_map, List.pairwise_iff_getElem]
    intro a b ha hb hab e
    have h1 := (h.back _ (List.getElem_mem ha)).2.1
    have h2 := (h.back _ (List.getElem_mem hb)).2.1
    rw [e, h2] at h1
    have := h.sorted a b hab hb
    rw [nmOf_at ha, nmOf_at hb, h1] at this
    exact Lt.irrefl _ this) (fun x hx => by
    obtain ⟨y, hy, rfl⟩ := List.mem_map.1 hx
    exact (h.back y hy).1)
  simpa using this
theorem place_ex (nm : Nat → ByteArray) (name : ByteArray) : ∀ n, (∀ a b, a < b → b < n → Lt (nm a) (nm b)) → ∃ K, Place nm n name K
  | 0, _ => ⟨0, Nat.le_refl _, fun j h => absurd h (by omega), fun j _ h => absurd h (by omega)⟩
  | n + 1, hs => by
    obtain ⟨K, h⟩ := place_ex nm name n (fun a b hab hb => hs a b hab (by omega))
    by_cases hK : K < n
    · refine ⟨K, by omega, h.low, fun j h1 h2 => ?_⟩
      by_cases e : j = n
      · subst e
        intro k
        exact h.high K (Nat.le_refl _) hK ((hs K j (by omega) (by omega)).trans k)
      · exact h.high j h1 (by omega)
    · have := h.le
      obtain rfl : K = n := by omega
      by_cases hl : Lt (nm K) name
      · refine ⟨K + 1, Nat.le_refl _, fun j hj => ?_, fun j h1 h2 => absurd h1 (by omega)⟩
        by_cases e : j = K
        · subst e; exact hl
        · exact h.low j (by omega)
      · exact ⟨K, by omega, h.low, fun j h1 h2 => by
          obtain rfl : j = K := by omega
          exact hl⟩
theorem Seated.place {room : Nat} {sl : Nat → ByteArray} {L : List (ByteArray × Nat)} (h : Seated room sl L) (name : ByteArray) : ∃ K, Place (nmOf L) L.length name K := place_ex _ name _ h.sorted
/-- A name that has a slot is found at its place. -/
theorem Seated.found {room : Nat} {sl : Nat → ByteArray} {L : List (ByteArray × Nat)} (h : Seated room sl L) {name : ByteArray} {K i : Nat} (hK : Place (nmOf L) L.length name K) (hi : i < room) (e : sl i = name) (hne : name ≠ none4) :
    K < L.length ∧ nmOf L K = name ∧ slOf L K = i := by
  have hm := h.mem i hi (by rw [e]; exact hne)
  rw [e] at hm
  obtain ⟨j, hj, ej⟩ := List.getElem_of_mem hm
  have nj : nmOf L j = name := by rw [nmOf_at hj, ej]
  have h1 : ¬ j < K := fun hl => by
    have := hK.low j hl
    rw [nj] at this
    exact Lt.irrefl _ this
  have h2 : ¬ K < j := fun hl => by
    have := h.sorted K j hl hj
    rw [nj] at this
    exact hK.high K (Nat.le_refl _) (by omega) this
  obtain rfl : j = K := by omega
  exact ⟨hj, nj, by rw [slOf_at hj, ej]⟩
theorem Seated.at {room : Nat} {sl : Nat → ByteArray} {L : List (ByteArray × Nat)} (h : Seated room sl L) {K : Nat} (hK : K < L.length) : slOf L K < room ∧ sl (slOf L K) = nmOf L K ∧ nmOf L K ≠ none4 := by
  rw [slOf_at hK, nmOf_at hK]
  exact h.back _ (List.getElem_mem hK)

theorem nmOf_putAt {L : List (ByteArray × Nat)} {K : Nat} {x : ByteArray × Nat} (hK : K ≤ L.length) (j : Nat) : nmOf (putAt L K x) j = if j < K then nmOf L j else if j = K then x.1 else nmOf L (j - 1) := by
  unfold nmOf putAt
  simp only [List.getD_eq_getElem?_getD, List.getElem?_append, List.length_take]
  by_cases h1 : j < K
  · rw [if_pos (by omega), if_pos h1, List.getElem?_take, if_pos h1]
  · rw [if_neg (by omega), if_neg h1]
    by_cases h2 : j = K
    · subst h2
      rw [if_pos rfl, show j - min j L.length = 0 by omega]
      rfl
    · rw [if_neg h2, show j - min K L.length = (j - K - 1) + 1 by omega, List.getElem?_cons_succ, List.getElem?_drop, show K + (j - K - 1) = j - 1 by omega]
theorem mem_putAt {L : List (ByteArray × Nat)} {K : Nat} {x y : ByteArray × Nat} : y ∈ putAt L K x ↔ y = x ∨ y ∈ L := by
  unfold putAt
  rw [List.mem_append, List.mem_cons]
  constructor
  · rintro (h | h | h)
    · exact .inr (List.mem_of_mem_take h)
    · exact .inl h
    · exact .inr (List.mem_of_mem_drop h)
  · rintro (h | h)
    · exact .inr (.inl h)
    · rw [← List.take_append_drop K L, List.mem_append] at h
      rcases h with h | h
      · exact .inl h
      · exact .inr (.inr h)
theorem Seated.put {room : Nat} {sl : Nat → ByteArray} {L : List (ByteArray × Nat)} (h : Seated room sl L) {name : ByteArray} {K i : Nat} (hK : Place (nmOf L) L.length name K) (hne : name ≠ none4) (hno : ∀ j, j < room → sl j ≠ name) (hi : i < room) (hf : sl i = none4) :
    Seated room (upd sl i name) (putAt L K (name, i)) := by
  have hup : ∀ j, K ≤ j → j < L.length → Lt name (nmOf L j) := fun j h1 h2 => by
    rcases Lt.total name (nmOf L j) with e | e | e
    · exact e
    · have := h.at h2
      exact absurd (this.2.1.trans e.symm) (hno _ this.1)
    · exact absurd e (hK.high j h1 h2)
  refine ⟨fun a b hab hb => ?_, fun j hj hn => ?_, fun y hy => ?_⟩
  · rw [putAt_length _ _ _ hK.le] at hb
    rw [nmOf_putAt hK.le, nmOf_putAt hK.le]
    by_cases a1 : a < K
    · rw [if_pos a1]
      by_cases b1 : b < K
      · rw [if_pos b1]; exact h.sorted a b hab (by have := hK.le; omega)
      · rw [if_neg b1]
        by_cases b2 : b = K
        · rw [if_pos b2]; exact hK.low a a1
        · rw [if_neg b2]; exact h.sorted a (b - 1) (by omega) (by omega)
    · rw [if_neg a1, if_neg (by omega : ¬ b < K), if_neg (by omega : ¬ b = K)]
      by_cases a2 : a = K
      · rw [if_pos a2]; exact hup _ (by omega) (by omega)
      · rw [if_neg a2]; exact h.sorted (a - 1) (b - 1) (by omega) (by omega)
  · rw [mem_putAt]
    by_cases e : j = i
    · subst e; rw [upd_same]; exact .inl rfl
    · rw [upd_other _ _ e] at hn ⊢
      exact .inr (h.mem j hj hn)
  · rcases mem_putAt.1 hy with rfl | hy
    · exact ⟨hi, upd_same _ _ _, hne⟩
    · obtain ⟨h1, h2, h3⟩ := h.back y hy
      refine ⟨h1, ?_, h3⟩
      rw [upd_other]
      · exact h2
      · intro e
        rw [e, hf] at h2
        exact h3 h2.symm
theorem nmOf_dropAt {L : List (ByteArray × Nat)} {K : Nat} (hK : K < L.length) (j : Nat) : nmOf (dropAt L K) j = if j < K then nmOf L j else nmOf L (j + 1) := by
  unfold nmOf dropAt
  simp only [List.getD_eq_getElem?_getD, List.getElem?_append, List.length_take]
  by_cases h1 : j < K
  · rw [if_pos (by omega), if_pos h1, List.getElem?_take, if_pos h1]
  · rw [if_neg (by omega), if_neg h1, List.getElem?_drop, show K + 1 + (j - min K L.length) = j + 1 by omega]
theorem mem_dropAt {L : List (ByteArray × Nat)} {K : Nat} {y : ByteArray × Nat} (hK : K < L.length) (h : y ∈ L) (hne : y ≠ L[K]) : y ∈ dropAt L K := by
  unfold dropAt
  rw [← List.take_append_drop K L, List.mem_append, List.drop_eq_getElem_cons hK, List.mem_cons] at h
  rw [List.mem_append]
  rcases h with h | h | h
  · exact .inl h
  · exact absurd h hne
  · exact .inr h
theorem of_mem_dropAt {L : List (ByteArray × Nat)} {K : Nat} {y : ByteArray × Nat} (h : y ∈ dropAt L K) : ∃ j, ∃ hj : j < L.length, j ≠ K ∧ y = L[j] := by
  unfold dropAt at h
  rw [List.mem_append] at h
  rcases h with h | h
  · obtain ⟨j, hj, rfl⟩ := List.getElem_of_mem h
    rw [List.length_take] at hj
    exact ⟨j, by omega, by omega, by simp⟩
  · obtain ⟨j, hj, rfl⟩ := List.getElem_of_mem h
    rw [List.length_drop] at hj
    exact ⟨K + 1 + j, by omega, by omega, by simp⟩
theorem Seated.one {room : Nat} {sl : Nat → ByteArray} {L : List (ByteArray × Nat)} (h : Seated room sl L) {a b : Nat} (ha : a < L.length) (hb : b < L.length) (e : slOf L a = slOf L b) : a = b := by
  have h1 := (h.at ha).2.1
  have h2 := (h.at hb).2.1
  rw [e, h2] at h1
  rcases Nat.lt_trichotomy a b with k | k | k
  · have := h.sorted a b k hb; rw [h1] at this; exact absurd this (Lt.irrefl _)
  · exact k
  · have := h.sorted b a k ha; rw [h1] at this; exact absurd this (Lt.irrefl _)
theorem Seated.drop {room : Nat} {sl : Nat → ByteArray} {L : List (ByteArray × Nat)} (h : Seated room sl L) {K : Nat} (hK : K < L.length) : Seated room (upd sl (slOf L K) none4) (dropAt L K) := by
  refine ⟨fun a b hab hb => ?_, fun j hj hn => ?_, fun y hy => ?_⟩
  · rw [dropAt_length _ _ hK] at hb
    rw [nmOf_dropAt hK, nmOf_dropAt hK]
    by_cases a1 : a < K
    · rw [if_pos a1]
      by_cases b1 : b < K
      · rw [if_pos b1]; exact h.sorted a b hab (by omega)
      · rw [if_neg b1]; exact h.sorted a (b + 1) (by omega) (by omega)
    · rw [if_neg a1, if_neg (by omega : ¬ b < K)]
      exact h.sorted (a + 1) (b + 1) (by omega) (by omega)
  · by_cases e : j = slOf L K
    · subst e; rw [upd_same] at hn; exact absurd rfl hn
    · rw [upd_other _ _ e] at hn ⊢
      refine mem_dropAt hK (h.mem j hj hn) (fun e' => e ?_)
      rw [slOf_at hK, ← e']
  · obtain ⟨j, hj, hjK, rfl⟩ := of_mem_dropAt hy
    obtain ⟨h1, h2, h3⟩ := h.back _ (List.getElem_mem hj)
    refine ⟨h1, ?_, h3⟩
    rw [upd_other]
    · exact h2
    · intro e
      exact hjK (h.one hj hK (by rw [slOf_at hj, e]))
theorem Seated.new (room : Nat) : Seated room (fun _ => none4) [] :=
  ⟨fun a b _ h => absurd h (by simp), fun i _ h => absurd rfl h, fun x h => absurd h (by simp)⟩
theorem vld_ne {s : ByteArray} (h : vldB s = true) : s ≠ none4 := by
  rintro rfl
  revert h
  decide
end Go.Proofs.Ytfphjhmhiaepiaa
