/-
  The row of seats in memory; what one more and one less make of it, and what they leave alone.
-/
import Derived.Maps.AppendAt
import Derived.Test.YtfphjhmhiaepiaaGreatKE
namespace Go.Proofs.YtfphjhmhiaepiaaGreat
open Go.ChangeShapes Go.WideShapes Go.ChangeAt Go.RowKit Go.Lib

/-- The row of seats L in block s, with room for c. -/
structure SeatRow (w : World) (s c : Nat) (L : List (ByteArray × Nat)) : Prop where
  cells : ∀ j v, (flat L)[j]? = some v → w.cell? ⟨s, j, none⟩ = some v
  spare : ∀ j, j < c * 2 → (w.cell? ⟨s, j, none⟩).isSome = true
  thaw : ∀ j, w.frozen? ⟨s, j, none⟩ = false
  fits : L.length ≤ c
  capped : c ≤ 9223372036854775807
  there : s < w.heap.size
theorem SeatRow.kept {S : Nat → Prop} {w w' : World} {s c : Nat} {L : List (ByteArray × Nat)} (h : SeatRow w s c L) (k : But S w w') (hS : ¬ S s) : SeatRow w' s c L :=
  ⟨fun j v hj => by rw [k.cell h.there hS]; exact h.cells j v hj, fun j hj => by rw [k.cell h.there hS]; exact h.spare j hj, fun j => by rw [k.frozen h.there hS]; exact h.thaw j, h.fits, h.capped, Nat.lt_of_lt_of_le h.there k.size⟩
theorem shape_of_cell {w : World} {s j : Nat} {v : Value} (h : w.cell? ⟨s, j, none⟩ = some v) : ∃ t k, w.shape? s = some (t, k) ∧ k ≠ 0 := by
  unfold World.cell? at h
  unfold World.shape?
  dsimp only at h
  split at h
  · rename_i c t m e
    refine ⟨t, c.size, rfl, fun e0 => ?_⟩
    simp [e0] at h
  · cases h
theorem set_in {w : World} {b o : Nat} {vs : List Value} (h : ∀ j, j < vs.length → (w.cell? ⟨b, o + j, none⟩).isSome = true) {j : Nat} {v : Value} (hj : vs[j]? = some v) : (w.setCells b o vs).cell? ⟨b, o + j, none⟩ = some v := by
  obtain ⟨hl, e⟩ := List.getElem?_eq_some_iff.1 hj
  rw [World.cell?_setCells_in b vs o w h j hl, e]
theorem set_out {w : World} {b o : Nat} {vs : List Value} {j : Nat} (h : j < o ∨ o + vs.length ≤ j) : (w.setCells b o vs).cell? ⟨b, j, none⟩ = w.cell? ⟨b, j, none⟩ :=
  World.cell?_setCells_out b vs o w ⟨b, j, none⟩ (fun _ _ => h)

/-- The seats with one more at place i. -/
def putAt (L : List (ByteArray × Nat)) (i : Nat) (x : ByteArray × Nat) : List (ByteArray × Nat) := L.take i ++ x :: L.drop i
theorem flat_putAt (L : List (ByteArray × Nat)) (i : Nat) (x : ByteArray × Nat) : flat (putAt L i x) = flat (L.take i) ++ (seatCells x ++ flat (L.drop i)) := by
  unfold putAt
  rw [flat_append, flat_cons]
  rfl
theorem flat_putAt_cases {L : List (ByteArray × Nat)} {i : Nat} {x : ByteArray × Nat} (hi : i ≤ L.length) {j : Nat} {v : Value} (h : (flat (putAt L i x))[j]? = some v) :
    (j < i * 2 ∧ (flat L)[j]? = some v) ∨ (∃ t, j = i * 2 + t ∧ (seatCells x)[t]? = some v) ∨ (∃ t, j = (i + 1) * 2 + t ∧ (flat (L.drop i))[t]? = some v) := by
  have hl : (flat (L.take i)).length = i * 2 := by rw [flat_length, List.length_take]; omega
  rw [flat_putAt, List.getElem?_append] at h
  by_cases h1 : j < i * 2
  · rw [if_pos (by omega), ← flat_take, List.getElem?_take, if_pos h1] at h
    exact .inl ⟨h1, h⟩
  · rw [if_neg (by omega), hl, List.getElem?_append] at h
    by_cases h2 : j - i * 2 < 2
    · rw [if_pos (by rw [seat_length]; exact h2)] at h
      exact .inr (.inl ⟨j - i * 2, by omega, h⟩)
    · rw [if_neg (by rw [seat_length]; exact h2), seat_length] at h
      exact .inr (.inr ⟨j - i * 2 - 2, by omega, h⟩)
theorem putAt_length (L : List (ByteArray × Nat)) (i : Nat) (x : ByteArray × Nat) (hi : i ≤ L.length) : (putAt L i x).length = L.length + 1 := by
  unfold putAt
  simp; omega

theorem insert_any (S : Option Addr) (n c i vb : Nat) (L : List (ByteArray × Nat)) (x : ByteArray × Nat) (w : World) (hcl : L.length = n) (hi : i ≤ n) (hn : n ≤ 1000000)
    (hs : (S = none ∧ n = 0 ∧ c = 0) ∨ ∃ b, S = some ⟨b, 0, none⟩ ∧ SeatRow w b c L ∧ vb ≠ b)
    (hvs : ∀ j v, (seatCells x)[j]? = some v → w.cell? ⟨vb, j, none⟩ = some v) (hvf : ∀ j, w.frozen? ⟨vb, j, none⟩ = false) :
    Calls Tryz.prog 85 #[.slice S n c, .int .i64 (i : Int), .slice (some ⟨vb, 0, none⟩) 1 1] w fun e w' =>
      ∃ b' c', e = .returned (.slice (some ⟨b', 0, none⟩) (n + 1) c') ∧ SeatRow w' b' c' (putAt L i x) ∧ But (fun k => S = some ⟨k, 0, none⟩) w w' ∧ (S = some ⟨b', 0, none⟩ ∨ w.heap.size ≤ b') := by
  obtain ⟨tA, kA, hsa, _⟩ := shape_of_cell (hvs 0 _ rfl)
  have hvw : vb < w.heap.size := World.block_lt_of_cell? _ _ (hvs 0 _ rfl)
  by_cases hroom : n + 1 ≤ c
  · obtain ⟨-, -, rfl⟩ | ⟨b, rfl, R, hvb⟩ := hs
    · omega
    by_cases hin : i < n
    · have hdl : (flat (L.drop i)).length = (n - i) * 2 := by rw [flat_length, List.length_drop, hcl]
      obtain ⟨v0, hv0⟩ := Option.isSome_iff_exists.1 (R.spare 0 (by omega))
      obtain ⟨tB, kB, hsb, hkB⟩ := shape_of_cell hv0
      refine (insert_shift b n c i vb L x w hin hn hroom R.capped hvb hcl R.cells R.spare (fun j _ => R.thaw j) hvs tA tB kA kB hsa hsb hkB (hvf _) (hvf _)).mono ?_
      rintro e w' ⟨rfl, rfl⟩
      have hsp1 : ∀ j, j < c * 2 → ((w.drew.setCells b ((i + 1) * 2) (flat (L.drop i))).cell? ⟨b, j, none⟩).isSome = true := fun j hj =>
        isSome_setCells b (flat (L.drop i)) ((i + 1) * 2) w.drew (fun t ht => R.spare _ (by omega)) _ (R.spare j hj)
      refine ⟨b, c, rfl, ⟨fun j v hj => ?_, fun j hj => ?_, fun j => ?_, by rw [putAt_length _ _ _ (by omega)]; omega, R.capped, ?_⟩, ?_, .inl rfl⟩
      · rcases flat_putAt_cases (by omega) hj with ⟨h1, h⟩ | ⟨t, rfl, h⟩ | ⟨t, rfl, h⟩
        · rw [set_out (.inl h1), set_out (.inl (by omega))]
          exact R.cells j v h
        · exact set_in (fun j hj => hsp1 _ (by rw [seat_length] at hj; omega)) h
        · rw [set_out (.inr (by rw [seat_length]; omega))]
          exact set_in (w := w.drew) (fun j hj => R.spare ((i + 1) * 2 + j) (by omega)) h
      · exact isSome_setCells b (seatCells x) (i * 2) _ (fun t ht => hsp1 _ (by rw [seat_length] at ht; omega)) _ (hsp1 j hj)
      · rw [World.frozen?_setCells, World.frozen?_setCells]
        exact R.thaw j
      · rw [size_setCells, size_setCells]
        exact R.there
      · exact But.setCells (S := fun k => (some ⟨b, 0, none⟩ : Option Addr) = some ⟨k, 0, none⟩) (But.setCells (But.refl _ w).drew b _ _ (fun _ => rfl)) b _ _ (fun _ => rfl)
    · obtain rfl : i = n := by omega
      refine (insert_end_room b i c vb x w hn hroom R.capped R.spare (fun j _ => R.thaw j) hvs).mono ?_
      rintro e w' ⟨rfl, rfl⟩
      refine ⟨b, c, rfl, ⟨fun j v hj => ?_, fun j hj => ?_, fun j => ?_, by rw [putAt_length _ _ _ (by omega)]; omega, R.capped, ?_⟩, ?_, .inl rfl⟩
      · rcases flat_putAt_cases (by omega) hj with ⟨h1, h⟩ | ⟨t, rfl, h⟩ | ⟨t, rfl, h⟩
        · rw [set_out (.inl h1)]
          exact R.cells j v h
        · exact set_in (fun j hj => R.spare _ (by rw [seat_length] at hj; omega)) h
        · rw [List.drop_of_length_le (by omega)] at h
          simp [flat_nil] at h
      · exact isSome_setCells b (seatCells x) (i * 2) _ (fun t ht => R.spare _ (by rw [seat_length] at ht; omega)) _ (R.spare j hj)
      · rw [World.frozen?_setCells]
        exact R.thaw j
      · rw [size_setCells]
        exact R.there
      · exact But.setCells (S := fun k => (some ⟨b, 0, none⟩ : Option Addr) = some ⟨k, 0, none⟩) (But.refl _ w) b _ _ (fun _ => rfl)
  · have hnc : n ≤ c := by
      obtain ⟨-, rfl, rfl⟩ | ⟨b, -, R, -⟩ := hs
      · omega
      · have := R.fits; omega
    have hgn : n + 1 ≤ grownCap w (n + 1) c 127 := grownCap_ge w _ _ _
    have hgm : grownCap w (n + 1) c 127 ≤ 9223372036854775807 := by
      have := grownCap_le_maxLen w (n + 1) c 127 (by unfold maxLen; omega)
      unfold maxLen at this
      omega
    by_cases hin : i < n
    · obtain ⟨-, rfl, -⟩ | ⟨b, rfl, R, hvb⟩ := hs
      · omega
      obtain rfl : c = n := by omega
      have hdl : (flat (L.drop i)).length = (c - i) * 2 := by rw [flat_length, List.length_drop, hcl]
      refine (insert_grow b c i vb L x w hin hn hcl R.cells hvs).mono ?_
      rintro e w' ⟨rfl, rfl⟩
      generalize grownCap w (c + 1) c 127 = G at *
      obtain ⟨ROW, hROW⟩ : ∃ ROW : Array Value, ROW = (flat (L.take i)).toArray ++ Builtin.zeroCells #[.string { data := #[] }, .int .i64 0] (c + 1 - i) ++ Builtin.zeroCells #[.string { data := #[] }, .int .i64 0] (G - (c + 1)) := ⟨_, rfl⟩
      rw [← hROW]
      have htl : (flat (L.take i)).length = i * 2 := by rw [flat_length, List.length_take]; omega
      have hRs : ROW.size = G * 2 := by
        rw [hROW, Array.size_append, Array.size_append, zeroSeat_size, zeroSeat_size]
        simp [htl]
        omega
      have hcell : ∀ j, (w.alloc (.cells ROW 127)).cell? ⟨w.heap.size, j, none⟩ = ROW[j]? := fun j => World.cell?_alloc_at ROW _ w.heap.size j rfl
      have hsp0 : ∀ j, j < G * 2 → (((w.alloc (.cells ROW 127)).drew).cell? ⟨w.heap.size, j, none⟩).isSome = true := fun j hj => by
        show ((w.alloc (.cells ROW 127)).cell? _).isSome = true
        rw [hcell, Array.getElem?_eq_getElem (by omega)]; rfl
      have hsp1 : ∀ j, j < G * 2 → ((((w.alloc (.cells ROW 127)).drew).setCells w.heap.size (i * 2) (seatCells x)).drew.cell? ⟨w.heap.size, j, none⟩).isSome = true := fun j hj =>
        isSome_setCells _ (seatCells x) (i * 2) _ (fun t ht => hsp0 _ (by rw [seat_length] at ht; omega)) _ (hsp0 j hj)
      refine ⟨w.heap.size, G, rfl, ⟨fun j v hj => ?_, fun j hj => ?_, fun j => ?_, by rw [putAt_length _ _ _ (by omega)]; omega, hgm, ?_⟩, ?_, .inr (Nat.le_refl _)⟩
      · rcases flat_putAt_cases (by omega) hj with ⟨h1, h⟩ | ⟨t, rfl, h⟩ | ⟨t, rfl, h⟩
        · rw [set_out (.inl (by omega))]
          show (((w.alloc (.cells ROW 127)).drew).setCells w.heap.size (i * 2) (seatCells x)).cell? _ = _
          rw [set_out (.inl h1)]
          show (w.alloc (.cells ROW 127)).cell? _ = _
          rw [hcell, hROW, Array.getElem?_append, if_pos (by rw [Array.size_append]; simp [htl]; omega), Array.getElem?_append, if_pos (by simp [htl]; omega)]
          rw [List.getElem?_toArray, ← flat_take, List.getElem?_take, if_pos h1]
          exact h
        · rw [set_out (.inl (by have := (List.getElem?_eq_some_iff.1 h).1; rw [seat_length] at this; omega))]
          exact set_in (w := (w.alloc (.cells ROW 127)).drew) (fun j hj => hsp0 _ (by rw [seat_length] at hj; omega)) h
        · exact set_in (fun j hj => hsp1 _ (by omega)) h
      · exact isSome_setCells _ (flat (L.drop i)) ((i + 1) * 2) _ (fun t ht => hsp1 _ (by omega)) _ (hsp1 j hj)
      · rw [World.frozen?_setCells]
        show (((w.alloc (.cells ROW 127)).drew).setCells w.heap.size (i * 2) (seatCells x)).frozen? _ = _
        rw [World.frozen?_setCells]
        exact World.frozen?_alloc_at (w := w) ROW _ w.heap.size j rfl
      · rw [size_setCells]
        show w.heap.size < (((w.alloc (.cells ROW 127)).drew).setCells w.heap.size (i * 2) (seatCells x)).heap.size
        rw [size_setCells]
        show w.heap.size < (w.alloc (.cells ROW 127)).heap.size
        simp
      · exact But.setCells (But.drew (But.setCells (But.drew (But.alloc (But.refl _ w) _)) _ _ _ (fun h => absurd h (Nat.lt_irrefl _)))) _ _ _ (fun h => absurd h (Nat.lt_irrefl _))
    · obtain rfl : i = n := by omega
      refine (insert_end_grow S i c vb L x w hn hnc (by omega) hcl (by
        obtain ⟨h1, h2, -⟩ | ⟨b, h1, R, -⟩ := hs
        · exact .inl ⟨h1, h2⟩
        · exact .inr ⟨b, h1, R.cells⟩) hvs).mono ?_
      rintro e w' ⟨rfl, rfl⟩
      generalize grownCap w (i + 1) c 127 = G at *
      obtain ⟨ROW, hROW⟩ : ∃ ROW : Array Value, ROW = (flat L ++ seatCells x).toArray ++ Builtin.zeroCells #[.string { data := #[] }, .int .i64 0] (G - (i + 1)) := ⟨_, rfl⟩
      rw [← hROW]
      have hRs : ROW.size = G * 2 := by
        rw [hROW, Array.size_append, zeroSeat_size]
        simp [flat_length, seat_length]
        omega
      have hcell : ∀ j, (w.drew.alloc (.cells ROW 127)).cell? ⟨w.heap.size, j, none⟩ = ROW[j]? := fun j => World.cell?_alloc_at (w := w.drew) ROW _ w.heap.size j rfl
      refine ⟨w.heap.size, G, rfl, ⟨fun j v hj => ?_, fun j hj => ?_, fun j => ?_, by rw [putAt_length _ _ _ (by omega)]; omega, hgm, ?_⟩, ?_, .inr (Nat.le_refl _)⟩
      · have hp : flat (putAt L i x) = flat L ++ seatCells x := by rw [flat_putAt, List.take_of_length_le (by omega), List.drop_of_length_le (by omega), flat_nil, List.append_nil]
        rw [hp] at hj
        rw [hcell, hROW, Array.getElem?_append, if_pos (by simpa using (List.getElem?_eq_some_iff.1 hj).1), List.getElem?_toArray]
        exact hj
      · rw [hcell, Array.getElem?_eq_getElem (by omega)]; rfl
      · exact World.frozen?_alloc_at (w := w.drew) ROW _ w.heap.size j rfl
      · show w.heap.size < (w.drew.alloc (.cells ROW 127)).heap.size
        rw [World.size_alloc]
        exact Nat.lt_succ_self _
      · exact But.alloc (But.drew (But.refl _ w)) _

/-- The seats without the one at place i. -/
def dropAt (L : List (ByteArray × Nat)) (i : Nat) : List (ByteArray × Nat) := L.take i ++ L.drop (i + 1)
theorem dropAt_length (L : List (ByteArray × Nat)) (i : Nat) (hi : i < L.length) : (dropAt L i).length = L.length - 1 := by
  unfold dropAt
  simp; omega
end Go.Proofs.YtfphjhmhiaepiaaGreat
/-
  Plain mathematics of seats: names in order beside the slots that they have.
-/
namespace Go.Proofs.YtfphjhmhiaepiaaGreat
open Go.ChangeShapes Go.WideShapes Go.ChangeAt Go.RowKit Go.Lib

def nmOf (L : List (ByteArray × Nat)) (j : Nat) : ByteArray := (L.getD j (none4, 0)).1
def slOf (L : List (ByteArray × Nat)) (j : Nat) : Nat := (L.getD j (none4, 0)).2
theorem nmOf_at {L : List (ByteArray × Nat)} {j : Nat} (h : j < L.length) : nmOf L j = L[j].1 := by simp [nmOf, h]
theorem slOf_at {L : List (ByteArray × Nat)} {j : Nat} (h : j < L.length) : slOf L j = L[j].2 := by simp [slOf, h]

/-- The seats are those of the slots, in the order of their names. -/
structure Seated (room : Nat) (sl : Nat → ByteArray) (L : List (ByteArray × Nat)) : Prop where
  sorted : ∀ a b, a < b → b < L.length → Lt (nmOf L a) (nmOf L b)
  mem : ∀ i, i < room → sl i ≠ none4 → (sl i, i) ∈ L
  back : ∀ x, x ∈ L → x.2 < room ∧ sl x.2 = x.1 ∧ x.1 ≠ none4

theorem few_of_nodup : ∀ (room : Nat) (l : List Nat), l.Nodup → (∀ x ∈ l, x < room) → l.length ≤ room
  | 0, [], _, _ => Nat.le_refl _
  | 0, x :: l, _, h => absurd (h x (by simp)) (by omega)
  | room + 1, l, hn, h => by
    by_cases hm : room ∈ l
    · have := few_of_nodup room (l.erase room) (hn.erase room) (fun x hx => by
        have h1 := (hn.mem_erase_iff).1 hx
        have := h x h1.2
        have := h1.1
        omega)
      rw [List.length_erase_of_mem hm] at this
      omega
    · have := few_of_nodup room l hn (fun x hx => by
        have := h x hx
        have : x ≠ room := fun e => hm (e ▸ hx)
        omega)
      omega
theorem Seated.le {room : Nat} {sl : Nat → ByteArray} {L : List (ByteArray × Nat)} (h : Seated room sl L) : L.length ≤ room := by
  have := few_of_nodup room (L.map Prod.snd) (by
    unfold List.Nodup
    rw [List.pairwise_map, List.pairwise_iff_getElem]
    intro a b ha hb hab e
    have h1 := (h.back _ (List.getElem_mem ha)).2.1
    have h2 := (h.back _ (List.getElem_mem hb)).2.1
    rw [e, h2] at h1
    have := h.sorted a b hab hb
    rw [nmOf_at ha, nmOf_at hb, h1] at this
    exact Lt.irrefl _ this) (fun x hx => by
    obtain ⟨y, hy, rfl⟩ := List.mem_map.1 hx
    exact (h.back y hy).1)
  simpa using this
theorem place_ex (nm : Nat → ByteArray) (name : ByteArray) : ∀ n, (∀ a b, a < b → b < n → Lt (nm a) (nm b)) → ∃ K, Place nm n name K
  | 0, _ => ⟨0, Nat.le_refl _, fun j h => absurd h (by omega), fun j _ h => absurd h (by omega)⟩
  | n + 1, hs => by
    obtain ⟨K, h⟩ := place_ex nm name n (fun a b hab hb => hs a b hab (by omega))
    by_cases hK : K < n
    · refine ⟨K, by omega, h.low, fun j h1 h2 => ?_⟩
      by_cases e : j = n
      · subst e
        intro k
        exact h.high K (Nat.le_refl _) hK ((hs K j (by omega) (by omega)).trans k)
      · exact h.high j h1 (by omega)
    · have := h.le
      obtain rfl : K = n := by omega
      by_cases hl : Lt (nm K) name
      · refine ⟨K + 1, Nat.le_refl _, fun j hj => ?_, fun j h1 h2 => absurd h1 (by omega)⟩
        by_cases e : j = K
        · subst e; exact hl
        · exact h.low j (by omega)
      · exact ⟨K, by omega, h.low, fun j h1 h2 => by
          obtain rfl : j = K := by omega
          exact hl⟩
theorem Seated.place {room : Nat} {sl : Nat → ByteArray} {L : List (ByteArray × Nat)} (h : Seated room sl L) (name : ByteArray) : ∃ K, Place (nmOf L) L.length name K := place_ex _ name _ h.sorted
/-- A name that has a slot is found at its place. -/
theorem Seated.found {room : Nat} {sl : Nat → ByteArray} {L : List (ByteArray × Nat)} (h : Seated room sl L) {name : ByteArray} {K i : Nat} (hK : Place (nmOf L) L.length name K) (hi : i < room) (e : sl i = name) (hne : name ≠ none4) :
    K < L.length ∧ nmOf L K = name ∧ slOf L K = i := by
  have hm := h.mem i hi (by rw [e]; exact hne)
  rw [e] at hm
  obtain ⟨j, hj, ej⟩ := List.getElem_of_mem hm
  have nj : nmOf L j = name := by rw [nmOf_at hj, ej]
  have h1 : ¬ j < K := fun hl => by
    have := hK.low j hl
    rw [nj] at this
    exact Lt.irrefl _ this
  have h2 : ¬ K < j := fun hl => by
    have := h.sorted K j hl hj
    rw [nj] at this
    exact hK.high K (Nat.le_refl _) (by omega) this
  obtain rfl : j = K := by omega
  exact ⟨hj, nj, by rw [slOf_at hj, ej]⟩
theorem Seated.at {room : Nat} {sl : Nat → ByteArray} {L : List (ByteArray × Nat)} (h : Seated room sl L) {K : Nat} (hK : K < L.length) : slOf L K < room ∧ sl (slOf L K) = nmOf L K ∧ nmOf L K ≠ none4 := by
  rw [slOf_at hK, nmOf_at hK]
  exact h.back _ (List.getElem_mem hK)

theorem nmOf_putAt {L : List (ByteArray × Nat)} {K : Nat} {x : ByteArray × Nat} (hK : K ≤ L.length) (j : Nat) : nmOf (putAt L K x) j = if j < K then nmOf L j else if j = K then x.1 else nmOf L (j - 1) := by
  unfold nmOf putAt
  simp only [List.getD_eq_getElem?_getD, List.getElem?_append, List.length_take]
  by_cases h1 : j < K
  · rw [if_pos (by omega), if_pos h1, List.getElem?_take, if_pos h1]
  · rw [if_neg (by omega), if_neg h1]
    by_cases h2 : j = K
    · subst h2
      rw [if_pos rfl, show j - min j L.length = 0 by omega]
      rfl
    · rw [if_neg h2, show j - min K L.length = (j - K - 1) + 1 by omega, List.getElem?_cons_succ, List.getElem?_drop, show K + (j - K - 1) = j - 1 by omega]
theorem mem_putAt {L : List (ByteArray × Nat)} {K : Nat} {x y : ByteArray × Nat} : y ∈ putAt L K x ↔ y = x ∨ y ∈ L := by
  unfold putAt
  rw [List.mem_append, List.mem_cons]
  constructor
  · rintro (h | h | h)
    · exact .inr (List.mem_of_mem_take h)
    · exact .inl h
    · exact .inr (List.mem_of_mem_drop h)
  · rintro (h | h)
    · exact .inr (.inl h)
    · rw [← List.take_append_drop K L, List.mem_append] at h
      rcases h with h | h
      · exact .inl h
      · exact .inr (.inr h)
theorem Seated.put {room : Nat} {sl : Nat → ByteArray} {L : List (ByteArray × Nat)} (h : Seated room sl L) {name : ByteArray} {K i : Nat} (hK : Place (nmOf L) L.length name K) (hne : name ≠ none4) (hno : ∀ j, j < room → sl j ≠ name) (hi : i < room) (hf : sl i = none4) :
    Seated room (upd sl i name) (putAt L K (name, i)) := by
  have hup : ∀ j, K ≤ j → j < L.length → Lt name (nmOf L j) := fun j h1 h2 => by
    rcases Lt.total name (nmOf L j) with e | e | e
    · exact e
    · have := h.at h2
      exact absurd (this.2.1.trans e.symm) (hno _ this.1)
    · exact absurd e (hK.high j h1 h2)
  refine ⟨fun a b hab hb => ?_, fun j hj hn => ?_, fun y hy => ?_⟩
  · rw [putAt_length _ _ _ hK.le] at hb
    rw [nmOf_putAt hK.le, nmOf_putAt hK.le]
    by_cases a1 : a < K
    · rw [if_pos a1]
      by_cases b1 : b < K
      · rw [if_pos b1]; exact h.sorted a b hab (by have := hK.le; omega)
      · rw [if_neg b1]
        by_cases b2 : b = K
        · rw [if_pos b2]; exact hK.low a a1
        · rw [if_neg b2]; exact h.sorted a (b - 1) (by omega) (by omega)
    · rw [if_neg a1, if_neg (by omega : ¬ b < K), if_neg (by omega : ¬ b = K)]
      by_cases a2 : a = K
      · rw [if_pos a2]; exact hup _ (by omega) (by omega)
      · rw [if_neg a2]; exact h.sorted (a - 1) (b - 1) (by omega) (by omega)
  · rw [mem_putAt]
    by_cases e : j = i
    · subst e; rw [upd_same]; exact .inl rfl
    · rw [upd_other _ _ e] at hn ⊢
      exact .inr (h.mem j hj hn)
  · rcases mem_putAt.1 hy with rfl | hy
    · exact ⟨hi, upd_same _ _ _, hne⟩
    · obtain ⟨h1, h2, h3⟩ := h.back y hy
      refine ⟨h1, ?_, h3⟩
      rw [upd_other]
      · exact h2
      · intro e
        rw [e, hf] at h2
        exact h3 h2.symm
theorem nmOf_dropAt {L : List (ByteArray × Nat)} {K : Nat} (hK : K < L.length) (j : Nat) : nmOf (dropAt L K) j = if j < K then nmOf L j else nmOf L (j + 1) := by
  unfold nmOf dropAt
  simp only [List.getD_eq_getElem?_getD, List.getElem?_append, List.length_take]
  by_cases h1 : j < K
  · rw [if_pos (by omega), if_pos h1, List.getElem?_take, if_pos h1]
  · rw [if_neg (by omega), if_neg h1, List.getElem?_drop, show K + 1 + (j - min K L.length) = j + 1 by omega]
theorem mem_dropAt {L : List (ByteArray × Nat)} {K : Nat} {y : ByteArray × Nat} (hK : K < L.length) (h : y ∈ L) (hne : y ≠ L[K]) : y ∈ dropAt L K := by
  unfold dropAt
  rw [← List.take_append_drop K L, List.mem_append, List.drop_eq_getElem_cons hK, List.mem_cons] at h
  rw [List.mem_append]
  rcases h with h | h | h
  · exact .inl h
  · exact absurd h hne
  · exact .inr h
theorem of_mem_dropAt {L : List (ByteArray × Nat)} {K : Nat} {y : ByteArray × Nat} (h : y ∈ dropAt L K) : ∃ j, ∃ hj : j < L.length, j ≠ K ∧ y = L[j] := by
  unfold dropAt at h
  rw [List.mem_append] at h
  rcases h with h | h
  · obtain ⟨j, hj, rfl⟩ := List.getElem_of_mem h
    rw [List.length_take] at hj
    exact ⟨j, by omega, by omega, by simp⟩
  · obtain ⟨j, hj, rfl⟩ := List.getElem_of_mem h
    rw [List.length_drop] at hj
    exact ⟨K + 1 + j, by omega, by omega, by simp⟩
theorem Seated.one {room : Nat} {sl : Nat → ByteArray} {L : List (ByteArray × Nat)} (h : Seated room sl L) {a b : Nat} (ha : a < L.length) (hb : b < L.length) (e : slOf L a = slOf L b) : a = b := by
  have h1 := (h.at ha).2.1
  have h2 := (h.at hb).2.1
  rw [e, h2] at h1
  rcases Nat.lt_trichotomy a b with k | k | k
  · have := h.sorted a b k hb; rw [h1] at this; exact absurd this (Lt.irrefl _)
  · exact k
  · have := h.sorted b a k ha; rw [h1] at this; exact absurd this (Lt.irrefl _)
theorem Seated.drop {room : Nat} {sl : Nat → ByteArray} {L : List (ByteArray × Nat)} (h : Seated room sl L) {K : Nat} (hK : K < L.length) : Seated room (upd sl (slOf L K) none4) (dropAt L K) := by
  refine ⟨fun a b hab hb => ?_, fun j hj hn => ?_, fun y hy => ?_⟩
  · rw [dropAt_length _ _ hK] at hb
    rw [nmOf_dropAt hK, nmOf_dropAt hK]
    by_cases a1 : a < K
    · rw [if_pos a1]
      by_cases b1 : b < K
      · rw [if_pos b1]; exact h.sorted a b hab (by omega)
      · rw [if_neg b1]; exact h.sorted a (b + 1) (by omega) (by omega)
    · rw [if_neg a1, if_neg (by omega : ¬ b < K)]
      exact h.sorted (a + 1) (b + 1) (by omega) (by omega)
  · by_cases e : j = slOf L K
    · subst e; rw [upd_same] at hn; exact absurd rfl hn
    · rw [upd_other _ _ e] at hn ⊢
      refine mem_dropAt hK (h.mem j hj hn) (fun e' => e ?_)
      rw [slOf_at hK, ← e']
  · obtain ⟨j, hj, hjK, rfl⟩ := of_mem_dropAt hy
    obtain ⟨h1, h2, h3⟩ := h.back _ (List.getElem_mem hj)
    refine ⟨h1, ?_, h3⟩
    rw [upd_other]
    · exact h2
    · intro e
      exact hjK (h.one hj hK (by rw [slOf_at hj, e]))
theorem Seated.new (room : Nat) : Seated room (fun _ => none4) [] :=
  ⟨fun a b _ h => absurd h (by simp), fun i _ h => absurd rfl h, fun x h => absurd h (by simp)⟩
theorem vld_ne {s : ByteArray} (h : vldB s = true) : s ≠ none4 := by
  rintro rfl
  revert h
  decide
end Go.Proofs.YtfphjhmhiaepiaaGreat
/-
  A roster in memory, and the contracts of roster's New, Find, Name, Count.
-/
namespace Go.Proofs.YtfphjhmhiaepiaaGreat
open Go.ChangeShapes Go.WideShapes Go.ChangeAt Go.RowKit Go.Lib

/-- The world holds at block p a roster with the slots of block q, the seats of S, the names sl by their slots and L in their order. -/
structure Ros (w : World) (p q : Nat) (S : Option Addr) (c room : Nat) (sl : Nat → ByteArray) (L : List (ByteArray × Nat)) : Prop where
  seats : w.cell? ⟨p, 0, none⟩ = some (.slice S L.length c)
  slots : w.cell? ⟨p, 1, none⟩ = some (.slice (some ⟨q, 0, none⟩) room room)
  pthaw : ∀ j, w.frozen? ⟨p, j, none⟩ = false
  slot : ∀ i, i < room → w.cell? ⟨q, i, none⟩ = some (.string (sl i))
  qthaw : ∀ j, w.frozen? ⟨q, j, none⟩ = false
  apart : p ≠ q
  row : (S = none ∧ L = [] ∧ c = 0) ∨ ∃ b, S = some ⟨b, 0, none⟩ ∧ SeatRow w b c L ∧ b ≠ p ∧ b ≠ q
  first : 0 < room
  most : room ≤ 1024
  seated : Seated room sl L
/-- The blocks that are a roster's own. -/
def own (p q : Nat) (S : Option Addr) (k : Nat) : Prop := k = p ∨ k = q ∨ S = some ⟨k, 0, none⟩
theorem Ros.pthere {w : World} {p q c room : Nat} {S : Option Addr} {sl : Nat → ByteArray} {L : List (ByteArray × Nat)} (h : Ros w p q S c room sl L) : p < w.heap.size := World.block_lt_of_cell? _ _ h.seats
theorem Ros.qthere {w : World} {p q c room : Nat} {S : Option Addr} {sl : Nat → ByteArray} {L : List (ByteArray × Nat)} (h : Ros w p q S c room sl L) : q < w.heap.size := World.block_lt_of_cell? _ _ (h.slot 0 h.first)
theorem Ros.there {w : World} {p q c room : Nat} {S : Option Addr} {sl : Nat → ByteArray} {L : List (ByteArray × Nat)} (h : Ros w p q S c room sl L) {k : Nat} (hk : own p q S k) : k < w.heap.size := by
  rcases hk with rfl | rfl | hk
  · exact h.pthere
  · exact h.qthere
  · rcases h.row with ⟨e, _⟩ | ⟨b, e, R, _⟩
    · rw [e] at hk; cases hk
    · rw [e] at hk
      injection hk with hk
      injection hk with hk
      rw [← hk]
      exact R.there
theorem Ros.kept {w w' : World} {p q c room : Nat} {S : Option Addr} {sl : Nat → ByteArray} {L : List (ByteArray × Nat)} {T : Nat → Prop} (h : Ros w p q S c room sl L) (k : But T w w') (hT : ∀ i, own p q S i → ¬ T i) : Ros w' p q S c room sl L := by
  have hp := hT p (.inl rfl)
  have hq := hT q (.inr (.inl rfl))
  refine ⟨by rw [k.cell h.pthere hp]; exact h.seats, by rw [k.cell h.pthere hp]; exact h.slots, fun j => by rw [k.frozen h.pthere hp]; exact h.pthaw j, fun i hi => by rw [k.cell h.qthere hq]; exact h.slot i hi, fun j => by rw [k.frozen h.qthere hq]; exact h.qthaw j, h.apart, ?_, h.first, h.most, h.seated⟩
  rcases h.row with e | ⟨b, e, R, hb⟩
  · exact .inl e
  · exact .inr ⟨b, e, R.kept k (hT b (.inr (.inr e))), hb⟩
theorem Ros.below {w w' : World} {p q c room : Nat} {S : Option Addr} {sl : Nat → ByteArray} {L : List (ByteArray × Nat)} (h : Ros w p q S c room sl L) (k : Below w.heap.size w w') : Ros w' p q S c room sl L :=
  h.kept (T := fun _ => False) (But.of_below k) (fun _ _ => id)
theorem Ros.len {w : World} {p q c room : Nat} {S : Option Addr} {sl : Nat → ByteArray} {L : List (ByteArray × Nat)} (h : Ros w p q S c room sl L) : L.length ≤ 1024 := Nat.le_trans h.seated.le h.most
/-- What search asks. -/
theorem Ros.names {w : World} {p q c room : Nat} {S : Option Addr} {sl : Nat → ByteArray} {L : List (ByteArray × Nat)} (h : Ros w p q S c room sl L) : ∀ i, i < L.length → ∃ s, S = some ⟨s, 0, none⟩ ∧ w.cell? ⟨s, i * 2, none⟩ = some (.string (nmOf L i)) := fun i hi => by
  rcases h.row with ⟨_, e, _⟩ | ⟨b, e, R, _⟩
  · rw [e] at hi; simp at hi
  · exact ⟨b, e, R.cells _ _ (by rw [nmOf_at hi]; exact (flat_at L i hi).1)⟩
theorem Ros.nums {w : World} {p q c room : Nat} {S : Option Addr} {sl : Nat → ByteArray} {L : List (ByteArray × Nat)} (h : Ros w p q S c room sl L) : ∀ i, i < L.length → ∃ s, S = some ⟨s, 0, none⟩ ∧ w.cell? ⟨s, i * 2 + 1, none⟩ = some (.int .i64 (slOf L i : Int)) := fun i hi => by
  rcases h.row with ⟨_, e, _⟩ | ⟨b, e, R, _⟩
  · rw [e] at hi; simp at hi
  · exact ⟨b, e, R.cells _ _ (by rw [slOf_at hi]; exact (flat_at L i hi).2)⟩

theorem search_ros {w : World} {p q c room : Nat} {S : Option Addr} {sl : Nat → ByteArray} {L : List (ByteArray × Nat)} (h : Ros w p q S c room sl L) (name : ByteArray) (K : Nat) (hK : Place (nmOf L) L.length name K) (b : Bool) (hb : decide (K < L.length ∧ nmOf L K = name) = b) :
    Calls Tryz.prog 83 #[.pointer (some ⟨p, 0, none⟩), .string name] w fun e w' => e = .returned (.tuple #[.int .i64 (K : Int), .bool b]) ∧ Below w.heap.size w w' := by
  rw [← hb]
  exact search_at p L.length c K S (nmOf L) name w (by have := h.len; omega) hK h.seated.sorted h.seats h.names

theorem infoStr : (Tryz.prog.info? 9).map (fun i => (i.zero, i.size, i.bytes)) = some (some (.string { data := #[] }), 1, 16) := by kernel_rfl
theorem run_make_strs (room : Nat) (hr : room ≤ 1024) (w : World) : (Instr.makeSlice 49 (.int .i64 (room : Int)) (.int .i64 (room : Int))).run Tryz.prog w = .ok (.slice (some ⟨w.heap.size, 0, none⟩) room room) (w.alloc (.cells (madeCells #[.string { data := #[] }] room) 9)) := by
  obtain ⟨i0, hi0, hz0, hzs, hzb⟩ := info_parts infoStr
  have := run_make (P := Tryz.prog) w 49 9 i0 _ Tryz.underlying49 hi0 hz0 .i64 .i64 (room : Int) (room : Int) (by omega) (by omega) (by rw [hzb]; omega) (by omega)
  rw [hzs, Int.toNat_natCast, Nat.mul_one] at this
  exact this
theorem made_str (room i : Nat) (h : i < room) : (madeCells #[.string { data := #[] }] room)[i]? = some (.string none4) := by
  simp [madeCells, h, Nat.mod_one]

set_option maxHeartbeats 1000000 in
theorem new_no (room : Int) (w : World) (h : room < 1 ∨ 1024 < room) : Calls Tryz.prog 74 #[.int .i64 room] w fun e w' => e = .returned (.tuple #[.pointer none, .int .i64 2]) ∧ w' = w := by
  by_cases h1 : room < 1
  · go_enter Tryz.func74, Tryz.ntmps74
    go_wp2
    go_ret2
    exact ⟨rfl, rfl⟩
  · have h2 : 1024 < room := by omega
    go_enter Tryz.func74, Tryz.ntmps74
    go_wp2
    go_ret2
    exact ⟨rfl, rfl⟩
set_option maxHeartbeats 1000000 in
theorem new_yes (room : Nat) (w : World) (h1 : 0 < room) (h2 : room ≤ 1024) : Calls Tryz.prog 74 #[.int .i64 (room : Int)] w fun e w' =>
    e = .returned (.tuple #[.pointer (some ⟨w.heap.size + 1, 0, none⟩), .int .i64 0]) ∧ Ros w' (w.heap.size + 1) w.heap.size none 0 room (fun _ => none4) [] ∧ Below w.heap.size w w' ∧ w'.heap.size = w.heap.size + 2 := by
  have t1 : ¬ (room : Int) < 1 := by omega
  have t2 : ¬ (1024 : Int) < (room : Int) := by omega
  have hmk := run_make_strs room h2
  have hcell := made_str room
  obtain ⟨A, HA'⟩ : ∃ A, madeCells #[.string { data := #[] }] room = A := ⟨_, rfl⟩
  rw [HA'] at hmk hcell
  have HC : Hid (∀ i, i < room → A[i]? = some (.string none4)) := hcell
  clear HA' hcell
  go_enter Tryz.func74, Tryz.ntmps74
  go_wp2
  go_ret2
  refine ⟨rfl, ⟨by simp, by simp, fun j => by simp, fun i hi => ?_, fun j => by simp, by omega, .inl ⟨rfl, rfl, rfl⟩, h1, h2, Seated.new room⟩, ((Below.refl _ w).alloc (Nat.le_refl _) _).alloc (by simp) _, by simp⟩
  rw [World.cell?_alloc_past _ _ _ (by simp), World.cell?_alloc_at _ _ _ _ rfl]
  exact HC.out i hi

theorem Ros.is_there {w : World} {p q c room : Nat} {S : Option Addr} {sl : Nat → ByteArray} {L : List (ByteArray × Nat)} (h : Ros w p q S c room sl L) {name : ByteArray} {K i : Nat} (hK : Place (nmOf L) L.length name K) (hi : i < room) (e : sl i = name) (hne : name ≠ none4) : decide (K < L.length ∧ nmOf L K = name) = true := by
  obtain ⟨h1, h2, _⟩ := h.seated.found hK hi e hne
  exact decide_eq_true ⟨h1, h2⟩
theorem Ros.not_there {w : World} {p q c room : Nat} {S : Option Addr} {sl : Nat → ByteArray} {L : List (ByteArray × Nat)} (h : Ros w p q S c room sl L) {name : ByteArray} {K : Nat} (hno : ∀ i, i < room → sl i = name → name = none4) : decide (K < L.length ∧ nmOf L K = name) = false := by
  refine decide_eq_false ?_
  rintro ⟨h1, h2⟩
  obtain ⟨a, b, d⟩ := h.seated.at h1
  rw [h2] at b d
  exact d (hno _ a b)

end Go.Proofs.YtfphjhmhiaepiaaGreat
/-
  Contracts of roster's Put and Drop.
-/
namespace Go.Proofs.YtfphjhmhiaepiaaGreat
open Go.ChangeShapes Go.WideShapes Go.ChangeAt Go.RowKit Go.Lib

theorem Ros.strs {w : World} {p q c room : Nat} {S : Option Addr} {sl : Nat → ByteArray} {L : List (ByteArray × Nat)} (h : Ros w p q S c room sl L) : Row w (.slice (some ⟨q, 0, none⟩) room room) room fun i => .string (sl i) :=
  ⟨_, room, rfl, Nat.le_refl _, by have := h.most; unfold maxLen; omega, fun i hi => ⟨q, 0, rfl, by rw [Nat.zero_add]; exact h.slot i hi⟩⟩
theorem idx_first {sl : Nat → ByteArray} {x : ByteArray} {n : Nat} {v : Value} {w : World} (h : Row w v n fun i => .string (sl i)) (k : Nat) (hk : k < n) (e : sl k = x) (hb : ∀ i, i < k → sl i ≠ x) :
    Calls Tryz.prog 84 #[v, .string x] w fun e w' => e = .returned (.int .i64 (k : Int)) ∧ w' = w :=
  (idx_any sl x n v w h).mono fun _ _ ⟨hw, h'⟩ => by
    rcases h' with ⟨rfl, hg⟩ | ⟨j, hj, rfl, ej, hl⟩
    · exact absurd e.symm (hg k hk)
    · obtain rfl : j = k := by
        rcases Nat.lt_trichotomy j k with h | h | h
        · exact absurd ej.symm (hb j h)
        · exact h
        · exact absurd e.symm (hl k h)
      exact ⟨rfl, hw⟩
theorem idx_no {sl : Nat → ByteArray} {x : ByteArray} {n : Nat} {v : Value} {w : World} (h : Row w v n fun i => .string (sl i)) (hb : ∀ i, i < n → sl i ≠ x) :
    Calls Tryz.prog 84 #[v, .string x] w fun e w' => e = .returned (.int .i64 (-1)) ∧ w' = w :=
  (idx_any sl x n v w h).mono fun _ _ ⟨hw, h'⟩ => by
    rcases h' with ⟨rfl, hg⟩ | ⟨j, hj, rfl, ej, hl⟩
    · exact ⟨rfl, hw⟩
    · exact absurd ej.symm (hb j hj)

set_option maxHeartbeats 1000000 in
theorem put_name {w : World} {p q c room : Nat} {S : Option Addr} {sl : Nat → ByteArray} {L : List (ByteArray × Nat)} (h : Ros w p q S c room sl L) (name : ByteArray) (hv : vldB name = false) :
    Calls Tryz.prog 75 #[.pointer (some ⟨p, 0, none⟩), .string name] w fun e w' => e = .returned (.tuple #[.int .i64 0, .int .i64 43]) ∧ Below w.heap.size w w' := by
  have F1 := made_yes p room room _ w h.first h.slots
  have F2 := valid_any name w
  rw [hv] at F2
  clear hv
  go_enter Tryz.func75, Tryz.ntmps75
  go_wp2_with fail
  refine F1.mono ?_
  rintro e w1 ⟨rfl, rfl⟩
  go_wp2_with fail
  refine F2.mono ?_
  rintro e w2 ⟨rfl, hb⟩
  go_wp2_with fail
  go_ret2
  exact ⟨rfl, hb⟩
set_option maxHeartbeats 1000000 in
theorem put_twice {w : World} {p q c room : Nat} {S : Option Addr} {sl : Nat → ByteArray} {L : List (ByteArray × Nat)} (h : Ros w p q S c room sl L) (name : ByteArray) (hv : vldB name = true) (i : Nat) (hi : i < room) (e : sl i = name) :
    Calls Tryz.prog 75 #[.pointer (some ⟨p, 0, none⟩), .string name] w fun e w' => e = .returned (.tuple #[.int .i64 0, .int .i64 41]) ∧ Below w.heap.size w w' := by
  obtain ⟨K, hK⟩ := h.seated.place name
  have F1 := made_yes p room room _ w h.first h.slots
  have F2 := valid_any name w
  rw [hv] at F2
  have F3 := fun {w'} (h : Ros w' p q S c room sl L) => search_ros h name K hK true (h.is_there hK hi e (vld_ne hv))
  clear hv hK e
  go_enter Tryz.func75, Tryz.ntmps75
  go_wp2_with fail
  refine F1.mono ?_
  rintro e w1 ⟨rfl, rfl⟩
  go_wp2_with fail
  refine F2.mono ?_
  rintro e w2 ⟨rfl, hb⟩
  go_wp2_with fail
  refine (F3 (h.below hb)).mono ?_
  rintro e w3 ⟨rfl, hb3⟩
  go_wp2_with fail
  go_ret2
  exact ⟨rfl, hb.trans (hb3.mono hb.size)⟩
set_option maxHeartbeats 1000000 in
theorem put_full {w : World} {p q c room : Nat} {S : Option Addr} {sl : Nat → ByteArray} {L : List (ByteArray × Nat)} (h : Ros w p q S c room sl L) (name : ByteArray) (hv : vldB name = true) (hno : ∀ i, i < room → sl i ≠ name) (hf : ∀ i, i < room → sl i ≠ none4) :
    Calls Tryz.prog 75 #[.pointer (some ⟨p, 0, none⟩), .string name] w fun e w' => e = .returned (.tuple #[.int .i64 0, .int .i64 40]) ∧ Below w.heap.size w w' := by
  obtain ⟨K, hK⟩ := h.seated.place name
  have F1 := made_yes p room room _ w h.first h.slots
  have F2 := valid_any name w
  rw [hv] at F2
  have F3 := fun {w'} (h : Ros w' p q S c room sl L) => search_ros h name K hK false (h.not_there (fun i hi e => absurd e (hno i hi)))
  have F4 := fun {w'} (h : Ros w' p q S c room sl L) => idx_no h.strs hf
  clear hv hK hno hf
  go_enter Tryz.func75, Tryz.ntmps75
  go_wp2_with fail
  refine F1.mono ?_
  rintro e w1 ⟨rfl, rfl⟩
  go_wp2_with fail
  refine F2.mono ?_
  rintro e w2 ⟨rfl, hb⟩
  go_wp2_with fail
  refine (F3 (h.below hb)).mono ?_
  rintro e w3 ⟨rfl, hb3⟩
  have h3 := (h.below hb).below hb3
  have hs := h3.slots
  go_wp2_with fail
  refine (F4 h3).mono ?_
  rintro e w4 ⟨rfl, rfl⟩
  go_wp2_with fail
  go_ret2
  exact ⟨rfl, hb.trans (hb3.mono hb.size)⟩
set_option maxRecDepth 100000 in
set_option maxHeartbeats 2000000 in
theorem put_ok {w : World} {p q c room : Nat} {S : Option Addr} {sl : Nat → ByteArray} {L : List (ByteArray × Nat)} (h : Ros w p q S c room sl L) (name : ByteArray) (hv : vldB name = true) (hno : ∀ i, i < room → sl i ≠ name) (i : Nat) (hi : i < room) (hf : sl i = none4) (hl : ∀ j, j < i → sl j ≠ none4) :
    Calls Tryz.prog 75 #[.pointer (some ⟨p, 0, none⟩), .string name] w fun e w' => e = .returned (.tuple #[.int .i64 (i : Int), .int .i64 0]) ∧
      ∃ S' c' L', Ros w' p q S' c' room (upd sl i name) L' ∧ But (own p q S) w w' ∧ ∀ k, own p q S' k → own p q S k ∨ w.heap.size ≤ k := by
  obtain ⟨K, hK⟩ := h.seated.place name
  have F1 := made_yes p room room _ w h.first h.slots
  have F2 := valid_any name w
  rw [hv] at F2
  have F3 := fun {w'} (h : Ros w' p q S c room sl L) => search_ros h name K hK false (h.not_there (fun i hi e => absurd e (hno i hi)))
  have F4 := fun {w'} (h : Ros w' p q S c room sl L) => idx_first h.strs i hi hf hl
  have HS : Hid (Seated room (upd sl i name) (putAt L K (name, i))) := h.seated.put hK (vld_ne hv) hno hi hf
  have hKn := hK.le
  clear hv hK hno hl hf
  go_enter Tryz.func75, Tryz.ntmps75
  go_wp2_with fail
  refine F1.mono ?_
  rintro e w1 ⟨rfl, rfl⟩
  go_wp2_with fail
  refine F2.mono ?_
  rintro e w2 ⟨rfl, hb⟩
  go_wp2_with fail
  refine (F3 (h.below hb)).mono ?_
  rintro e w3 ⟨rfl, hb3⟩
  have h3 := (h.below hb).below hb3
  have B3 := hb.trans (hb3.mono hb.size)
  have hs := h3.slots
  go_wp2_with fail
  refine (F4 h3).mono ?_
  rintro e w4 ⟨rfl, rfl⟩
  have t : (i : Int) < (room : Int) := by omega
  have hc := h3.slot i hi
  have hq := h3.qthaw i
  have hse := h3.seats
  have hap := h3.apart
  have hse4 : (w4.setCell ⟨q, i, none⟩ (.string name)).cell? ⟨p, 0, none⟩ = some (.slice S L.length c) := by
    rw [World.cell?_setCell_other _ _ _ _ (by intro e; injection e with e1; exact hap e1.symm)]; exact hse
  go_wp2_with fail
  obtain ⟨W, hW⟩ : ∃ W, W = (w4.setCell ⟨q, i, none⟩ (.string name)).alloc (.cells #[.string name, .int .i64 (i : Int)] 127) := ⟨_, rfl⟩
  rw [← hW]
  have BW : But (fun k => k = q) w4 W := by rw [hW]; exact But.alloc (But.setCell (S := fun k => k = q) (But.refl _ w4) q i _ (fun _ => rfl)) _
  have sW : W.heap.size = w4.heap.size + 1 := by rw [hW]; simp
  have hvs : ∀ j v, (seatCells (name, i))[j]? = some v → W.cell? ⟨w4.heap.size, j, none⟩ = some v := fun j v hj => by
    rw [hW, World.cell?_alloc_at _ _ _ _ (by simp)]
    simpa [seatCells] using hj
  have hvf : ∀ j, W.frozen? ⟨w4.heap.size, j, none⟩ = false := fun j => by rw [hW]; exact World.frozen?_alloc_at _ _ _ j (by simp)
  have hpS : S ≠ some ⟨p, 0, none⟩ := by
    rcases h3.row with ⟨e, _⟩ | ⟨b, e, _, k, _⟩
    · rw [e]; simp
    · rw [e]; intro e'; injection e' with e'; injection e' with e'; exact k e'
  have hqS : S ≠ some ⟨q, 0, none⟩ := by
    rcases h3.row with ⟨e, _⟩ | ⟨b, e, _, _, k⟩
    · rw [e]; simp
    · rw [e]; intro e'; injection e' with e'; injection e' with e'; exact k e'
  have hrow : (S = none ∧ L.length = 0 ∧ c = 0) ∨ ∃ b, S = some ⟨b, 0, none⟩ ∧ SeatRow W b c L ∧ w4.heap.size ≠ b := by
    rcases h3.row with ⟨e, e1, e2⟩ | ⟨b, e, R, _, k⟩
    · exact .inl ⟨e, by rw [e1]; rfl, e2⟩
    · exact .inr ⟨b, e, R.kept BW k, by have := R.there; omega⟩
  have hpW : W.cell? ⟨p, 0, none⟩ = some (.slice S L.length c) := by rw [BW.cell h3.pthere hap]; exact hse
  have hsW : W.cell? ⟨p, 1, none⟩ = some (.slice (some ⟨q, 0, none⟩) room room) := by rw [BW.cell h3.pthere hap]; exact hs
  have htW : ∀ j, W.frozen? ⟨p, j, none⟩ = false := fun j => by rw [BW.frozen h3.pthere hap]; exact h3.pthaw j
  have hqW : ∀ j, j < room → W.cell? ⟨q, j, none⟩ = some (.string (upd sl i name j)) := fun j hj => by
    rw [hW, World.cell?_alloc_past _ _ _ (by simp; exact h3.qthere)]
    by_cases e : j = i
    · subst e
      rw [upd_same]
      exact World.cell?_setCell_same' _ _ _ (by rw [hc]; rfl)
    · rw [upd_other _ _ e, World.cell?_setCell_other _ _ _ _ (by intro e'; injection e' with _ e2; exact e e2.symm)]
      exact h3.slot j hj
  have htq : ∀ j, W.frozen? ⟨q, j, none⟩ = false := fun j => by rw [hW, World.frozen?_alloc_past _ _ _ (by simp; exact h3.qthere), World.frozen?_setCell]; exact h3.qthaw j
  have hpt := h3.pthere
  have hqt := h3.qthere
  have HB3 : Hid (Below w1.heap.size w1 w4) := B3
  refine (insert_any S L.length c K w4.heap.size L (name, i) W rfl hKn (by have := h3.len; omega) hrow hvs hvf).mono ?_
  rintro e W4 ⟨b', c', rfl, R', B', at'⟩
  have hp4 : W4.cell? ⟨p, 0, none⟩ = some (.slice S L.length c) := by rw [B'.cell (by omega) hpS]; exact hpW
  have hf4 : W4.frozen? ⟨p, 0, none⟩ = false := by rw [B'.frozen (by omega) hpS]; exact htW 0
  clear hse4 F1 F2 F3 F4 hs hc hq hse
  go_wp2_with fail
  go_ret2
  have hbp : b' ≠ p ∧ b' ≠ q := by
    rcases at' with e | e
    · exact ⟨fun k => hpS (by rw [e, k]), fun k => hqS (by rw [e, k])⟩
    · exact ⟨by omega, by omega⟩
  have BF : But (fun k => k = p) W4 (W4.setCell ⟨p, 0, none⟩ (.slice (some ⟨b', 0, none⟩) (L.length + 1) c')) := But.setCell (S := fun k => k = p) (But.refl _ W4) p 0 _ (fun _ => rfl)
  have hl : (putAt L K (name, i)).length = L.length + 1 := putAt_length _ _ _ hKn
  have p4 : p < W4.heap.size := Nat.lt_of_lt_of_le (by omega) B'.size
  have q4 : q < W4.heap.size := Nat.lt_of_lt_of_le (by omega) B'.size
  refine ⟨rfl, some ⟨b', 0, none⟩, c', putAt L K (name, i), ⟨?_, ?_, ?_, ?_, ?_, hap, .inr ⟨b', rfl, R'.kept BF hbp.1, hbp⟩, h3.first, h3.most, HS.out⟩, ?_, ?_⟩
  · rw [hl]; exact World.cell?_setCell_same' _ _ _ (by rw [hp4]; rfl)
  · rw [World.cell?_setCell_other _ _ _ _ (by simp), B'.cell (by omega) hpS]; exact hsW
  · intro j; rw [World.frozen?_setCell, B'.frozen (by omega) hpS]; exact htW j
  · intro j hj; rw [BF.cell q4 (fun e => hap e.symm), B'.cell (by omega) hqS]; exact hqW j hj
  · intro j; rw [BF.frozen q4 (fun e => hap e.symm), B'.frozen (by omega) hqS]; exact htq j
  · refine (((But.of_below (S := own p q S) HB3.out).trans BW ?_).trans B' ?_).trans BF ?_
    · rintro k _ rfl; exact .inr (.inl rfl)
    · intro k _ e; exact .inr (.inr e)
    · rintro k _ rfl; exact .inl rfl
  · rintro k (rfl | rfl | e)
    · exact .inl (.inl rfl)
    · exact .inl (.inr (.inl rfl))
    · injection e with e
      injection e with e
      subst e
      rcases at' with e | e
      · exact .inl (.inr (.inr e))
      · exact .inr (by have := HB3.out.size; omega)

end Go.Proofs.YtfphjhmhiaepiaaGreat
/-
  Rows of the call's own memory that grow by append, beside other blocks.
-/
namespace Go.Proofs.YtfphjhmhiaepiaaGreat
open Go.ChangeShapes Go.WideShapes Go.ChangeAt Go.RowKit Go.Lib

theorem own_ge {w : World} {base : Nat} {e : TypeId} {size : Nat} {v : Value} {n : Nat} {xs : List Value} (h : w.ownsRow base e size v n xs) : ∀ g, v.ownBlock = some g → base ≤ g := fun g hg => (h.lt g hg).1
theorem But.of_grown {w w' : World} {row : Option Nat} (h : w.grownBy w' row) : But (fun k => row = some k) w w' := ⟨h.os, h.tape, h.output, h.size, fun k hk hS => h.block k hk (fun e => hS e.symm)⟩
theorem own_kept {S : Nat → Prop} {w w' : World} {base : Nat} {e : TypeId} {size : Nat} {v : Value} {n : Nat} {xs : List Value} (h : w.ownsRow base e size v n xs) (k : But S w w') (hS : ∀ g, v.ownBlock = some g → ¬ S g) : w'.ownsRow base e size v n xs := by
  refine ⟨h.1, ?_⟩
  rcases h.2 with hn | ⟨g, cap, cur, rfl, hb, hgg, rest⟩
  · exact .inl hn
  · refine .inr ⟨g, cap, cur, rfl, hb, ?_, rest⟩
    rw [k.block g (Array.getElem?_eq_some_iff.1 hgg).1 (hS g rfl)]
    exact hgg
theorem own_below {w w' : World} {base : Nat} {e : TypeId} {size : Nat} {v : Value} {n : Nat} {xs : List Value} (h : w.ownsRow base e size v n xs) (k : Below w.heap.size w w') : w'.ownsRow base e size v n xs :=
  own_kept h (But.of_below (S := fun _ => False) k) (fun _ _ => id)
theorem own_shape {w : World} {base : Nat} {e : TypeId} {size : Nat} {v : Value} {n : Nat} {xs : List Value} (h : w.ownsRow base e size v n xs) : ∃ a cap, v = .slice a n cap := by
  rcases h.2 with ⟨rfl, rfl⟩ | ⟨g, cap, cur, rfl, _⟩
  · exact ⟨_, _, rfl⟩
  · exact ⟨_, _, rfl⟩
theorem row_of_own {w : World} {base : Nat} {e : TypeId} {v : Value} {n : Nat} {xs : List Value} (h : w.ownsRow base e 1 v n xs) (f : Nat → Value) (hf : ∀ i, i < n → xs[i]? = some (f i)) : Row w v n f := by
  have hcs := fun g hg => h.cells (g := g) hg
  rcases h.2 with ⟨rfl, rfl⟩ | ⟨g, cap, cur, rfl, _, _, h1, h2, _⟩
  · exact ⟨none, 0, rfl, Nat.le_refl _, by unfold maxLen; omega, fun i hi => absurd hi (by omega)⟩
  · refine ⟨_, cap, rfl, h1, h2, fun i hi => ⟨g, 0, rfl, ?_⟩⟩
    have := hcs g rfl i (f i) (hf i hi)
    rw [show (⟨g, 0, none⟩ : Addr).add i = ⟨g, 0 + i, none⟩ from by unfold Addr.add; split <;> simp_all] at this
    exact this
/-- The first n values that f tells. -/
def vals (f : Nat → Value) (n : Nat) : List Value := (List.range n).map f
theorem vals_succ (f : Nat → Value) (n : Nat) : vals f (n + 1) = vals f n ++ [f n] := by simp [vals, List.range_succ]
theorem vals_at (f : Nat → Value) {n i : Nat} (h : i < n) : (vals f n)[i]? = some (f i) := by simp [vals, h]
theorem vals_length (f : Nat → Value) (n : Nat) : (vals f n).length = n := by simp [vals]
theorem vals_same {f g : Nat → Value} {n : Nat} (h : ∀ i, i < n → f i = g i) : vals f n = vals g n := List.map_congr_left (fun i hi => h i (List.mem_range.1 hi))
end Go.Proofs.YtfphjhmhiaepiaaGreat
