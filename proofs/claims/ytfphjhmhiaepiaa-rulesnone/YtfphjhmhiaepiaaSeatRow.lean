/-
  The row of seats in memory; what one more and one less make of it, and what they leave alone.
-/
import Derived.Test.YtfphjhmhiaepiaaSeatIns
import Derived.Test.YtfphjhmhiaepiaaBut
namespace Go.Proofs.Ytfphjhmhiaepiaa
open Go.ChangeShapes Go.WideShapes Go.ChangeAt Go.RowKit Go.Lib

/-- The row of seats L in block s, with room for c. -/
structure SeatRow (w : World) (s c : Nat) (L : List (ByteArray × Nat)) : Prop where
  cells : ∀ j v, (flat L)[j]? = some v → w.cell? ⟨s, j, none⟩ = some v
  spare : ∀ j, j < c * 2 → (w.cell? ⟨s, j, none⟩).isSome = true
  thaw : ∀ j, w.frozen? ⟨s, j, none⟩ = false
  fits : L.length ≤ c
  capped : c ≤ 9223372036854775807
  there : s < w.heap.size
theorem SeatRow.kept {S : Nat → Prop} {w w' : World} {s c : Nat} {L : List (ByteArray × Nat)} (h : SeatRow w s c L) (k : But S w w') (hS : ¬ S s) : SeatRow w' s c L :=
  ⟨fun j v hj => by rw [k.cell h.there hS]; exact h.cells j v hj, fun j hj => by rw [k.cell h.there hS]; exact h.spare j hj, fun j => by rw [k.frozen h.there hS]; exact h.thaw j, h.fits, h.capped, Nat.lt_of_lt_of_le h.there k.size⟩
theorem shape_of_cell {w : World} {s j : Nat} {v : Value} (h : w.cell? ⟨s, j, none⟩ = some v) : ∃ t k, w.shape? s = some (t, k) ∧ k ≠ 0 := by
  unfold World.cell? at h
  unfold World.shape?
  dsimp only at h
  split at h
  · rename_i c t m e
    refine ⟨t, c.size, rfl, fun e0 => ?_⟩
    simp [e0] at h
  · cases h
theorem set_in {w : World} {b o : Nat} {vs : List Value} (h : ∀ j, j < vs.length → (w.cell? ⟨b, o + j, none⟩).isSome = true) {j : Nat} {v : Value} (hj : vs[j]? = some v) : (w.setCells b o vs).cell? ⟨b, o + j, none⟩ = some v := by
  obtain ⟨hl, e⟩ := List.getElem?_eq_some_iff.1 hj
  rw [World.cell?_setCells_in b vs o w h j hl, e]
theorem set_out {w : World} {b o : Nat} {vs : List Value} {j : Nat} (h : j < o ∨ o + vs.length ≤ j) : (w.setCells b o vs).cell? ⟨b, j, none⟩ = w.cell? ⟨b, j, none⟩ :=
  World.cell?_setCells_out b vs o w ⟨b, j, none⟩ (fun _ _ => h)

/-- The seats with one more at place i. -/
def putAt (L : List (ByteArray × Nat)) (i : Nat) (x : ByteArray × Nat) : List (ByteArray × Nat) := L.take i ++ x :: L.drop i
theorem flat_putAt (L : List (ByteArray × Nat)) (i : Nat) (x : ByteArray × Nat) : flat (putAt L i x) = flat (L.take i) ++ (seatCells x ++ flat (L.drop i)) := by
  unfold putAt
  rw [flat_append, flat_cons]
  rfl
theorem flat_putAt_cases {L : List (ByteArray × Nat)} {i : Nat} {x : ByteArray × Nat} (hi : i ≤ L.length) {j : Nat} {v : Value} (h : (flat (putAt L i x))[j]? = some v) :
    (j < i * 2 ∧ (flat L)[j]? = some v) ∨ (∃ t, j = i * 2 + t ∧ (seatCells x)[t]? = some v) ∨ (∃ t, j = (i + 1) * 2 + t ∧ (flat (L.drop i))[t]? = some v) := by
  have hl : (flat (L.take i)).length = i * 2 := by rw [flat_length, List.length_take]; omega
  rw [flat_putAt, List.getElem?_append] at h
  by_cases h1 : j < i * 2
  · rw [if_pos (by omega), ← flat_take, List.getElem?_take, if_pos h1] at h
    exact .inl ⟨h1, h⟩
  · rw [if_neg (by omega), hl, List.getElem?_append] at h
    by_cases h2 : j - i * 2 < 2
    · rw [if_pos (by rw [seat_length]; exact h2)] at h
      exact .inr (.inl ⟨j - i * 2, by omega, h⟩)
    · rw [if_neg (by rw [seat_length]; exact h2), seat_length] at h
      exact .inr (.inr ⟨j - i * 2 - 2, by omega, h⟩)
theorem putAt_length (L : List (ByteArray × Nat)) (i : Nat) (x : ByteArray × Nat) (hi : i ≤ L.length) : (putAt L i x).length = L.length + 1 := by
  unfold putAt
  simp; omega

theorem insert_any (S : Option Addr) (n c i vb : Nat) (L : List (ByteArray × Nat)) (x : ByteArray × Nat) (w : World) (hcl : L.length = n) (hi : i ≤ n) (hn : n ≤ 1000000)
    (hs : (S = none ∧ n = 0 ∧ c = 0) ∨ ∃ b, S = some ⟨b, 0, none⟩ ∧ SeatRow w b c L ∧ vb ≠ b)
    (hvs : ∀ j v, (seatCells x)[j]? = some v → w.cell? ⟨vb, j, none⟩ = some v) (hvf : ∀ j, w.frozen? ⟨vb, j, none⟩ = false) :
    Calls Try.prog 77 #[.slice S n c, .int .i64 (i : Int), .slice (some ⟨vb, 0, none⟩) 1 1] w fun e w' =>
      ∃ b' c', e = .returned (.slice (some ⟨b', 0, none⟩) (n + 1) c') ∧ SeatRow w' b' c' (putAt L i x) ∧ But (fun k => S = some ⟨k, 0, none⟩) w w' ∧ (S = some ⟨b', 0, none⟩ ∨ w.heap.size ≤ b') := by
  obtain ⟨tA, kA, hsa, _⟩ := shape_of_cell (hvs 0 _ rfl)
  have hvw : vb < w.heap.size := World.block_lt_of_cell? _ _ (hvs 0 _ rfl)
  by_cases hroom : n + 1 ≤ c
  · obtain ⟨-, -, rfl⟩ | ⟨b, rfl, R, hvb⟩ := hs
    · omega
    by_cases hin : i < n
    · have hdl : (flat (L.drop i)).length = (n - i) * 2 := by rw [flat_length, List.length_drop, hcl]
      obtain ⟨v0, hv0⟩ := Option.isSome_iff_exists.1 (R.spare 0 (by omega))
      obtain ⟨tB, kB, hsb, hkB⟩ := shape_of_cell hv0
      refine (insert_shift b n c i vb L x w hin hn hroom R.capped hvb hcl R.cells R.spare (fun j _ => R.thaw j) hvs tA tB kA kB hsa hsb hkB (hvf _) (hvf _)).mono ?_
      rintro e w' ⟨rfl, rfl⟩
      have hsp1 : ∀ j, j < c * 2 → ((w.drew.setCells b ((i + 1) * 2) (flat (L.drop i))).cell? ⟨b, j, none⟩).isSome = true := fun j hj =>
        isSome_setCells b (flat (L.drop i)) ((i + 1) * 2) w.drew (fun t ht => R.spare _ (by omega)) _ (R.spare j hj)
      refine ⟨b, c, rfl, ⟨fun j v hj => ?_, fun j hj => ?_, fun j => ?_, by rw [putAt_length _ _ _ (by omega)]; omega, R.capped, ?_⟩, ?_, .inl rfl⟩
      · rcases flat_putAt_cases (by omega) hj with ⟨h1, h⟩ | ⟨t, rfl, h⟩ | ⟨t, rfl, h⟩
        · rw [set_out (.inl h1), set_out (.inl (by omega))]
          exact R.cells j v h
        · exact set_in (fun j hj => hsp1 _ (by rw [seat_length] at hj; omega)) h
        · rw [set_out (.inr (by rw [seat_length]; omega))]
          exact set_in (w := w.drew) (fun j hj => R.spare ((i + 1) * 2 + j) (by omega)) h
      · exact isSome_setCells b (seatCells x) (i * 2) _ (fun t ht => hsp1 _ (by rw [seat_length] at ht; omega)) _ (hsp1 j hj)
      · rw [World.frozen?_setCells, World.frozen?_setCells]
        exact R.thaw j
      · rw [size_setCells, size_setCells]
        exact R.there
      · exact But.setCells (S := fun k => (some ⟨b, 0, none⟩ : Option Addr) = some ⟨k, 0, none⟩) (But.setCells (But.refl _ w).drew b _ _ (fun _ => rfl)) b _ _ (fun _ => rfl)
    · obtain rfl : i = n := by omega
      refine (insert_end_room b i c vb x w hn hroom R.capped R.spare (fun j _ => R.thaw j) hvs).mono ?_
      rintro e w' ⟨rfl, rfl⟩
      refine ⟨b, c, rfl, ⟨fun j v hj => ?_, fun j hj => ?_, fun j => ?_, by rw [putAt_length _ _ _ (by omega)]; omega, R.capped, ?_⟩, ?_, .inl rfl⟩
      · rcases flat_putAt_cases (by omega) hj with ⟨h1, h⟩ | ⟨t, rfl, h⟩ | ⟨t, rfl, h⟩
        · rw [set_out (.inl h1)]
          exact R.cells j v h
        · exact set_in (fun j hj => R.spare _ (by rw [seat_length] at hj; omega)) h
        · rw [List.drop_of_length_le (by omega)] at h
          simp [flat_nil] at h
      · exact isSome_setCells b (seatCells x) (i * 2) _ (fun t ht => R.spare _ (by rw [seat_length] at ht; omega)) _ (R.spare j hj)
      · rw [World.frozen?_setCells]
        exact R.thaw j
      · rw [size_setCells]
        exact R.there
      · exact But.setCells (S := fun k => (some ⟨b, 0, none⟩ : Option Addr) = some ⟨k, 0, none⟩) (But.refl _ w) b _ _ (fun _ => rfl)
  · have hnc : n ≤ c := by
      obtain ⟨-, rfl, rfl⟩ | ⟨b, -, R, -⟩ := hs
      · omega
      · have := R.fits; omega
    have hgn : n + 1 ≤ grownCap w (n + 1) c 121 := grownCap_ge w _ _ _
    have hgm : grownCap w (n + 1) c 121 ≤ 9223372036854775807 := by
      have := grownCap_le_maxLen w (n + 1) c 121 (by unfold maxLen; omega)
      unfold maxLen at this
      omega
    by_cases hin : i < n
    · obtain ⟨-, rfl, -⟩ | ⟨b, rfl, R, hvb⟩ := hs
      · omega
      obtain rfl : c = n := by omega
      have hdl : (flat (L.drop i)).length = (c - i) * 2 := by rw [flat_length, List.length_drop, hcl]
      refine (insert_grow b c i vb L x w hin hn hcl R.cells hvs).mono ?_
      rintro e w' ⟨rfl, rfl⟩
      generalize grownCap w (c + 1) c 121 = G at *
      obtain ⟨ROW, hROW⟩ : ∃ ROW : Array Value, ROW = (flat (L.take i)).toArray ++ Builtin.zeroCells #[.string { data := #[] }, .int .i64 0] (c + 1 - i) ++ Builtin.zeroCells #[.string { data := #[] }, .int .i64 0] (G - (c + 1)) := ⟨_, rfl⟩
      rw [← hROW]
      have htl : (flat (L.take i)).length = i * 2 := by rw [flat_length, List.length_take]; omega
      have hRs : ROW.size = G * 2 := by
        rw [hROW, Array.size_append, Array.size_append, zeroSeat_size, zeroSeat_size]
        simp [htl]
        omega
      have hcell : ∀ j, (w.alloc (.cells ROW 121)).cell? ⟨w.heap.size, j, none⟩ = ROW[j]? := fun j => World.cell?_alloc_at ROW _ w.heap.size j rfl
      have hsp0 : ∀ j, j < G * 2 → (((w.alloc (.cells ROW 121)).drew).cell? ⟨w.heap.size, j, none⟩).isSome = true := fun j hj => by
        show ((w.alloc (.cells ROW 121)).cell? _).isSome = true
        rw [hcell, Array.getElem?_eq_getElem (by omega)]; rfl
      have hsp1 : ∀ j, j < G * 2 → ((((w.alloc (.cells ROW 121)).drew).setCells w.heap.size (i * 2) (seatCells x)).drew.cell? ⟨w.heap.size, j, none⟩).isSome = true := fun j hj =>
        isSome_setCells _ (seatCells x) (i * 2) _ (fun t ht => hsp0 _ (by rw [seat_length] at ht; omega)) _ (hsp0 j hj)
      refine ⟨w.heap.size, G, rfl, ⟨fun j v hj => ?_, fun j hj => ?_, fun j => ?_, by rw [putAt_length _ _ _ (by omega)]; omega, hgm, ?_⟩, ?_, .inr (Nat.le_refl _)⟩
      · rcases flat_putAt_cases (by omega) hj with ⟨h1, h⟩ | ⟨t, rfl, h⟩ | ⟨t, rfl, h⟩
        · rw [set_out (.inl (by omega))]
          show (((w.alloc (.cells ROW 121)).drew).setCells w.heap.size (i * 2) (seatCells x)).cell? _ = _
          rw [set_out (.inl h1)]
          show (w.alloc (.cells ROW 121)).cell? _ = _
          rw [hcell, hROW, Array.getElem?_append, if_pos (by rw [Array.size_append]; simp [htl]; omega), Array.getElem?_append, if_pos (by simp [htl]; omega)]
          rw [List.getElem?_toArray, ← flat_take, List.getElem?_take, if_pos h1]
          exact h
        · rw [set_out (.inl (by have := (List.getElem?_eq_some_iff.1 h).1; rw [seat_length] at this; omega))]
          exact set_in (w := (w.alloc (.cells ROW 121)).drew) (fun j hj => hsp0 _ (by rw [seat_length] at hj; omega)) h
        · exact set_in (fun j hj => hsp1 _ (by omega)) h
      · exact isSome_setCells _ (flat (L.drop i)) ((i + 1) * 2) _ (fun t ht => hsp1 _ (by omega)) _ (hsp1 j hj)
      · rw [World.frozen?_setCells]
        show (((w.alloc (.cells ROW 121)).drew).setCells w.heap.size (i * 2) (seatCells x)).frozen? _ = _
        rw [World.frozen?_setCells]
        exact World.frozen?_alloc_at (w := w) ROW _ w.heap.size j rfl
      · rw [size_setCells]
        show w.heap.size < (((w.alloc (.cells ROW 121)).drew).setCells w.heap.size (i * 2) (seatCells x)).heap.size
        rw [size_setCells]
        show w.heap.size < (w.alloc (.cells ROW 121)).heap.size
        simp
      · exact But.setCells (But.drew (But.setCells (But.drew (But.alloc (But.refl _ w) _)) _ _ _ (fun h => absurd h (Nat.lt_irrefl _)))) _ _ _ (fun h => absurd h (Nat.lt_irrefl _))
    · obtain rfl : i = n := by omega
      refine (insert_end_grow S i c vb L x w hn hnc (by omega) hcl (by
        obtain ⟨h1, h2, -⟩ | ⟨b, h1, R, -⟩ := hs
        · exact .inl ⟨h1, h2⟩
        · exact .inr ⟨b, h1, R.cells⟩) hvs).mono ?_
      rintro e w' ⟨rfl, rfl⟩
      generalize grownCap w (i + 1) c 121 = G at *
      obtain ⟨ROW, hROW⟩ : ∃ ROW : Array Value, ROW = (flat L ++ seatCells x).toArray ++ Builtin.zeroCells #[.string { data := #[] }, .int .i64 0] (G - (i + 1)) := ⟨_, rfl⟩
      rw [← hROW]
      have hRs : ROW.size = G * 2 := by
        rw [hROW, Array.size_append, zeroSeat_size]
        simp [flat_length, seat_length]
        omega
      have hcell : ∀ j, (w.drew.alloc (.cells ROW 121)).cell? ⟨w.heap.size, j, none⟩ = ROW[j]? := fun j => World.cell?_alloc_at (w := w.drew) ROW _ w.heap.size j rfl
      refine ⟨w.heap.size, G, rfl, ⟨fun j v hj => ?_, fun j hj => ?_, fun j => ?_, by rw [putAt_length _ _ _ (by omega)]; omega, hgm, ?_⟩, ?_, .inr (Nat.le_refl _)⟩
      · have hp : flat (putAt L i x) = flat L ++ seatCells x := by rw [flat_putAt, List.take_of_length_le (by omega), List.drop_of_length_le (by omega), flat_nil, List.append_nil]
        rw [hp] at hj
        rw [hcell, hROW, Array.getElem?_append, if_pos (by simpa using (List.getElem?_eq_some_iff.1 hj).1), List.getElem?_toArray]
        exact hj
      · rw [hcell, Array.getElem?_eq_getElem (by omega)]; rfl
      · exact World.frozen?_alloc_at (w := w.drew) ROW _ w.heap.size j rfl
      · show w.heap.size < (w.drew.alloc (.cells ROW 121)).heap.size
        rw [World.size_alloc]
        exact Nat.lt_succ_self _
      · exact But.alloc (But.drew (But.refl _ w)) _

/-- The seats without the one at place i. -/
def dropAt (L : List (ByteArray × Nat)) (i : Nat) : List (ByteArray × Nat) := L.take i ++ L.drop (i + 1)
theorem dropAt_length (L : List (ByteArray × Nat)) (i : Nat) (hi : i < L.length) : (dropAt L i).length = L.length - 1 := by
  unfold dropAt
  simp; omega
end Go.Proofs.Ytfphjhmhiaepiaa
