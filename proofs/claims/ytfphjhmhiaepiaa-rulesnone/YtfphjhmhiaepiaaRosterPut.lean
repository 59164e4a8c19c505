/-
  Contracts of roster's Put and Drop.
-/
import Derived.Test.YtfphjhmhiaepiaaRoster
namespace Go.Proofs.Ytfphjhmhiaepiaa
open Go.ChangeShapes Go.WideShapes Go.ChangeAt Go.RowKit Go.Lib

theorem Ros.strs {w : World} {p q c room : Nat} {S : Option Addr} {sl : Nat → ByteArray} {L : List (ByteArray × Nat)} (h : Ros w p q S c room sl L) : Row w (.slice (some ⟨q, 0, none⟩) room room) room fun i => .string (sl i) :=
  ⟨_, room, rfl, Nat.le_refl _, by have := h.most; unfold maxLen; omega, fun i hi => ⟨q, 0, rfl, by rw [Nat.zero_add]; exact h.slot i hi⟩⟩
theorem idx_first {sl : Nat → ByteArray} {x : ByteArray} {n : Nat} {v : Value} {w : World} (h : Row w v n fun i => .string (sl i)) (k : Nat) (hk : k < n) (e : sl k = x) (hb : ∀ i, i < k → sl i ≠ x) :
    Calls Try.prog 76 #[v, .string x] w fun e w' => e = .returned (.int .i64 (k : Int)) ∧ w' = w :=
  (idx_any sl x n v w h).mono fun _ _ ⟨hw, h'⟩ => by
    rcases h' with ⟨rfl, hg⟩ | ⟨j, hj, rfl, ej, hl⟩
    · exact absurd e.symm (hg k hk)
    · obtain rfl : j = k := by
        rcases Nat.lt_trichotomy j k with h | h | h
        · exact absurd ej.symm (hb j h)
        · exact h
        · exact absurd e.symm (hl k h)
      exact ⟨rfl, hw⟩
theorem idx_no {sl : Nat → ByteArray} {x : ByteArray} {n : Nat} {v : Value} {w : World} (h : Row w v n fun i => .string (sl i)) (hb : ∀ i, i < n → sl i ≠ x) :
    Calls Try.prog 76 #[v, .string x] w fun e w' => e = .returned (.int .i64 (-1)) ∧ w' = w :=
  (idx_any sl x n v w h).mono fun _ _ ⟨hw, h'⟩ => by
    rcases h' with ⟨rfl, hg⟩ | ⟨j, hj, rfl, ej, hl⟩
    · exact ⟨rfl, hw⟩
    · exact absurd ej.symm (hb j hj)

set_option maxHeartbeats 1000000 in
theorem put_name {w : World} {p q c room : Nat} {S : Option Addr} {sl : Nat → ByteArray} {L : List (ByteArray × Nat)} (h : Ros w p q S c room sl L) (name : ByteArray) (hv : vldB name = false) :
    Calls Try.prog 64 #[.pointer (some ⟨p, 0, none⟩), .string name] w fun e w' => e = .returned (.tuple #[.int .i64 0, .int .i64 43]) ∧ Below w.heap.size w w' := by
  have F1 := made_yes p room room _ w h.first h.slots
  have F2 := valid_any name w
  rw [hv] at F2
  clear hv
  go_enter Try.func64, Try.ntmps64
  go_wp2_with fail
  refine F1.mono ?_
  rintro e w1 ⟨rfl, rfl⟩
  go_wp2_with fail
  refine F2.mono ?_
  rintro e w2 ⟨rfl, hb⟩
  go_wp2_with fail
  go_ret2
  exact ⟨rfl, hb⟩
set_option maxHeartbeats 1000000 in
theorem put_twice {w : World} {p q c room : Nat} {S : Option Addr} {sl : Nat → ByteArray} {L : List (ByteArray × Nat)} (h : Ros w p q S c room sl L) (name : ByteArray) (hv : vldB name = true) (i : Nat) (hi : i < room) (e : sl i = name) :
    Calls Try.prog 64 #[.pointer (some ⟨p, 0, none⟩), .string name] w fun e w' => e = .returned (.tuple #[.int .i64 0, .int .i64 41]) ∧ Below w.heap.size w w' := by
  obtain ⟨K, hK⟩ := h.seated.place name
  have F1 := made_yes p room room _ w h.first h.slots
  have F2 := valid_any name w
  rw [hv] at F2
  have F3 := fun {w'} (h : Ros w' p q S c room sl L) => search_ros h name K hK true (h.is_there hK hi e (vld_ne hv))
  clear hv hK e
  go_enter Try.func64, Try.ntmps64
  go_wp2_with fail
  refine F1.mono ?_
  rintro e w1 ⟨rfl, rfl⟩
  go_wp2_with fail
  refine F2.mono ?_
  rintro e w2 ⟨rfl, hb⟩
  go_wp2_with fail
  refine (F3 (h.below hb)).mono ?_
  rintro e w3 ⟨rfl, hb3⟩
  go_wp2_with fail
  go_ret2
  exact ⟨rfl, hb.trans (hb3.mono hb.size)⟩
set_option maxHeartbeats 1000000 in
theorem put_full {w : World} {p q c room : Nat} {S : Option Addr} {sl : Nat → ByteArray} {L : List (ByteArray × Nat)} (h : Ros w p q S c room sl L) (name : ByteArray) (hv : vldB name = true) (hno : ∀ i, i < room → sl i ≠ name) (hf : ∀ i, i < room → sl i ≠ none4) :
    Calls Try.prog 64 #[.pointer (some ⟨p, 0, none⟩), .string name] w fun e w' => e = .returned (.tuple #[.int .i64 0, .int .i64 40]) ∧ Below w.heap.size w w' := by
  obtain ⟨K, hK⟩ := h.seated.place name
  have F1 := made_yes p room room _ w h.first h.slots
  have F2 := valid_any name w
  rw [hv] at F2
  have F3 := fun {w'} (h : Ros w' p q S c room sl L) => search_ros h name K hK false (h.not_there (fun i hi e => absurd e (hno i hi)))
  have F4 := fun {w'} (h : Ros w' p q S c room sl L) => idx_no h.strs hf
  clear hv hK hno hf
  go_enter Try.func64, Try.ntmps64
  go_wp2_with fail
  refine F1.mono ?_
  rintro e w1 ⟨rfl, rfl⟩
  go_wp2_with fail
  refine F2.mono ?_
  rintro e w2 ⟨rfl, hb⟩
  go_wp2_with fail
  refine (F3 (h.below hb)).mono ?_
  rintro e w3 ⟨rfl, hb3⟩
  have h3 := (h.below hb).below hb3
  have hs := h3.slots
  go_wp2_with fail
  refine (F4 h3).mono ?_
  rintro e w4 ⟨rfl, rfl⟩
  go_wp2_with fail
  go_ret2
  exact ⟨rfl, hb.trans (hb3.mono hb.size)⟩
set_option maxRecDepth 100000 in
set_option maxHeartbeats 2000000 in
theorem put_ok {w : World} {p q c room : Nat} {S : Option Addr} {sl : Nat → ByteArray} {L : List (ByteArray × Nat)} (h : Ros w p q S c room sl L) (name : ByteArray) (hv : vldB name = true) (hno : ∀ i, i < room → sl i ≠ name) (i : Nat) (hi : i < room) (hf : sl i = none4) (hl : ∀ j, j < i → sl j ≠ none4) :
    Calls Try.prog 64 #[.pointer (some ⟨p, 0, none⟩), .string name] w fun e w' => e = .returned (.tuple #[.int .i64 (i : Int), .int .i64 0]) ∧
      ∃ S' c' L', Ros w' p q S' c' room (upd sl i name) L' ∧ But (own p q S) w w' ∧ ∀ k, own p q S' k → own p q S k ∨ w.heap.size ≤ k := by
  obtain ⟨K, hK⟩ := h.seated.place name
  have F1 := made_yes p room room _ w h.first h.slots
  have F2 := valid_any name w
  rw [hv] at F2
  have F3 := fun {w'} (h : Ros w' p q S c room sl L) => search_ros h name K hK false (h.not_there (fun i hi e => absurd e (hno i hi)))
  have F4 := fun {w'} (h : Ros w' p q S c room sl L) => idx_first h.strs i hi hf hl
  have HS : Hid (Seated room (upd sl i name) (putAt L K (name, i))) := h.seated.put hK (vld_ne hv) hno hi hf
  have hKn := hK.le
  clear hv hK hno hl hf
  go_enter Try.func64, Try.ntmps64
  go_wp2_with fail
  refine F1.mono ?_
  rintro e w1 ⟨rfl, rfl⟩
  go_wp2_with fail
  refine F2.mono ?_
  rintro e w2 ⟨rfl, hb⟩
  go_wp2_with fail
  refine (F3 (h.below hb)).mono ?_
  rintro e w3 ⟨rfl, hb3⟩
  have h3 := (h.below hb).below hb3
  have B3 := hb.trans (hb3.mono hb.size)
  have hs := h3.slots
  go_wp2_with fail
  refine (F4 h3).mono ?_
  rintro e w4 ⟨rfl, rfl⟩
  have t : (i : Int) < (room : Int) := by omega
  have hc := h3.slot i hi
  have hq := h3.qthaw i
  have hse := h3.seats
  have hap := h3.apart
  have hse4 : (w4.setCell ⟨q, i, none⟩ (.string name)).cell? ⟨p, 0, none⟩ = some (.slice S L.length c) := by
    rw [World.cell?_setCell_other _ _ _ _ (by intro e; injection e with e1; exact hap e1.symm)]; exact hse
  go_wp2_with fail
  obtain ⟨W, hW⟩ : ∃ W, W = (w4.setCell ⟨q, i, none⟩ (.string name)).alloc (.cells #[.string name, .int .i64 (i : Int)] 121) := ⟨_, rfl⟩
  rw [← hW]
  have BW : But (fun k => k = q) w4 W := by rw [hW]; exact But.alloc (But.setCell (S := fun k => k = q) (But.refl _ w4) q i _ (fun _ => rfl)) _
  have sW : W.heap.size = w4.heap.size + 1 := by rw [hW]; simp
  have hvs : ∀ j v, (seatCells (name, i))[j]? = some v → W.cell? ⟨w4.heap.size, j, none⟩ = some v := fun j v hj => by
    rw [hW, World.cell?_alloc_at _ _ _ _ (by simp)]
    simpa [seatCells] using hj
  have hvf : ∀ j, W.frozen? ⟨w4.heap.size, j, none⟩ = false := fun j => by rw [hW]; exact World.frozen?_alloc_at _ _ _ j (by simp)
  have hpS : S ≠ some ⟨p, 0, none⟩ := by
    rcases h3.row with ⟨e, _⟩ | ⟨b, e, _, k, _⟩
    · rw [e]; simp
    · rw [e]; intro e'; injection e' with e'; injection e' with e'; exact k e'
  have hqS : S ≠ some ⟨q, 0, none⟩ := by
    rcases h3.row with ⟨e, _⟩ | ⟨b, e, _, _, k⟩
    · rw [e]; simp
    · rw [e]; intro e'; injection e' with e'; injection e' with e'; exact k e'
  have hrow : (S = none ∧ L.length = 0 ∧ c = 0) ∨ ∃ b, S = some ⟨b, 0, none⟩ ∧ SeatRow W b c L ∧ w4.heap.size ≠ b := by
    rcases h3.row with ⟨e, e1, e2⟩ | ⟨b, e, R, _, k⟩
    · exact .inl ⟨e, by rw [e1]; rfl, e2⟩
    · exact .inr ⟨b, e, R.kept BW k, by have := R.there; omega⟩
  have hpW : W.cell? ⟨p, 0, none⟩ = some (.slice S L.length c) := by rw [BW.cell h3.pthere hap]; exact hse
  have hsW : W.cell? ⟨p, 1, none⟩ = some (.slice (some ⟨q, 0, none⟩) room room) := by rw [BW.cell h3.pthere hap]; exact hs
  have htW : ∀ j, W.frozen? ⟨p, j, none⟩ = false := fun j => by rw [BW.frozen h3.pthere hap]; exact h3.pthaw j
  have hqW : ∀ j, j < room → W.cell? ⟨q, j, none⟩ = some (.string (upd sl i name j)) := fun j hj => by
    rw [hW, World.cell?_alloc_past _ _ _ (by simp; exact h3.qthere)]
    by_cases e : j = i
    · subst e
      rw [upd_same]
      exact World.cell?_setCell_same' _ _ _ (by rw [hc]; rfl)
    · rw [upd_other _ _ e, World.cell?_setCell_other _ _ _ _ (by intro e'; injection e' with _ e2; exact e e2.symm)]
      exact h3.slot j hj
  have htq : ∀ j, W.frozen? ⟨q, j, none⟩ = false := fun j => by rw [hW, World.frozen?_alloc_past _ _ _ (by simp; exact h3.qthere), World.frozen?_setCell]; exact h3.qthaw j
  have hpt := h3.pthere
  have hqt := h3.qthere
  have HB3 : Hid (Below w1.heap.size w1 w4) := B3
  refine (insert_any S L.length c K w4.heap.size L (name, i) W rfl hKn (by have := h3.len; omega) hrow hvs hvf).mono ?_
  rintro e W4 ⟨b', c', rfl, R', B', at'⟩
  have hp4 : W4.cell? ⟨p, 0, none⟩ = some (.slice S L.length c) := by rw [B'.cell (by omega) hpS]; exact hpW
  have hf4 : W4.frozen? ⟨p, 0, none⟩ = false := by rw [B'.frozen (by omega) hpS]; exact htW 0
  clear hse4 F1 F2 F3 F4 hs hc hq hse
  go_wp2_with fail
  go_ret2
  have hbp : b' ≠ p ∧ b' ≠ q := by
    rcases at' with e | e
    · exact ⟨fun k => hpS (by rw [e, k]), fun k => hqS (by rw [e, k])⟩
    · exact ⟨by omega, by omega⟩
  have BF : But (fun k => k = p) W4 (W4.setCell ⟨p, 0, none⟩ (.slice (some ⟨b', 0, none⟩) (L.length + 1) c')) := But.setCell (S := fun k => k = p) (But.refl _ W4) p 0 _ (fun _ => rfl)
  have hl : (putAt L K (name, i)).length = L.length + 1 := putAt_length _ _ _ hKn
  have p4 : p < W4.heap.size := Nat.lt_of_lt_of_le (by omega) B'.size
  have q4 : q < W4.heap.size := Nat.lt_of_lt_of_le (by omega) B'.size
  refine ⟨rfl, some ⟨b', 0, none⟩, c', putAt L K (name, i), ⟨?_, ?_, ?_, ?_, ?_, hap, .inr ⟨b', rfl, R'.kept BF hbp.1, hbp⟩, h3.first, h3.most, HS.out⟩, ?_, ?_⟩
  · rw [hl]; exact World.cell?_setCell_same' _ _ _ (by rw [hp4]; rfl)
  · rw [World.cell?_setCell_other _ _ _ _ (by simp), B'.cell (by omega) hpS]; exact hsW
  · intro j; rw [World.frozen?_setCell, B'.frozen (by omega) hpS]; exact htW j
  · intro j hj; rw [BF.cell q4 (fun e => hap e.symm), B'.cell (by omega) hqS]; exact hqW j hj
  · intro j; rw [BF.frozen q4 (fun e => hap e.symm), B'.frozen (by omega) hqS]; exact htq j
  · refine (((But.of_below (S := own p q S) HB3.out).trans BW ?_).trans B' ?_).trans BF ?_
    · rintro k _ rfl; exact .inr (.inl rfl)
    · intro k _ e; exact .inr (.inr e)
    · rintro k _ rfl; exact .inl rfl
  · rintro k (rfl | rfl | e)
    · exact .inl (.inl rfl)
    · exact .inl (.inr (.inl rfl))
    · injection e with e
      injection e with e
      subst e
      rcases at' with e | e
      · exact .inl (.inr (.inr e))
      · exact .inr (by have := HB3.out.size; omega)

end Go.Proofs.Ytfphjhmhiaepiaa
