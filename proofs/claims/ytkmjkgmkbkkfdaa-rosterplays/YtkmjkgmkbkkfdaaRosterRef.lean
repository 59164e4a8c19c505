/-
  The reference's roster in memory, and the contracts of its Find, Put, Drop and Same.
-/
import Derived.Test.YtkmjkgmkbkkfdaaRosterSorted
namespace Go.Proofs.Ytkmjkgmkbkkfdaa
open Go.ChangeShapes Go.WideShapes Go.ChangeAt Go.RowKit Go.Lib

/-- The world holds at block p the reference's roster with the slots of block q. -/
structure Ref (w : World) (p q room : Nat) (sl : Nat → ByteArray) : Prop where
  slots : w.cell? ⟨p, 0, none⟩ = some (.slice (some ⟨q, 0, none⟩) room room)
  slot : ∀ i, i < room → w.cell? ⟨q, i, none⟩ = some (.string (sl i))
  qthaw : ∀ j, w.frozen? ⟨q, j, none⟩ = false
  apart : p ≠ q
  first : 0 < room
  most : room ≤ 1024
theorem Ref.pthere {w : World} {p q room : Nat} {sl : Nat → ByteArray} (h : Ref w p q room sl) : p < w.heap.size := World.block_lt_of_cell? _ _ h.slots
theorem Ref.qthere {w : World} {p q room : Nat} {sl : Nat → ByteArray} (h : Ref w p q room sl) : q < w.heap.size := World.block_lt_of_cell? _ _ (h.slot 0 h.first)
theorem Ref.kept {w w' : World} {p q room : Nat} {sl : Nat → ByteArray} {T : Nat → Prop} (h : Ref w p q room sl) (k : But T w w') (hp : ¬ T p) (hq : ¬ T q) : Ref w' p q room sl :=
  ⟨by rw [k.cell h.pthere hp]; exact h.slots, fun i hi => by rw [k.cell h.qthere hq]; exact h.slot i hi, fun j => by rw [k.frozen h.qthere hq]; exact h.qthaw j, h.apart, h.first, h.most⟩
theorem Ref.below {w w' : World} {p q room : Nat} {sl : Nat → ByteArray} (h : Ref w p q room sl) (k : Below w.heap.size w w') : Ref w' p q room sl :=
  h.kept (T := fun _ => False) (But.of_below k) id id
theorem Ref.set {w : World} {p q room : Nat} {sl : Nat → ByteArray} (h : Ref w p q room sl) (i : Nat) (hi : i < room) (a : ByteArray) : Ref (w.setCell ⟨q, i, none⟩ (.string a)) p q room (upd sl i a) := by
  have hap := h.apart
  refine ⟨?_, fun j hj => ?_, fun j => by rw [World.frozen?_setCell]; exact h.qthaw j, hap, h.first, h.most⟩
  · rw [World.cell?_setCell_other _ _ _ _ (by intro e; injection e with e1; exact hap e1.symm)]; exact h.slots
  · by_cases e : j = i
    · subst e
      rw [upd_same]
      exact World.cell?_setCell_same' _ _ _ (by rw [h.slot j hj]; rfl)
    · rw [upd_other _ _ e, World.cell?_setCell_other _ _ _ _ (by intro e'; injection e' with _ e2; exact e e2.symm)]
      exact h.slot j hj

set_option maxHeartbeats 2000000 in
theorem refFind_yes {w : World} {p q room : Nat} {sl : Nat → ByteArray} (h : Ref w p q room sl) (name : ByteArray) (i : Nat) (hi : i < room) (e : sl i = name) (hne : name ≠ none4) (hl : ∀ j, j < i → sl j ≠ name) :
    Calls Try.prog 18 #[.pointer (some ⟨p, 0, none⟩), .string name] w fun e w' => e = .returned (.int .i64 (i : Int)) ∧ w' = w := by
  have hs := h.slots
  have hm := h.most
  have hn : name.toList.isEmpty = false := by rw [empty_bytes]; exact decide_eq_false hne
  go_enter Try.func18, Try.ntmps18
  go_wp2_with fail
  go_loopw [5] (fun v wr => ∃ k : Nat, v = .int .i64 (k : Int) ∧ k ≤ i ∧ wr = w) (fun v _ => i - (RowKit.intOf v).toNat)
  case atStart => exact ⟨0, rfl, Nat.zero_le _, rfl⟩
  case round =>
    obtain ⟨k, rfl, hk, rfl⟩ := hrel
    have t : (k : Int) < (room : Int) := by omega
    have hc := h.slot k (by omega)
    have hb := beq_bytes (sl k) name
    by_cases hki : k = i
    · subst hki
      rw [decide_eq_true e] at hb
      generalize sl k = y at *
      clear hl hne e
      go_wp2_with fail
      go_ret
      exact ⟨rfl, rfl⟩
    · rw [decide_eq_false (hl k (by omega))] at hb
      clear hl hne e
      generalize sl k = y at *
      go_wp2_with fail
      go_roundw
      case rel => exact ⟨k + 1, by simp, by omega, trivial⟩
      case measure => simp [RowKit.intOf]; omega
set_option maxHeartbeats 2000000 in
theorem refFind_no {w : World} {p q room : Nat} {sl : Nat → ByteArray} (h : Ref w p q room sl) (name : ByteArray) (hno : ∀ i, i < room → sl i = name → name = none4) :
    Calls Try.prog 18 #[.pointer (some ⟨p, 0, none⟩), .string name] w fun e w' => e = .returned (.int .i64 (-1)) ∧ w' = w := by
  have hs := h.slots
  have hm := h.most
  have hn := empty_bytes name
  go_enter Try.func18, Try.ntmps18
  go_wp2_with fail
  go_loopw [5] (fun v wr => ∃ k : Nat, v = .int .i64 (k : Int) ∧ k ≤ room ∧ wr = w) (fun v _ => room - (RowKit.intOf v).toNat)
  case atStart => exact ⟨0, rfl, Nat.zero_le _, rfl⟩
  case round =>
    obtain ⟨k, rfl, hk, rfl⟩ := hrel
    by_cases hlt : k < room
    · have t : (k : Int) < (room : Int) := by omega
      have hc := h.slot k (by omega)
      have hb := beq_bytes (sl k) name
      by_cases e : sl k = name
      · have hne := hno k hlt e
        rw [decide_eq_true e] at hb
        rw [decide_eq_true hne] at hn
        clear hno e hne
        generalize sl k = y at *
        go_wp2_with fail
        go_roundw
        case rel => exact ⟨k + 1, by simp, by omega, trivial⟩
        case measure => simp [RowKit.intOf]; omega
      · rw [decide_eq_false e] at hb
        clear hno e hn
        generalize sl k = y at *
        go_wp2_with fail
        go_roundw
        case rel => exact ⟨k + 1, by simp, by omega, trivial⟩
        case measure => simp [RowKit.intOf]; omega
    · obtain rfl : k = room := by omega
      have t : ¬ (k : Int) < (k : Int) := by omega
      clear hno hn
      go_wp2_with fail
      go_ret
      exact ⟨rfl, rfl⟩
set_option maxHeartbeats 1000000 in
theorem refDrop_no {w : World} {p q room : Nat} {sl : Nat → ByteArray} (h : Ref w p q room sl) (name : ByteArray) (hno : ∀ i, i < room → sl i = name → name = none4) :
    Calls Try.prog 16 #[.pointer (some ⟨p, 0, none⟩), .string name] w fun e w' => e = .returned (.int .i64 42) ∧ w' = w := by
  have F1 := refFind_no h name hno
  clear hno
  go_enter Try.func16, Try.ntmps16
  go_wp2_with fail
  refine F1.mono ?_
  rintro e w1 ⟨rfl, rfl⟩
  go_wp2_with fail
  go_ret
  exact ⟨rfl, rfl⟩
set_option maxHeartbeats 1000000 in
theorem refDrop_ok {w : World} {p q room : Nat} {sl : Nat → ByteArray} (h : Ref w p q room sl) (name : ByteArray) (i : Nat) (hi : i < room) (e : sl i = name) (hne : name ≠ none4) (hl : ∀ j, j < i → sl j ≠ name) :
    Calls Try.prog 16 #[.pointer (some ⟨p, 0, none⟩), .string name] w fun e w' => e = .returned (.int .i64 0) ∧ w' = w.setCell ⟨q, i, none⟩ (.string none4) := by
  have F1 := refFind_yes h name i hi e hne hl
  have hs := h.slots
  have hc := h.slot i hi
  have hz := h.qthaw i
  have t : (i : Int) < (room : Int) := by omega
  have t' : ¬ (i : Int) < 0 := by omega
  generalize sl i = y at *
  clear hl hne e
  go_enter Try.func16, Try.ntmps16
  go_wp2_with fail
  refine F1.mono ?_
  rintro e w1 ⟨rfl, rfl⟩
  go_wp2_with fail
  go_ret
  exact ⟨rfl, rfl⟩
set_option maxHeartbeats 1000000 in
theorem refPut_name {w : World} {p : Nat} (name : ByteArray) (hs : name.size ≤ 300) (hv : vldB name = false) :
    Calls Try.prog 14 #[.pointer (some ⟨p, 0, none⟩), .string name] w fun e w' => e = .returned (.tuple #[.int .i64 0, .int .i64 43]) ∧ Below w.heap.size w w' := by
  have F1 := refValid_any name w hs
  rw [hv] at F1
  clear hv hs
  go_enter Try.func14, Try.ntmps14
  go_wp2_with fail
  refine F1.mono ?_
  rintro e w1 ⟨rfl, hb⟩
  go_wp2_with fail
  go_ret2
  exact ⟨rfl, hb⟩
set_option maxHeartbeats 1000000 in
theorem refPut_twice {w : World} {p q room : Nat} {sl : Nat → ByteArray} (h : Ref w p q room sl) (name : ByteArray) (hs : name.size ≤ 300) (hv : vldB name = true) (i : Nat) (hi : i < room) (e : sl i = name) (hl : ∀ j, j < i → sl j ≠ name) :
    Calls Try.prog 14 #[.pointer (some ⟨p, 0, none⟩), .string name] w fun e w' => e = .returned (.tuple #[.int .i64 0, .int .i64 41]) ∧ Below w.heap.size w w' := by
  have F1 := refValid_any name w hs
  have F2 := fun {w'} (h : Ref w' p q room sl) => refFind_yes h name i hi e (vld_ne hv) hl
  have t' : (0 : Int) ≤ (i : Int) := by omega
  rw [hv] at F1
  clear hv hs e hl
  go_enter Try.func14, Try.ntmps14
  go_wp2_with fail
  refine F1.mono ?_
  rintro e w1 ⟨rfl, hb⟩
  go_wp2_with fail
  refine (F2 (h.below hb)).mono ?_
  rintro e w2 ⟨rfl, rfl⟩
  go_wp2_with fail
  go_ret2
  exact ⟨rfl, hb⟩
set_option maxHeartbeats 2000000 in
theorem refPut_ok {w : World} {p q room : Nat} {sl : Nat → ByteArray} (h : Ref w p q room sl) (name : ByteArray) (hs : name.size ≤ 300) (hv : vldB name = true) (hno : ∀ i, i < room → sl i ≠ name) (i : Nat) (hi : i < room) (hf : sl i = none4) (hl : ∀ j, j < i → sl j ≠ none4) :
    Calls Try.prog 14 #[.pointer (some ⟨p, 0, none⟩), .string name] w fun e w' => e = .returned (.tuple #[.int .i64 (i : Int), .int .i64 0]) ∧ Ref w' p q room (upd sl i name) ∧ But (fun k => k = q) w w' := by
  have F1 := refValid_any name w hs
  have F2 := fun {w'} (h : Ref w' p q room sl) => refFind_no h name (fun i hi e => absurd e (hno i hi))
  have hm := h.most
  rw [hv] at F1
  clear hv hs hno
  go_enter Try.func14, Try.ntmps14
  go_wp2_with fail
  refine F1.mono ?_
  rintro e w1 ⟨rfl, hb⟩
  have h1 := h.below hb
  go_wp2_with fail
  refine (F2 h1).mono ?_
  rintro e w2 ⟨rfl, rfl⟩
  have hsl := h1.slots
  clear F1 F2
  go_wp2_with fail
  go_loopw [6] (fun v wr => ∃ k : Nat, v = .int .i64 (k : Int) ∧ k ≤ i ∧ wr = w2) (fun v _ => i - (RowKit.intOf v).toNat)
  case atStart => exact ⟨0, rfl, Nat.zero_le _, rfl⟩
  case round =>
    obtain ⟨k, rfl, hk, rfl⟩ := hrel
    have t : (k : Int) < (room : Int) := by omega
    have hc := h1.slot k (by omega)
    have he := empty_bytes (sl k)
    by_cases hki : k = i
    · subst hki
      have hz := h1.qthaw k
      have hset := h1.set k hi name
      rw [decide_eq_true hf] at he
      have HS : Hid (Ref (wr.setCell ⟨q, k, none⟩ (.string name)) p q room (upd sl k name)) := hset
      clear hset
      generalize sl k = y at *
      clear hl hf
      go_wp2_with fail
      go_ret2
      exact ⟨rfl, HS.out, But.setCell (S := fun k => k = q) (But.of_below hb) q k _ (fun _ => rfl)⟩
    · rw [decide_eq_false (hl k (by omega))] at he
      clear hl hf
      generalize sl k = y at *
      go_wp2_with fail
      go_roundw
      case rel => exact ⟨k + 1, by simp, by omega, trivial⟩
      case measure => simp [RowKit.intOf]; omega
set_option maxHeartbeats 2000000 in
theorem refPut_full {w : World} {p q room : Nat} {sl : Nat → ByteArray} (h : Ref w p q room sl) (name : ByteArray) (hs : name.size ≤ 300) (hv : vldB name = true) (hno : ∀ i, i < room → sl i ≠ name) (hl : ∀ j, j < room → sl j ≠ none4) :
    Calls Try.prog 14 #[.pointer (some ⟨p, 0, none⟩), .string name] w fun e w' => e = .returned (.tuple #[.int .i64 0, .int .i64 40]) ∧ Below w.heap.size w w' := by
  have F1 := refValid_any name w hs
  have F2 := fun {w'} (h : Ref w' p q room sl) => refFind_no h name (fun i hi e => absurd e (hno i hi))
  have hm := h.most
  rw [hv] at F1
  clear hv hs hno
  go_enter Try.func14, Try.ntmps14
  go_wp2_with fail
  refine F1.mono ?_
  rintro e w1 ⟨rfl, hb⟩
  have h1 := h.below hb
  go_wp2_with fail
  refine (F2 h1).mono ?_
  rintro e w2 ⟨rfl, rfl⟩
  have hsl := h1.slots
  clear F1 F2
  go_wp2_with fail
  go_loopw [6] (fun v wr => ∃ k : Nat, v = .int .i64 (k : Int) ∧ k ≤ room ∧ wr = w2) (fun v _ => room - (RowKit.intOf v).toNat)
  case atStart => exact ⟨0, rfl, Nat.zero_le _, rfl⟩
  case round =>
    obtain ⟨k, rfl, hk, rfl⟩ := hrel
    by_cases hlt : k < room
    · have t : (k : Int) < (room : Int) := by omega
      have hc := h1.slot k (by omega)
      have he := empty_bytes (sl k)
      rw [decide_eq_false (hl k (by omega))] at he
      clear hl
      generalize sl k = y at *
      go_wp2_with fail
      go_roundw
      case rel => exact ⟨k + 1, by simp, by omega, trivial⟩
      case measure => simp [RowKit.intOf]; omega
    · obtain rfl : k = room := by omega
      have t : ¬ (k : Int) < (k : Int) := by omega
      clear hl
      go_wp2_with fail
      go_ret2
      exact ⟨rfl, hb⟩
set_option maxHeartbeats 1000000 in
theorem same4_yes (f : Nat → ByteArray) (n : Nat) (u v : Value) (w : World) (hn : n ≤ 2000) (hu : Row w u n fun i => .string (f i)) (hv : Row w v n fun i => .string (f i)) :
    Calls Try.prog 22 #[u, v] w fun e w' => e = .returned (.bool true) ∧ Below w.heap.size w w' := by
  obtain ⟨a, cap, rfl, h1, h2, h3⟩ := id hu
  obtain ⟨b, cap', rfl, k1, k2, k3⟩ := id hv
  unfold maxLen at h2 k2
  go_enter Try.func22, Try.ntmps22
  go_wp2_with fail
  go_loopw [5] (fun c wr => ∃ k : Nat, c = .int .i64 (k : Int) ∧ k ≤ n ∧ Below w.heap.size w wr) (fun c _ => n - (RowKit.intOf c).toNat)
  case atStart => exact ⟨0, rfl, Nat.zero_le _, Below.refl _ _⟩
  case round =>
    obtain ⟨k, rfl, hk, hB⟩ := hrel
    by_cases hlt : k < n
    · have t : (k : Int) < (n : Int) := by omega
      obtain ⟨b1, off1, rfl, c1⟩ := h3 k hlt
      obtain ⟨b2, off2, rfl, c2⟩ := k3 k hlt
      have d1 := (hB.cell (World.block_lt_of_cell? _ _ c1)).trans c1
      have d2 := (hB.cell (World.block_lt_of_cell? _ _ c2)).trans c2
      clear h3 k3 c1 c2
      generalize f k = y at *
      go_wp2_with fail
      go_quiet (fail)
      go_wp2_with fail
      go_roundw
      case rel => exact ⟨k + 1, by simp, by omega, ⟨hB.os, hB.tape, hB.output, hB.size, hB.block⟩⟩
      case measure => simp [RowKit.intOf]; omega
    · have hkn : k = n := by omega
      subst hkn
      have t : ¬ (k : Int) < (k : Int) := by omega
      go_wp2_with fail
      go_ret
      exact ⟨rfl, hB⟩
end Go.Proofs.Ytkmjkgmkbkkfdaa
