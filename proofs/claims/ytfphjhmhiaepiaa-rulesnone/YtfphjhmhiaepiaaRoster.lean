/-
  A roster in memory, and the contracts of roster's New, Find, Name, Count.
-/
import Derived.Test.YtfphjhmhiaepiaaSeats
namespace Go.Proofs.Ytfphjhmhiaepiaa
open Go.ChangeShapes Go.WideShapes Go.ChangeAt Go.RowKit Go.Lib

/-- The world holds at block p a roster with the slots of block q, the seats of S, the names sl by their slots and L in their order. -/
structure Ros (w : World) (p q : Nat) (S : Option Addr) (c room : Nat) (sl : Nat → ByteArray) (L : List (ByteArray × Nat)) : Prop where
  seats : w.cell? ⟨p, 0, none⟩ = some (.slice S L.length c)
  slots : w.cell? ⟨p, 1, none⟩ = some (.slice (some ⟨q, 0, none⟩) room room)
  pthaw : ∀ j, w.frozen? ⟨p, j, none⟩ = false
  slot : ∀ i, i < room → w.cell? ⟨q, i, none⟩ = some (.string (sl i))
  qthaw : ∀ j, w.frozen? ⟨q, j, none⟩ = false
  apart : p ≠ q
  row : (S = none ∧ L = [] ∧ c = 0) ∨ ∃ b, S = some ⟨b, 0, none⟩ ∧ SeatRow w b c L ∧ b ≠ p ∧ b ≠ q
  first : 0 < room
  most : room ≤ 1024
  seated : Seated room sl L
/-- The blocks that are a roster's own. -/
def own (p q : Nat) (S : Option Addr) (k : Nat) : Prop := k = p ∨ k = q ∨ S = some ⟨k, 0, none⟩
theorem Ros.pthere {w : World} {p q c room : Nat} {S : Option Addr} {sl : Nat → ByteArray} {L : List (ByteArray × Nat)} (h : Ros w p q S c room sl L) : p < w.heap.size := World.block_lt_of_cell? _ _ h.seats
theorem Ros.qthere {w : World} {p q c room : Nat} {S : Option Addr} {sl : Nat → ByteArray} {L : List (ByteArray × Nat)} (h : Ros w p q S c room sl L) : q < w.heap.size := World.block_lt_of_cell? _ _ (h.slot 0 h.first)
theorem Ros.there {w : World} {p q c room : Nat} {S : Option Addr} {sl : Nat → ByteArray} {L : List (ByteArray × Nat)} (h : Ros w p q S c room sl L) {k : Nat} (hk : own p q S k) : k < w.heap.size := by
  rcases hk with rfl | rfl | hk
  · exact h.pthere
  · exact h.qthere
  · rcases h.row with ⟨e, _⟩ | ⟨b, e, R, _⟩
    · rw [e] at hk; cases hk
    · rw [e] at hk
      injection hk with hk
      injection hk with hk
      rw [← hk]
      exact R.there
theorem Ros.kept {w w' : World} {p q c room : Nat} {S : Option Addr} {sl : Nat → ByteArray} {L : List (ByteArray × Nat)} {T : Nat → Prop} (h : Ros w p q S c room sl L) (k : But T w w') (hT : ∀ i, own p q S i → ¬ T i) : Ros w' p q S c room sl L := by
  have hp := hT p (.inl rfl)
  have hq := hT q (.inr (.inl rfl))
  refine ⟨by rw [k.cell h.pthere hp]; exact h.seats, by rw [k.cell h.pthere hp]; exact h.slots, fun j => by rw [k.frozen h.pthere hp]; exact h.pthaw j, fun i hi => by rw [k.cell h.qthere hq]; exact h.slot i hi, fun j => by rw [k.frozen h.qthere hq]; exact h.qthaw j, h.apart, ?_, h.first, h.most, h.seated⟩
  rcases h.row with e | ⟨b, e, R, hb⟩
  · exact .inl e
  · exact .inr ⟨b, e, R.kept k (hT b (.inr (.inr e))), hb⟩
theorem Ros.below {w w' : World} {p q c room : Nat} {S : Option Addr} {sl : Nat → ByteArray} {L : List (ByteArray × Nat)} (h : Ros w p q S c room sl L) (k : Below w.heap.size w w') : Ros w' p q S c room sl L :=
  h.kept (T := fun _ => False) (But.of_below k) (fun _ _ => id)
theorem Ros.len {w : World} {p q c room : Nat} {S : Option Addr} {sl : Nat → ByteArray} {L : List (ByteArray × Nat)} (h : Ros w p q S c room sl L) : L.length ≤ 1024 := Nat.le_trans h.seated.le h.most
/-- What search asks. -/
theorem Ros.names {w : World} {p q c room : Nat} {S : Option Addr} {sl : Nat → ByteArray} {L : List (ByteArray × Nat)} (h : Ros w p q S c room sl L) : ∀ i, i < L.length → ∃ s, S = some ⟨s, 0, none⟩ ∧ w.cell? ⟨s, i * 2, none⟩ = some (.string (nmOf L i)) := fun i hi => by
  rcases h.row with ⟨_, e, _⟩ | ⟨b, e, R, _⟩
  · rw [e] at hi; simp at hi
  · exact ⟨b, e, R.cells _ _ (by rw [nmOf_at hi]; exact (flat_at L i hi).1)⟩
theorem Ros.nums {w : World} {p q c room : Nat} {S : Option Addr} {sl : Nat → ByteArray} {L : List (ByteArray × Nat)} (h : Ros w p q S c room sl L) : ∀ i, i < L.length → ∃ s, S = some ⟨s, 0, none⟩ ∧ w.cell? ⟨s, i * 2 + 1, none⟩ = some (.int .i64 (slOf L i : Int)) := fun i hi => by
  rcases h.row with ⟨_, e, _⟩ | ⟨b, e, R, _⟩
  · rw [e] at hi; simp at hi
  · exact ⟨b, e, R.cells _ _ (by rw [slOf_at hi]; exact (flat_at L i hi).2)⟩

theorem search_ros {w : World} {p q c room : Nat} {S : Option Addr} {sl : Nat → ByteArray} {L : List (ByteArray × Nat)} (h : Ros w p q S c room sl L) (name : ByteArray) (K : Nat) (hK : Place (nmOf L) L.length name K) (b : Bool) (hb : decide (K < L.length ∧ nmOf L K = name) = b) :
    Calls Try.prog 75 #[.pointer (some ⟨p, 0, none⟩), .string name] w fun e w' => e = .returned (.tuple #[.int .i64 (K : Int), .bool b]) ∧ Below w.heap.size w w' := by
  rw [← hb]
  exact search_at p L.length c K S (nmOf L) name w (by have := h.len; omega) hK h.seated.sorted h.seats h.names

theorem infoStr : (Try.prog.info? 9).map (fun i => (i.zero, i.size, i.bytes)) = some (some (.string { data := #[] }), 1, 16) := by kernel_rfl
theorem run_make_strs (room : Nat) (hr : room ≤ 1024) (w : World) : (Instr.makeSlice 60 (.int .i64 (room : Int)) (.int .i64 (room : Int))).run Try.prog w = .ok (.slice (some ⟨w.heap.size, 0, none⟩) room room) (w.alloc (.cells (madeCells #[.string { data := #[] }] room) 9)) := by
  obtain ⟨i0, hi0, hz0, hzs, hzb⟩ := info_parts infoStr
  have := run_make (P := Try.prog) w 60 9 i0 _ Try.underlying60 hi0 hz0 .i64 .i64 (room : Int) (room : Int) (by omega) (by omega) (by rw [hzb]; omega) (by omega)
  rw [hzs, Int.toNat_natCast, Nat.mul_one] at this
  exact this
theorem made_str (room i : Nat) (h : i < room) : (madeCells #[.string { data := #[] }] room)[i]? = some (.string none4) := by
  simp [madeCells, h, Nat.mod_one]

set_option maxHeartbeats 1000000 in
theorem new_no (room : Int) (w : World) (h : room < 1 ∨ 1024 < room) : Calls Try.prog 63 #[.int .i64 room] w fun e w' => e = .returned (.tuple #[.pointer none, .int .i64 2]) ∧ w' = w := by
  by_cases h1 : room < 1
  · go_enter Try.func63, Try.ntmps63
    go_wp2
    go_ret2
    exact ⟨rfl, rfl⟩
  · have h2 : 1024 < room := by omega
    go_enter Try.func63, Try.ntmps63
    go_wp2
    go_ret2
    exact ⟨rfl, rfl⟩
set_option maxHeartbeats 1000000 in
theorem new_yes (room : Nat) (w : World) (h1 : 0 < room) (h2 : room ≤ 1024) : Calls Try.prog 63 #[.int .i64 (room : Int)] w fun e w' =>
    e = .returned (.tuple #[.pointer (some ⟨w.heap.size + 1, 0, none⟩), .int .i64 0]) ∧ Ros w' (w.heap.size + 1) w.heap.size none 0 room (fun _ => none4) [] ∧ Below w.heap.size w w' ∧ w'.heap.size = w.heap.size + 2 := by
  have t1 : ¬ (room : Int) < 1 := by omega
  have t2 : ¬ (1024 : Int) < (room : Int) := by omega
  have hmk := run_make_strs room h2
  have hcell := made_str room
  obtain ⟨A, HA'⟩ : ∃ A, madeCells #[.string { data := #[] }] room = A := ⟨_, rfl⟩
  rw [HA'] at hmk hcell
  have HC : Hid (∀ i, i < room → A[i]? = some (.string none4)) := hcell
  clear HA' hcell
  go_enter Try.func63, Try.ntmps63
  go_wp2
  go_ret2
  refine ⟨rfl, ⟨by simp, by simp, fun j => by simp, fun i hi => ?_, fun j => by simp, by omega, .inl ⟨rfl, rfl, rfl⟩, h1, h2, Seated.new room⟩, ((Below.refl _ w).alloc (Nat.le_refl _) _).alloc (by simp) _, by simp⟩
  rw [World.cell?_alloc_past _ _ _ (by simp), World.cell?_alloc_at _ _ _ _ rfl]
  exact HC.out i hi

theorem Ros.is_there {w : World} {p q c room : Nat} {S : Option Addr} {sl : Nat → ByteArray} {L : List (ByteArray × Nat)} (h : Ros w p q S c room sl L) {name : ByteArray} {K i : Nat} (hK : Place (nmOf L) L.length name K) (hi : i < room) (e : sl i = name) (hne : name ≠ none4) : decide (K < L.length ∧ nmOf L K = name) = true := by
  obtain ⟨h1, h2, _⟩ := h.seated.found hK hi e hne
  exact decide_eq_true ⟨h1, h2⟩
theorem Ros.not_there {w : World} {p q c room : Nat} {S : Option Addr} {sl : Nat → ByteArray} {L : List (ByteArray × Nat)} (h : Ros w p q S c room sl L) {name : ByteArray} {K : Nat} (hno : ∀ i, i < room → sl i = name → name = none4) : decide (K < L.length ∧ nmOf L K = name) = false := by
  refine decide_eq_false ?_
  rintro ⟨h1, h2⟩
  obtain ⟨a, b, d⟩ := h.seated.at h1
  rw [h2] at b d
  exact d (hno _ a b)

end Go.Proofs.Ytfphjhmhiaepiaa
