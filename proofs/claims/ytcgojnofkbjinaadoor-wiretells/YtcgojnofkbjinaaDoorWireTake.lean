/-
  A cursor in memory; the contract of its take: so many bytes, or the panic where there are not so many.
-/
import Derived.Test.YtcgojnofkbjinaaDoorWireMath
import Derived.Test.YtcgojnofkbjinaaDoorOwnRows
import Derived.Deep.QuietTactic
import Derived.BigQuiet
namespace Go.Proofs.YtcgojnofkbjinaaDoor
open Go.ChangeShapes Go.WideShapes Go.ChangeAt Go.RowKit Go.Lib

/-- A cursor at block b: its text, its place. -/
structure Cur (w : World) (b : Nat) (s : ByteArray) (k : Nat) : Prop where
  text : w.cell? ⟨b, 0, none⟩ = some (.string s)
  place : w.cell? ⟨b, 1, none⟩ = some (.int .i64 (k : Int))
  free : w.frozen? ⟨b, 1, none⟩ = false
/-- What a cursor gives up by. -/
abbrev gaveUp (c : Nat) : Ending := .panicked [{ v := .iface 26 (.int .i64 (c : Int)), recovered := false }]
theorem Cur.lt {w : World} {b : Nat} {s : ByteArray} {k : Nat} (h : Cur w b s k) : b < w.heap.size := World.block_lt_of_cell? _ _ h.text
theorem Cur.drewN {w : World} {b : Nat} {s : ByteArray} {k : Nat} (h : Cur w b s k) (m : Nat) : Cur (w.drewN m) b s k := ⟨h.text, h.place, h.free⟩
theorem Cur.still {w w' : World} {b : Nat} {s : ByteArray} {k : Nat} (h : Cur w b s k) (hb : Below w.heap.size w w') : Cur w' b s k :=
  ⟨by rw [hb.cell (p := ⟨b, 0, none⟩) h.lt]; exact h.text, by rw [hb.cell (p := ⟨b, 1, none⟩) h.lt]; exact h.place, by
    have := hb.block b h.lt
    have f := h.free
    simp only [World.frozen?, this] at f ⊢
    exact f⟩
theorem Cur.moved {w : World} {b : Nat} {s : ByteArray} {k : Nat} (h : Cur w b s k) (m : Nat) : Cur (w.setCell ⟨b, 1, none⟩ (.int .i64 (m : Int))) b s m := by
  obtain ⟨h1, h2, h3⟩ := h
  refine ⟨?_, ?_, ?_⟩
  · rw [World.cell?_setCell_other _ _ _ _ (by simp)]; exact h1
  · exact World.cell?_setCell_same _ _ _ h2
  · rw [World.frozen?_setCell]; exact h3
theorem Cur.took {w : World} {b : Nat} {s : ByteArray} {k : Nat} (h : Cur w b s k) (n : Nat) {p q : Nat} : Cur (((w.drewN p).setCell ⟨b, 1, none⟩ (.int .i64 ((k : Int) + (n : Int)))).drewN q) b s (k + n) := by
  have := ((h.drewN p).moved (k + n)).drewN q
  rw [Int.natCast_add] at this
  exact this
set_option maxRecDepth 1000000 in
set_option maxHeartbeats 2000000 in
theorem take_ok (b : Nat) (s : ByteArray) (k n : Nat) (w : World) (hc : Cur w b s k) (h : k + n ≤ s.size) (hs : s.size ≤ maxLen) :
    Calls Tryd.prog 26 #[.pointer (some ⟨b, 0, none⟩), .int .i64 (n : Int)] w fun e w' => e = .returned (.string (s.extract k (k + n))) ∧ Cur w' b s (k + n) ∧ But (fun j => j = b) w w' := by
  unfold maxLen at hs
  have HC : Hid (Cur w b s k) := hc
  obtain ⟨c0, c1, cf⟩ := hc
  have t0 : ¬ ((s.size : Int) - (k : Int) < (n : Int)) := by omega
  go_enter Tryd.func26, Tryd.ntmps26
  go_wp2_with fail
  go_quiet (fail)
  go_wp2_with fail
  go_quiet (fail)
  go_wp2_with fail
  go_ret
  exact ⟨rfl, HC.out.took n, ((But.drewN (But.refl (fun j => j = b) w) _).setCell b 1 _ (fun _ => rfl)).drewN _⟩
set_option maxRecDepth 1000000 in
set_option maxHeartbeats 2000000 in
theorem take_short (b : Nat) (s : ByteArray) (k n : Nat) (w : World) (hc : Cur w b s k) (h : s.size < k + n) (hk : k ≤ s.size) (hs : s.size ≤ maxLen) :
    Calls Tryd.prog 26 #[.pointer (some ⟨b, 0, none⟩), .int .i64 (n : Int)] w fun e w' => e = gaveUp 100 ∧ ∃ m, w' = w.drewN m := by
  unfold maxLen at hs
  obtain ⟨c0, c1, cf⟩ := hc
  have t0 : ((s.size : Int) - (k : Int) < (n : Int)) := by omega
  go_enter Tryd.func26, Tryd.ntmps26
  go_wp2_with fail
  go_quiet (fail)
  go_wp2_with fail
  exact ⟨rfl, rfl, _, rfl⟩
end Go.Proofs.YtcgojnofkbjinaaDoor
