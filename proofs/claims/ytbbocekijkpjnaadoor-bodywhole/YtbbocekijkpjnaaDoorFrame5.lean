/-
  How a slice of texts, and a slice of structs of two ints, that comes in reads.
-/
import Derived.Test.YtbbocekijkpjnaaDoorLists
import Derived.ChangeOld
import Derived.ShutString
import Derived.ChangeMaps5
import Derived.Deep.Strs
import Derived.Lib.SmallJoins
namespace Go.Proofs.YtbbocekijkpjnaaDoor
open Go.ChangeShapes Go.WideShapes Go.ChangeAt Go.RowKit

theorem open_texts {H : Type} {enc : TypeId × Value → H} {w : World} {base : Nat} {spare : Nat → Bool} {held : Bool} {fuel : Nat} {a : Option Addr} {n cap : Nat} {x : DataW H × List MemPlace} {t e : TypeId} (ht : Tryd.prog.underlying t = some (.slice e)) (he : Tryd.prog.underlying e = some .string) (hc : Tryd.prog.cellsOf e = 1)
    (h : DataW.trod enc Tryd.prog w base spare held fuel t [.slice a n cap] = some x) : ∃ f : Nat → ByteArray, Row w (.slice a n cap) n fun i => .string (f i) := by
  rcases Deep.open_strs ht he hc h with ⟨e, _⟩ | ⟨ad, len, cap', m, Sx, e, hb, hl, hm, hmm, _, hx⟩
  · simp only [List.cons.injEq, Value.slice.injEq, and_true] at e
    obtain ⟨rfl, rfl, rfl⟩ := e
    exact ⟨fun _ => ⟨#[]⟩, none, 0, rfl, Nat.le_refl _, by unfold maxLen; omega, fun i hi => absurd hi (by omega)⟩
  · simp only [List.cons.injEq, Value.slice.injEq, and_true] at e
    obtain ⟨rfl, rfl, rfl⟩ := e
    have hlm : n ≤ m := by rw [hmm]; split <;> omega
    refine ⟨Sx, some ad, cap, rfl, hl, hm, fun i hi => ?_⟩
    have hc := (hx i (by omega)).1
    obtain ⟨b, off, spot⟩ := ad
    have hspot : spot = none := by
      simpa [Addr.add] using World.cell?_spot (hx 0 (by omega)).1
    subst hspot
    refine ⟨b, off, rfl, ?_⟩
    rw [Addr.add_lit] at hc
    exact hc
end Go.Proofs.YtbbocekijkpjnaaDoor
