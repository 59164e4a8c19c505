/-
  How a slice of ints that comes in reads: as a row, with 0 beyond its end.
-/
import Derived.Test.YtdacfnodihannaaLists
import Derived.ChangeOld
import Derived.ShutString
import Derived.Lib.SmallJoins
namespace Go.Proofs.Ytdacfnodihannaa
open Go.ChangeShapes Go.WideShapes Go.ChangeAt Go.RowKit

theorem row_none (W : World) : ∃ f : Nat → Int, Row W (.slice none 0 0) 0 (fun i => .int .i64 (f i)) ∧ (∀ i, 0 ≤ i → f i = 0) ∧ ∀ i, -9223372036854775808 ≤ f i ∧ f i ≤ 9223372036854775807 :=
  ⟨fun _ => 0, ⟨none, 0, rfl, Nat.le_refl _, by unfold maxLen; omega, fun i hi => absurd hi (by omega)⟩, fun _ _ => rfl, fun _ => by dsimp only; omega⟩
theorem row_some {W : World} {x : Addr} {len cap : Nat} {zs : List Int} (hl : len ≤ cap) (hm : cap ≤ maxLen) (hz : zs.length = cap) (hcell : ∀ i, i < zs.length → W.cell? (x.add i) = some (.int .i64 (zs.getD i 0))) (hb : ∀ z ∈ zs, -9223372036854775808 ≤ z ∧ z ≤ 9223372036854775807) :
    ∃ f : Nat → Int, Row W (.slice (some x) len cap) len (fun i => .int .i64 (f i)) ∧ (∀ i, len ≤ i → f i = 0) ∧ ∀ i, -9223372036854775808 ≤ f i ∧ f i ≤ 9223372036854775807 := by
  refine ⟨fun i => if i < len then zs.getD i 0 else 0, ⟨some x, cap, rfl, hl, hm, fun i hi => ?_⟩, fun i hi => if_neg (by omega), fun i => ?_⟩
  · have hc := hcell i (by omega)
    obtain ⟨b, off, spot⟩ := x
    have hspot : spot = none := by
      simpa [Addr.add] using World.cell?_spot (hcell 0 (by omega))
    subst hspot
    refine ⟨b, off, rfl, ?_⟩
    have e : (⟨b, off, none⟩ : Addr).add i = ⟨b, off + i, none⟩ := by unfold Addr.add; split <;> simp_all
    rw [e] at hc
    show _ = some (Value.int .i64 (if i < len then _ else _))
    rw [if_pos hi]
    exact hc
  · show _ ≤ (if i < len then zs.getD i 0 else 0) ∧ (if i < len then zs.getD i 0 else 0) ≤ _
    by_cases hi : i < len
    · rw [if_pos hi]
      have hi' : i < zs.length := by omega
      rw [show zs.getD i 0 = zs[i] from by simp [hi']]
      exact hb _ (List.getElem_mem hi')
    · rw [if_neg hi]; omega
end Go.Proofs.Ytdacfnodihannaa
