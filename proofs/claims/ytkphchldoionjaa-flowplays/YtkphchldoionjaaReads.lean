/-
  What it is for a slice of bits to read as a list in a world; contracts of the reference's at and trim.
-/
import Derived.Test.YtkphchldoionjaaRows
import Derived.Test.YtkphchldoionjaaBits
import Derived.WalkKit
import Derived.WalkSpells
import Derived.WalkLawsBesides
import Derived.ProofKit
import Derived.OpenShut
import Derived.Outline
import Derived.Deep.RegionHeld3
import Derived.Deep.QuietTactic
import Derived.BigQuiet
import Derived.Deep.DeepCutAuto
namespace Go.Proofs.Ytkphchldoionjaa
open Go.ChangeShapes Go.WideShapes Go.ChangeAt Go.RowKit

/-- The slice value v reads as the bits l, which lie in blocks from number B on. -/
def Reads (B : Nat) (w : World) (v : Value) (l : List Bool) : Prop :=
  ∃ a cap, v = .slice a l.length cap ∧ l.length ≤ cap ∧ cap ≤ maxLen ∧ (∀ i, i < l.length → ∃ b off, a = some ⟨b, off, none⟩ ∧ B ≤ b ∧ w.cell? ⟨b, off + i, none⟩ = some (.bool (l.getD i false)))
theorem Reads.below {B : Nat} {w w' : World} {v : Value} {l : List Bool} (h : Reads B w v l) (hb : Below w.heap.size w w') : Reads B w' v l := by
  obtain ⟨a, cap, rfl, h1, h2, h3⟩ := h
  refine ⟨a, cap, rfl, h1, h2, fun i hi => ?_⟩
  obtain ⟨b, off, e, hB, hc⟩ := h3 i hi
  exact ⟨b, off, e, hB, by rw [hb.cell (World.block_lt_of_cell? _ _ hc)]; exact hc⟩
theorem Reads.mono {B C : Nat} {w : World} {v : Value} {l : List Bool} (h : Reads B w v l) (hC : C ≤ B) : Reads C w v l := by
  obtain ⟨a, cap, rfl, h1, h2, h3⟩ := h
  refine ⟨a, cap, rfl, h1, h2, fun i hi => ?_⟩
  obtain ⟨b, off, e, hB, hc⟩ := h3 i hi
  exact ⟨b, off, e, by omega, hc⟩
/-- A cell below is written. -/
theorem Reads.setCell {B : Nat} {w : World} {v : Value} {l : List Bool} (h : Reads B w v l) {p : Addr} (hp : p.block < B) (u : Value) : Reads B (w.setCell p u) v l := by
  obtain ⟨a, cap, rfl, h1, h2, h3⟩ := h
  refine ⟨a, cap, rfl, h1, h2, fun i hi => ?_⟩
  obtain ⟨b, off, e, hB, hc⟩ := h3 i hi
  refine ⟨b, off, e, hB, ?_⟩
  rw [World.cell?_of_block (w := w) (Below.heap_setCell _ _ _ _ (by show b ≠ p.block; omega))]
  exact hc
theorem reads_nil (B : Nat) (w : World) : Reads B w (.slice none 0 0) [] := ⟨none, 0, rfl, by simp, by simp [maxLen], fun i hi => by simp at hi⟩
theorem Reads.take {B : Nat} {w : World} {a : Option Addr} {n cap : Nat} {l : List Bool} (h : Reads B w (.slice a n cap) l) (k : Nat) (hk : k ≤ l.length) : Reads B w (.slice a k cap) (l.take k) := by
  obtain ⟨a', cap', e, h1, h2, h3⟩ := h
  simp only [Value.slice.injEq] at e
  obtain ⟨rfl, rfl, rfl⟩ := e
  refine ⟨a, cap, by simp [Nat.min_eq_left hk], by simp; omega, h2, fun i hi => ?_⟩
  have hi' : i < k := by simp at hi; omega
  obtain ⟨b, off, e, hB, hc⟩ := h3 i (by omega)
  refine ⟨b, off, e, hB, ?_⟩
  rw [hc]
  simp [hi']
/-- A row of the call's own, of bits. -/
theorem reads_of_owns {w : World} {base : Nat} {v : Value} {l : List Bool} (h : w.ownsRow base 4 1 v l.length (l.map Value.bool)) : Reads base w v l := by
  obtain ⟨_, h2⟩ := h
  rcases h2 with ⟨rfl, h0⟩ | ⟨g, cap, cur, rfl, hg, hh, hn, hm, hs, ht⟩
  · have : l = [] := List.eq_nil_of_length_eq_zero h0
    subst this
    exact reads_nil base w
  · refine ⟨_, cap, rfl, hn, hm, fun i hi => ⟨g, 0, rfl, hg, ?_⟩⟩
    have hown : w.ownsRow base 4 1 (.slice (some ⟨g, 0, none⟩) l.length cap) l.length (l.map Value.bool) := ⟨by simp, .inr ⟨g, cap, cur, rfl, hg, hh, hn, hm, hs, ht⟩⟩
    have := hown.cells (g := g) rfl i (.bool (l.getD i false)) (by simp [hi])
    have e : (⟨g, 0, none⟩ : Addr).add i = ⟨g, 0 + i, none⟩ := by unfold Addr.add; split <;> simp_all
    rw [e] at this
    exact this

set_option maxHeartbeats 400000 in
theorem at_any {B : Nat} (l : List Bool) (v : Value) (i : Nat) (w : World) (h : Reads B w v l) :
    Calls Try.prog 46 #[v, .int .i64 (i : Int)] w fun e w' => e = .returned (.bool (l.getD i false)) ∧ w' = w := by
  obtain ⟨a, cap, rfl, h1, h2, h3⟩ := h
  unfold maxLen at h2
  by_cases hlt : i < l.length
  · obtain ⟨b, off, rfl, _, hc⟩ := h3 i hlt
    generalize l.getD i false = x at *
    have t : (i : Int) < (l.length : Int) := by omega
    go_enter Try.func46, Try.ntmps46
    go_wp2
    go_ret
    exact ⟨rfl, rfl⟩
  · have t : decide ((i : Int) < (l.length : Int)) = false := by simp; omega
    have e : l.getD i false = false := by simp [List.getElem?_eq_none (Nat.le_of_not_lt hlt)]
    rw [e]
    go_enter Try.func46, Try.ntmps46
    go_wp2
    go_ret
    exact ⟨rfl, rfl⟩

set_option maxHeartbeats 400000 in
theorem trim_any {B : Nat} (l : List Bool) (v : Value) (w : World) (h : Reads B w v l) :
    Calls Try.prog 43 #[v] w fun e w' => ∃ v', e = .returned v' ∧ w' = w ∧ ∃ l', Reads B w v' l' ∧ Canon l' ∧ val l' = val l ∧ l'.length ≤ l.length := by
  have hR := h
  obtain ⟨a, cap, rfl, h1, h2, h3⟩ := h
  have h2' := h2
  unfold maxLen at h2
  go_enter Try.func43, Try.ntmps43
  go_wp2
  go_loop [3] (fun n => ∃ k : Nat, n = .int .i64 (k : Int) ∧ k ≤ l.length ∧ Hid (∀ i, k ≤ i → i < l.length → l.getD i false = false)) (fun n => (intOf n).toNat)
  case atStart => exact ⟨l.length, rfl, Nat.le_refl _, fun i h1 h2 => by omega⟩
  case round =>
    obtain ⟨k, rfl, hk, hz⟩ := hrel
    rcases Nat.eq_zero_or_pos k with rfl | hp
    · go_wp2
      go_ret
      exact ⟨_, rfl, rfl, [], hR.take 0 (Nat.zero_le _), canon_nil, val_trim l 0 hz.out, by simp⟩
    · obtain ⟨j, rfl⟩ : ∃ j, k = j + 1 := ⟨k - 1, by omega⟩
      obtain ⟨b, off, rfl, _, hc⟩ := h3 j (by omega)
      have t : (j : Int) < (l.length : Int) := by omega
      cases hb : l.getD j false
      · rw [hb] at hc
        go_wp2
        go_round
        case rel => exact ⟨j, by go_num, by omega, fun i h1 h2 => by
          rcases Nat.eq_or_lt_of_le h1 with rfl | h
          · exact hb
          · exact hz.out i h h2⟩
        case measure => simp [intOf]
      · rw [hb] at hc
        go_wp2
        go_ret
        exact ⟨_, rfl, rfl, l.take (j + 1), hR.take (j + 1) hk, canon_trim l (j + 1) hk (.inr hb), val_trim l (j + 1) hz.out, by rw [List.length_take]; omega⟩
end Go.Proofs.Ytkphchldoionjaa
