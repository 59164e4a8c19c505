/-
  A map from texts to numbers in memory: what it holds, told by a function.
-/
import Derived.Test.YtfphjhmhiaepiaaOwnRows
import Derived.Maps.OwnSet
import Derived.Maps.Views
import Derived.StringKeys
namespace Go.Proofs.Ytfphjhmhiaepiaa
open Go.ChangeShapes Go.WideShapes Go.ChangeAt Go.RowKit Go.Lib

namespace SM
/-- How one number reads. -/
def numElem : Value → Option (DataW Unit × List MemPlace)
  | .int .i64 z => some (.lit (.int .i64 z), [])
  | _ => none
theorem numElem_mk (z : Int) : numElem (.int .i64 z) = some (.lit (.int .i64 z), []) := rfl
theorem numElem_at {v : Value} {z : Int} {ps : List MemPlace} (h : numElem v = some (.lit (.int .i64 z), ps)) : v = .int .i64 z := by
  unfold numElem at h
  split at h
  · rename_i y
    simp only [Option.some.injEq, Prod.mk.injEq, DataW.lit.injEq, Lit.int.injEq, true_and] at h
    rw [h.1]
  · cases h
theorem strKeys : Go.Maps.Keyed Try.prog 9 := Go.Maps.string_keyed Try.underlying9
theorem zeroNum (w : World) : (zeroValue 3).run Try.prog w = .ok (.int .i64 0) w := by kernel_rfl
theorem bytes_inj {a b : ByteArray} (h : a.data.toList = b.data.toList) : a = b := by
  obtain ⟨⟨x⟩⟩ := a
  obtain ⟨⟨y⟩⟩ := b
  simp only at h
  rw [h]
/-- What is told of a number that may be there. -/
def numV (o : Option Int) : Int := o.getD 0
/-- The datum D tells what L tells. -/
def Tells (D : DataW Unit) (L : ByteArray → Option Int) : Prop := ∀ t : ByteArray, match L t with
  | none => Maps.has D (.string t.data.toList) = false
  | some z => Maps.has D (.string t.data.toList) = true ∧ ∀ d, D.atKey (.string t.data.toList) d = .lit (.int .i64 z)
/-- Block bm is a map of at most n entries that holds what L tells. -/
def SMap (w : World) (bm n : Nat) (L : ByteArray → Option Int) : Prop := ∃ D : DataW Unit, w.ownsMap Try.prog 9 numElem bm n D ∧ Tells D L
theorem SMap.made (w : World) : SMap (w.alloc (.map #[] 0)) w.heap.size 0 (fun _ => none) := ⟨.map [], World.ownsMap_made _ _ _ _, fun _ => rfl⟩
theorem SMap.lt {w : World} {bm n : Nat} {L : ByteArray → Option Int} (h : SMap w bm n L) : bm < w.heap.size := by
  obtain ⟨D, h1, _⟩ := h
  exact h1.lt
theorem SMap.kept {w w' : World} {bm n : Nat} {L : ByteArray → Option Int} {S : Nat → Prop} (h : SMap w bm n L) (k : But S w w') (hS : ¬ S bm) : SMap w' bm n L := by
  have lt := h.lt
  obtain ⟨D, ⟨es, clock, hb, F, hs, hD⟩, h2⟩ := h
  exact ⟨D, ⟨es, clock, by rw [k.block bm lt hS]; exact hb, F, hs, hD⟩, h2⟩
theorem SMap.still {w w' : World} {bm n : Nat} {L : ByteArray → Option Int} {B : Nat} (h : SMap w bm n L) (k : Below B w w') (hB : bm < B) : SMap w' bm n L := by
  obtain ⟨D, ⟨es, clock, hb, F, hs, hD⟩, h2⟩ := h
  exact ⟨D, ⟨es, clock, by rw [k.block bm hB]; exact hb, F, hs, hD⟩, h2⟩
theorem key_str {s : ByteArray} (h : s.size ≤ maxLen) : keyOf Try.prog 9 (.string s) = some (.string s.data.toList) := Go.WideMaps.keyOf_string_mk Try.underlying9 h
theorem SMap.look_ok {w : World} {bm n : Nat} {L : ByteArray → Option Int} (h : SMap w bm n L) (t : ByteArray) (hs : t.size ≤ maxLen) :
    (Instr.lookup 40 (.map (some bm)) (.string t) true).run Try.prog w = .ok (.tuple #[.int .i64 (numV (L t)), .bool (L t).isSome]) w := by
  obtain ⟨D, ho, hT⟩ := h
  obtain ⟨v, ps, hrun, hv⟩ := ho.look_ok strKeys Try.underlying40 (zeroNum w) (numElem_mk 0) (key_str hs)
  have := hT t
  cases hL : L t with
  | none =>
    rw [hL] at this
    simp only at this
    rw [Maps.atKey_of_not_has this] at hv
    rw [this, numElem_at hv] at hrun
    exact hrun
  | some z =>
    rw [hL] at this
    simp only at this
    rw [this.2] at hv
    rw [this.1, numElem_at hv] at hrun
    exact hrun
theorem look_none (t : ByteArray) (hs : t.size ≤ maxLen) (w : World) :
    (Instr.lookup 40 (.map none) (.string t) true).run Try.prog w = .ok (.tuple #[.int .i64 0, .bool false]) w := by
  have := Maps.look_nil (P := Try.prog) (w := w) true strKeys Try.underlying40 (zeroNum w) (key_str hs)
  simpa using this
/-- L with another number at t. -/
def updS (L : ByteArray → Option Int) (t : ByteArray) (z : Int) : ByteArray → Option Int := fun u => if u = t then some z else L u
theorem updS_same (L : ByteArray → Option Int) (t : ByteArray) (z : Int) : updS L t z t = some z := if_pos rfl
theorem updS_other (L : ByteArray → Option Int) {t u : ByteArray} (z : Int) (h : u ≠ t) : updS L t z u = L u := if_neg h
theorem Tells.put {D : DataW Unit} {L : ByteArray → Option Int} (h : Tells D L) (hD : Maps.IsMap D) (t : ByteArray) (z : Int) : Tells (D.put (.string t.data.toList) (.lit (.int .i64 z))) (updS L t z) := by
  intro u
  by_cases e : u = t
  · subst e
    rw [updS_same]
    exact ⟨Maps.has_put_same hD (by simp [WideAt.IsKeyLit]) _, fun z => Maps.atKey_put_same hD (by simp [WideAt.IsKeyLit]) _ _⟩
  · rw [updS_other L _ e]
    have hne : (Lit.string u.data.toList) ≠ .string t.data.toList := fun k => e (bytes_inj (by injection k))
    have := h u
    cases hL : L u with
    | none =>
      rw [hL] at this
      simp only at this ⊢
      rw [Maps.has_put_other hne]
      exact this
    | some y =>
      rw [hL] at this
      simp only at this ⊢
      rw [Maps.has_put_other hne]
      exact ⟨this.1, fun d => by rw [Maps.atKey_put_other hne]; exact this.2 d⟩
/-- A store: the same block holds one number more, or another. -/
theorem SMap.store {w : World} {bm n : Nat} {L : ByteArray → Option Int} (h : SMap w bm n L) (hn : n ≤ 1000000) (t : ByteArray) (hs : t.size ≤ maxLen) (z : Int) :
    ∃ w', (Instr.mapUpdate 40 (.map (some bm)) (.string t) (.int .i64 z)).run Try.prog w = .ok () w' ∧ SMap w' bm (n + 1) (updS L t z) ∧ But (fun k => k = bm) w w' := by
  obtain ⟨D, ho, hT⟩ := h
  obtain ⟨w', hrun, ho', ht⟩ := ho.store strKeys Try.underlying40 (show n < maxLen by unfold maxLen; omega) (key_str hs) (numElem_mk z)
  exact ⟨w', hrun, ⟨_, ho', hT.put ho.isMap t z⟩, (But.of_grown ht.grown).mono (fun i _ e => (Option.some.inj e).symm)⟩
theorem makeS_any (v : Int) (w : World) : (Instr.makeMap 40 (some (.int .i64 v))).run Try.prog w = .ok (.map (some w.heap.size)) (w.alloc (.map #[] 0)) := by
  simp [Instr.makeMap, run_underlying Try.underlying40, asInt, newObj, go_sem]
  rfl
end SM
end Go.Proofs.Ytfphjhmhiaepiaa
