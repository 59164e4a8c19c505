/-
  A map from texts to executions that were met, in memory: what it holds, told by a function, and how many.
-/
import Derived.Test.YthkohopnoifibaaSeMath
import Derived.Maps.OwnSet
import Derived.Maps.Views
import Derived.StringKeys
namespace Go.Proofs.Ythkohopnoifibaa.SE
open Go.ChangeShapes Go.WideShapes Go.ChangeAt Go.RowKit Go.Lib

/-- An execution by value; one that was met. -/
abbrev exV (x : Xc) : Value := .agg #[.string x.o, .int .i64 x.q, .int .i64 x.p, .bool x.k]
abbrev metV (x : Xc) (h : Bool) : Value := .agg #[.string x.o, .int .i64 x.q, .int .i64 x.p, .bool x.k, .bool h]
abbrev metD (x : Xc) (h : Bool) : DataW Unit := .agg [.lit (.string x.o.data.toList), .lit (.int .i64 x.q), .lit (.int .i64 x.p), .lit (.bool x.k), .lit (.bool h)]
/-- How one reads. -/
def metElem : Value → Option (DataW Unit × List MemPlace)
  | .agg ⟨[.string s, .int .i64 q, .int .i64 p, .bool k, .bool h]⟩ => some (metD ⟨s, q, p, k⟩ h, [])
  | _ => none
theorem metElem_mk (x : Xc) (h : Bool) : metElem (metV x h) = some (metD x h, []) := rfl
theorem metElem_inv {v : Value} {z : DataW Unit × List MemPlace} (h : metElem v = some z) : ∃ x b, v = metV x b ∧ z = (metD x b, []) := by
  unfold metElem at h
  split at h
  · rename_i s q p k b
    exact ⟨⟨s, q, p, k⟩, b, rfl, (Option.some.inj h).symm⟩
  · cases h
theorem bytes_inj {a b : ByteArray} (h : a.data.toList = b.data.toList) : a = b := by
  obtain ⟨⟨x⟩⟩ := a
  obtain ⟨⟨y⟩⟩ := b
  simp only at h
  rw [h]
theorem metElem_at {v : Value} {x : Xc} {b : Bool} {ps : List MemPlace} (h : metElem v = some (metD x b, ps)) : v = metV x b := by
  obtain ⟨⟨o, q, p, k⟩, b', rfl, e⟩ := metElem_inv h
  obtain ⟨o', q', p', k'⟩ := x
  simp only [metD, Prod.mk.injEq, DataW.agg.injEq, List.cons.injEq, DataW.lit.injEq, Lit.string.injEq, Lit.bool.injEq, Lit.int.injEq, true_and, and_true] at e
  obtain ⟨⟨e1, e2, e3, e4, e5⟩, _⟩ := e
  rw [bytes_inj e1, e2, e3, e4, e5]
theorem strKeys : Go.Maps.Keyed Try.prog 9 := Go.Maps.string_keyed Try.underlying9
theorem zeroMet (w : World) : (zeroValue 56).run Try.prog w = .ok (metV x0 false) w := by kernel_rfl
/-- The datum D tells what L tells. -/
def Tells (D : DataW Unit) (L : ByteArray → Option Xc) : Prop := ∀ t : ByteArray, match L t with
  | none => Maps.has D (.string t.data.toList) = false
  | some x => Maps.has D (.string t.data.toList) = true ∧ ∀ d, D.atKey (.string t.data.toList) d = metD x true
/-- Block bm is a map of c entries that holds what L tells. -/
def MMap (w : World) (bm c : Nat) (L : ByteArray → Option Xc) : Prop := ∃ D : DataW Unit, w.ownsMap Try.prog 9 metElem bm c D ∧ Maps.size D = c ∧ Tells D L
theorem MMap.made (w : World) : MMap (w.alloc (.map #[] 0)) w.heap.size 0 (fun _ => none) := ⟨.map [], World.ownsMap_made _ _ _ _, rfl, fun _ => rfl⟩
theorem MMap.lt {w : World} {bm c : Nat} {L : ByteArray → Option Xc} (h : MMap w bm c L) : bm < w.heap.size := by
  obtain ⟨D, h1, _⟩ := h
  exact h1.lt
theorem MMap.kept {w w' : World} {bm c : Nat} {L : ByteArray → Option Xc} {S : Nat → Prop} (h : MMap w bm c L) (k : But S w w') (hS : ¬ S bm) : MMap w' bm c L := by
  have lt := h.lt
  obtain ⟨D, ⟨es, clock, hb, F, hs, hD⟩, h2⟩ := h
  exact ⟨D, ⟨es, clock, by rw [k.block bm lt hS]; exact hb, F, hs, hD⟩, h2⟩
theorem MMap.below {w w' : World} {bm c : Nat} {L : ByteArray → Option Xc} (h : MMap w bm c L) (k : Below w.heap.size w w') : MMap w' bm c L := h.kept (But.of_below (S := fun _ => False) k) id
theorem key_str {s : ByteArray} (h : s.size ≤ maxLen) : keyOf Try.prog 9 (.string s) = some (.string s.data.toList) := Go.WideMaps.keyOf_string_mk Try.underlying9 h
theorem MMap.look {w : World} {bm c : Nat} {L : ByteArray → Option Xc} (h : MMap w bm c L) (t : ByteArray) (hs : t.size ≤ maxLen) :
    (Instr.lookup 48 (.map (some bm)) (.string t) false).run Try.prog w = .ok (metV (tell (L t)) (L t).isSome) w := by
  obtain ⟨D, ho, _, hT⟩ := h
  obtain ⟨v, ps, hrun, hv⟩ := ho.lookup strKeys Try.underlying48 (zeroMet w) (metElem_mk _ _) (key_str hs)
  have := hT t
  cases hL : L t with
  | none =>
    rw [hL] at this
    simp only at this
    rw [Maps.atKey_of_not_has this] at hv
    rw [metElem_at hv] at hrun
    exact hrun
  | some x =>
    rw [hL] at this
    simp only at this
    rw [this.2] at hv
    rw [metElem_at hv] at hrun
    exact hrun
theorem MMap.len {w : World} {bm c : Nat} {L : ByteArray → Option Xc} (h : MMap w bm c L) (ty : TypeId) : (Builtin.len_ #[48] ty #[.map (some bm)]).run Try.prog w = .ok (.int .i64 (c : Int)) w := by
  obtain ⟨D, ho, hc, _⟩ := h
  have := ho.len Try.underlying48 ty
  rw [hc] at this
  exact this
theorem Tells.put {D : DataW Unit} {L : ByteArray → Option Xc} (h : Tells D L) (hD : Maps.IsMap D) (t : ByteArray) (x : Xc) : Tells (D.put (.string t.data.toList) (metD x true)) (setL L t x) := by
  intro u
  by_cases e : u = t
  · subst e
    rw [setL_same]
    exact ⟨Maps.has_put_same hD (by simp [WideAt.IsKeyLit]) _, fun z => Maps.atKey_put_same hD (by simp [WideAt.IsKeyLit]) _ _⟩
  · rw [setL_other L _ e]
    have hne : (Lit.string u.data.toList) ≠ .string t.data.toList := fun k => e (bytes_inj (by injection k))
    have := h u
    cases hL : L u with
    | none =>
      rw [hL] at this
      simp only at this ⊢
      rw [Maps.has_put_other hne]
      exact this
    | some y =>
      rw [hL] at this
      simp only at this ⊢
      rw [Maps.has_put_other hne]
      exact ⟨this.1, fun d => by rw [Maps.atKey_put_other hne]; exact this.2 d⟩
theorem owns_size {w : World} {bm n : Nat} {D : DataW Unit} (h : w.ownsMap Try.prog 9 metElem bm n D) : w.ownsMap Try.prog 9 metElem bm (Maps.size D) D := by
  obtain ⟨es, clock, hb, F, _, hD⟩ := h
  refine ⟨es, clock, hb, F, ?_, hD⟩
  rw [hD, Maps.size_eq, length_read]
  exact Nat.le_refl _
/-- How many there are behind a store. -/
def more (L : ByteArray → Option Xc) (t : ByteArray) (c : Nat) : Nat := if (L t).isSome = true then c else c + 1
/-- A store: the same block holds one execution more, or another. -/
theorem MMap.store {w : World} {bm c : Nat} {L : ByteArray → Option Xc} (h : MMap w bm c L) (hn : c ≤ 1000000) (t : ByteArray) (hs : t.size ≤ maxLen) (x : Xc) :
    ∃ w', (Instr.mapUpdate 48 (.map (some bm)) (.string t) (metV x true)).run Try.prog w = .ok () w' ∧ MMap w' bm (more L t c) (setL L t x) ∧ But (fun k => k = bm) w w' := by
  obtain ⟨D, ho, hc, hT⟩ := h
  obtain ⟨w', hrun, ho', ht⟩ := ho.store strKeys Try.underlying48 (show c < maxLen by unfold maxLen; omega) (key_str hs) (metElem_mk x true)
  refine ⟨w', hrun, ⟨_, ?_, ?_, hT.put ho.isMap t x⟩, (But.of_grown ht.grown).mono (fun i _ e => (Option.some.inj e).symm)⟩
  all_goals
    have hz : Maps.size (D.put (.string t.data.toList) (metD x true)) = more L t c := by
      rw [Maps.size_put (ho.tidy strKeys), hc]
      have := hT t
      unfold more
      cases hL : L t with
      | none => rw [hL] at this; simp only at this; rw [this]; rfl
      | some y => rw [hL] at this; simp only at this; rw [this.1]; rfl
  · have := owns_size ho'
    rw [hz] at this
    exact this
  · exact hz
/-- The same, whatever was drawn. -/
theorem MMap.stores {w : World} {bm c : Nat} {L : ByteArray → Option Xc} (h : MMap w bm c L) (hn : c ≤ 1000000) (t : ByteArray) (hs : t.size ≤ maxLen) (x : Xc) :
    ∃ W : Nat → World, (∀ m, (Instr.mapUpdate 48 (.map (some bm)) (.string t) (metV x true)).run Try.prog (w.drewN m) = .ok () (W m)) ∧ ∀ m, MMap (W m) bm (more L t c) (setL L t x) ∧ But (fun k => k = bm) w (W m) := by
  have := fun m => (h.below (below_drewN w.heap.size m w)).store hn t hs x
  refine ⟨fun m => Classical.choose (this m), fun m => (Classical.choose_spec (this m)).1, fun m => ⟨(Classical.choose_spec (this m)).2.1, ?_⟩⟩
  exact (But.of_below (below_drewN w.heap.size m w)).trans (Classical.choose_spec (this m)).2.2 (fun _ _ e => e)
end Go.Proofs.Ythkohopnoifibaa.SE
