/-
  A map from numbers to fields (a text, a mark) in memory: what it holds, told by a function.
-/
import Derived.Test.YtdacmhnniecmhaaDoorOwnRows
import Derived.Maps.OwnSet
import Derived.Maps.Views
namespace Go.Proofs.YtdacmhnniecmhaaDoor
open Go.ChangeShapes Go.WideShapes Go.ChangeAt Go.RowKit Go.Lib

/-- How one field reads. -/
def fldElem : Value → Option (DataW Unit × List MemPlace)
  | .agg ⟨[.string s, .bool b]⟩ => some (.agg [.lit (.string s.data.toList), .lit (.bool b)], [])
  | _ => none
theorem fldElem_mk (s : ByteArray) (b : Bool) : fldElem (.agg #[.string s, .bool b]) = some (.agg [.lit (.string s.data.toList), .lit (.bool b)], []) := rfl
theorem bytes_of_list {a b : ByteArray} (h : a.data.toList = b.data.toList) : a = b := by
  obtain ⟨⟨x⟩⟩ := a
  obtain ⟨⟨y⟩⟩ := b
  simp only at h
  rw [h]
theorem fldElem_inv {v : Value} {z : DataW Unit × List MemPlace} (h : fldElem v = some z) : ∃ s b, v = .agg #[.string s, .bool b] ∧ z = (.agg [.lit (.string s.data.toList), .lit (.bool b)], []) := by
  unfold fldElem at h
  split at h
  · rename_i s b
    exact ⟨s, b, rfl, (Option.some.inj h).symm⟩
  · cases h
theorem fldElem_at {v : Value} {s : ByteArray} {b : Bool} {ps : List MemPlace} (h : fldElem v = some (.agg [.lit (.string s.data.toList), .lit (.bool b)], ps)) : v = .agg #[.string s, .bool b] := by
  obtain ⟨s', b', rfl, e⟩ := fldElem_inv h
  simp only [Prod.mk.injEq, DataW.agg.injEq, List.cons.injEq, DataW.lit.injEq, Lit.string.injEq, Lit.bool.injEq] at e
  rw [bytes_of_list e.1.1, e.1.2.1]
theorem intKeys : Go.Maps.Keyed Tryd.prog 3 := Go.Maps.int_keyed Tryd.underlying3
theorem zeroFld (w : World) : (zeroValue 100).run Tryd.prog w = .ok (.agg #[.string ⟨#[]⟩, .bool false]) w := by kernel_rfl
/-- What is told of a field that may be there. -/
def fldV (o : Option (ByteArray × Bool)) : Value := match o with
  | some (s, b) => .agg #[.string s, .bool b]
  | none => .agg #[.string ⟨#[]⟩, .bool false]
/-- The datum D tells what L tells. -/
def Tells (D : DataW Unit) (L : Int → Option (ByteArray × Bool)) : Prop := ∀ t : Int, match L t with
  | none => Maps.has D (.int .i64 t) = false
  | some (s, b) => Maps.has D (.int .i64 t) = true ∧ ∀ z, D.atKey (.int .i64 t) z = .agg [.lit (.string s.data.toList), .lit (.bool b)]
/-- Block bm is a map of at most n entries that holds what L tells. -/
def FMap (w : World) (bm n : Nat) (L : Int → Option (ByteArray × Bool)) : Prop := ∃ D : DataW Unit, w.ownsMap Tryd.prog 3 fldElem bm n D ∧ Tells D L
theorem FMap.made (w : World) : FMap (w.alloc (.map #[] 0)) w.heap.size 0 (fun _ => none) := ⟨.map [], World.ownsMap_made _ _ _ _, fun _ => rfl⟩
theorem FMap.lt {w : World} {bm n : Nat} {L : Int → Option (ByteArray × Bool)} (h : FMap w bm n L) : bm < w.heap.size := by
  obtain ⟨D, h1, _⟩ := h
  exact h1.lt
theorem FMap.kept {w w' : World} {bm n : Nat} {L : Int → Option (ByteArray × Bool)} {S : Nat → Prop} (h : FMap w bm n L) (k : But S w w') (hS : ¬ S bm) : FMap w' bm n L := by
  have lt := h.lt
  obtain ⟨D, ⟨es, clock, hb, F, hs, hD⟩, h2⟩ := h
  exact ⟨D, ⟨es, clock, by rw [k.block bm lt hS]; exact hb, F, hs, hD⟩, h2⟩
theorem FMap.still {w w' : World} {bm n : Nat} {L : Int → Option (ByteArray × Bool)} (h : FMap w bm n L) (k : Below w.heap.size w w') : FMap w' bm n L := h.kept (But.of_below (S := fun _ => False) k) id
theorem FMap.wide {w : World} {bm n m : Nat} {L : Int → Option (ByteArray × Bool)} (h : FMap w bm n L) (hm : n ≤ m) : FMap w bm m L := by
  obtain ⟨D, h1, h2⟩ := h
  exact ⟨D, h1.mono hm, h2⟩
theorem keyI {t : Int} (h1 : -9223372036854775808 ≤ t) (h2 : t ≤ 9223372036854775807) : keyOf Tryd.prog 3 (.int .i64 t) = some (.int .i64 t) := Go.Maps.keyOf_int_mk Tryd.underlying3 (WalkArith.wf_i64 (by omega))
theorem FMap.look_ok {w : World} {bm n : Nat} {L : Int → Option (ByteArray × Bool)} (h : FMap w bm n L) (t : Int) (h1 : -9223372036854775808 ≤ t) (h2 : t ≤ 9223372036854775807) :
    (Instr.lookup 95 (.map (some bm)) (.int .i64 t) true).run Tryd.prog w = .ok (.tuple #[fldV (L t), .bool (L t).isSome]) w := by
  obtain ⟨D, ho, hT⟩ := h
  obtain ⟨v, ps, hrun, hv⟩ := ho.look_ok intKeys Tryd.underlying95 (zeroFld w) (fldElem_mk _ _) (keyI h1 h2)
  have := hT t
  cases hL : L t with
  | none =>
    rw [hL] at this
    simp only at this
    rw [Maps.atKey_of_not_has this] at hv
    rw [this, fldElem_at hv] at hrun
    exact hrun
  | some p =>
    obtain ⟨s, b⟩ := p
    rw [hL] at this
    simp only at this
    rw [this.2] at hv
    rw [this.1, fldElem_at hv] at hrun
    exact hrun
theorem FMap.look {w : World} {bm n : Nat} {L : Int → Option (ByteArray × Bool)} (h : FMap w bm n L) (t : Int) (h1 : -9223372036854775808 ≤ t) (h2 : t ≤ 9223372036854775807) :
    (Instr.lookup 95 (.map (some bm)) (.int .i64 t) false).run Tryd.prog w = .ok (fldV (L t)) w := by
  obtain ⟨D, ho, hT⟩ := h
  obtain ⟨v, ps, hrun, hv⟩ := ho.lookup intKeys Tryd.underlying95 (zeroFld w) (fldElem_mk _ _) (keyI h1 h2)
  have := hT t
  cases hL : L t with
  | none =>
    rw [hL] at this
    simp only at this
    rw [Maps.atKey_of_not_has this] at hv
    rw [fldElem_at hv] at hrun
    exact hrun
  | some p =>
    obtain ⟨s, b⟩ := p
    rw [hL] at this
    simp only at this
    rw [this.2] at hv
    rw [fldElem_at hv] at hrun
    exact hrun
/-- L with another field at t. -/
def updI (L : Int → Option (ByteArray × Bool)) (t : Int) (p : ByteArray × Bool) : Int → Option (ByteArray × Bool) := fun u => if u = t then some p else L u
theorem updI_same (L : Int → Option (ByteArray × Bool)) (t : Int) (p : ByteArray × Bool) : updI L t p t = some p := if_pos rfl
theorem updI_other (L : Int → Option (ByteArray × Bool)) {t u : Int} (p : ByteArray × Bool) (h : u ≠ t) : updI L t p u = L u := if_neg h
theorem Tells.put {D : DataW Unit} {L : Int → Option (ByteArray × Bool)} (h : Tells D L) (hD : Maps.IsMap D) (t : Int) (s : ByteArray) (b : Bool) : Tells (D.put (.int .i64 t) (.agg [.lit (.string s.data.toList), .lit (.bool b)])) (updI L t (s, b)) := by
  intro u
  by_cases e : u = t
  · subst e
    rw [updI_same]
    exact ⟨Maps.has_put_same hD (by simp [WideAt.IsKeyLit]) _, fun z => Maps.atKey_put_same hD (by simp [WideAt.IsKeyLit]) _ _⟩
  · rw [updI_other L _ e]
    have hne : (Lit.int .i64 u) ≠ .int .i64 t := fun k => e (by cases k; rfl)
    have := h u
    cases hL : L u with
    | none =>
      rw [hL] at this
      simp only at this ⊢
      rw [Maps.has_put_other hne]
      exact this
    | some p =>
      obtain ⟨s', b'⟩ := p
      rw [hL] at this
      simp only at this ⊢
      rw [Maps.has_put_other hne]
      exact ⟨this.1, fun z => by rw [Maps.atKey_put_other hne]; exact this.2 z⟩
/-- A store: the same block holds one field more, or another. -/
theorem FMap.store {w : World} {bm n : Nat} {L : Int → Option (ByteArray × Bool)} (h : FMap w bm n L) (hn : n ≤ 1000000) (t : Int) (h1 : -9223372036854775808 ≤ t) (h2 : t ≤ 9223372036854775807) (s : ByteArray) (b : Bool) :
    ∃ w', (Instr.mapUpdate 95 (.map (some bm)) (.int .i64 t) (.agg #[.string s, .bool b])).run Tryd.prog w = .ok () w' ∧ FMap w' bm (n + 1) (updI L t (s, b)) ∧ But (fun k => k = bm) w w' := by
  obtain ⟨D, ho, hT⟩ := h
  obtain ⟨w', hrun, ho', ht⟩ := ho.store intKeys Tryd.underlying95 (show n < maxLen by unfold maxLen; omega) (keyI h1 h2) (fldElem_mk s b)
  exact ⟨w', hrun, ⟨_, ho', hT.put ho.isMap t s b⟩, (But.of_grown ht.grown).mono (fun i _ e => (Option.some.inj e).symm)⟩
/-- The same, whatever was drawn. -/
theorem FMap.stores {w : World} {bm n : Nat} {L : Int → Option (ByteArray × Bool)} (h : FMap w bm n L) (hn : n ≤ 1000000) (t : Int) (h1 : -9223372036854775808 ≤ t) (h2 : t ≤ 9223372036854775807) (s : ByteArray) (b : Bool) :
    ∃ W : Nat → World, (∀ m, (Instr.mapUpdate 95 (.map (some bm)) (.int .i64 t) (.agg #[.string s, .bool b])).run Tryd.prog (w.drewN m) = .ok () (W m)) ∧ ∀ m, FMap (W m) bm (n + 1) (updI L t (s, b)) ∧ But (fun k => k = bm) w (W m) := by
  have := fun m => (h.still (below_drewN w.heap.size m w)).store hn t h1 h2 s b
  refine ⟨fun m => Classical.choose (this m), fun m => (Classical.choose_spec (this m)).1, fun m => ⟨(Classical.choose_spec (this m)).2.1, ?_⟩⟩
  exact (But.of_below (below_drewN w.heap.size m w)).trans (Classical.choose_spec (this m)).2.2 (fun _ _ e => e)
end Go.Proofs.YtdacmhnniecmhaaDoor
