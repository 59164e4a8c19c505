/-
  A map from texts to numbers in memory: what it holds, told by a function.
-/
import Derived.Maps.OwnSet
import Derived.Maps.Views
import Derived.StringKeys
import Derived.Deep.RegionHeld3
import Derived.Test.YtfphjhmhiaepiaaGreatKF
import Derived.Test.YtfphjhmhiaepiaaGreatKG
import Derived.Test.YtfphjhmhiaepiaaGreatKJ
namespace Go.Proofs.YtfphjhmhiaepiaaGreat
open Go.ChangeShapes Go.WideShapes Go.ChangeAt Go.RowKit Go.Lib

namespace SM
/-- How one number reads. -/
def numElem : Value → Option (DataW Unit × List MemPlace)
  | .int .i64 z => some (.lit (.int .i64 z), [])
  | _ => none
theorem numElem_mk (z : Int) : numElem (.int .i64 z) = some (.lit (.int .i64 z), []) := rfl
theorem numElem_at {v : Value} {z : Int} {ps : List MemPlace} (h : numElem v = some (.lit (.int .i64 z), ps)) : v = .int .i64 z := by
  unfold numElem at h
  split at h
  · rename_i y
    simp only [Option.some.injEq, Prod.mk.injEq, DataW.lit.injEq, Lit.int.injEq, true_and] at h
    rw [h.1]
  · cases h
theorem strKeys : Go.Maps.Keyed Tryz.prog 9 := Go.Maps.string_keyed Tryz.underlying9
theorem zeroNum (w : World) : (zeroValue 3).run Tryz.prog w = .ok (.int .i64 0) w := by kernel_rfl
theorem bytes_inj {a b : ByteArray} (h : a.data.toList = b.data.toList) : a = b := by
  obtain ⟨⟨x⟩⟩ := a
  obtain ⟨⟨y⟩⟩ := b
  simp only at h
  rw [h]
/-- What is told of a number that may be there. -/
def numV (o : Option Int) : Int := o.getD 0
/-- The datum D tells what L tells. -/
def Tells (D : DataW Unit) (L : ByteArray → Option Int) : Prop := ∀ t : ByteArray, match L t with
  | none => Maps.has D (.string t.data.toList) = false
  | some z => Maps.has D (.string t.data.toList) = true ∧ ∀ d, D.atKey (.string t.data.toList) d = .lit (.int .i64 z)
/-- Block bm is a map of at most n entries that holds what L tells. -/
def SMap (w : World) (bm n : Nat) (L : ByteArray → Option Int) : Prop := ∃ D : DataW Unit, w.ownsMap Tryz.prog 9 numElem bm n D ∧ Tells D L
theorem SMap.made (w : World) : SMap (w.alloc (.map #[] 0)) w.heap.size 0 (fun _ => none) := ⟨.map [], World.ownsMap_made _ _ _ _, fun _ => rfl⟩
theorem SMap.lt {w : World} {bm n : Nat} {L : ByteArray → Option Int} (h : SMap w bm n L) : bm < w.heap.size := by
  obtain ⟨D, h1, _⟩ := h
  exact h1.lt
theorem SMap.kept {w w' : World} {bm n : Nat} {L : ByteArray → Option Int} {S : Nat → Prop} (h : SMap w bm n L) (k : But S w w') (hS : ¬ S bm) : SMap w' bm n L := by
  have lt := h.lt
  obtain ⟨D, ⟨es, clock, hb, F, hs, hD⟩, h2⟩ := h
  exact ⟨D, ⟨es, clock, by rw [k.block bm lt hS]; exact hb, F, hs, hD⟩, h2⟩
theorem SMap.still {w w' : World} {bm n : Nat} {L : ByteArray → Option Int} {B : Nat} (h : SMap w bm n L) (k : Below B w w') (hB : bm < B) : SMap w' bm n L := by
  obtain ⟨D, ⟨es, clock, hb, F, hs, hD⟩, h2⟩ := h
  exact ⟨D, ⟨es, clock, by rw [k.block bm hB]; exact hb, F, hs, hD⟩, h2⟩
theorem key_str {s : ByteArray} (h : s.size ≤ maxLen) : keyOf Tryz.prog 9 (.string s) = some (.string s.data.toList) := Go.WideMaps.keyOf_string_mk Tryz.underlying9 h
theorem SMap.look_ok {w : World} {bm n : Nat} {L : ByteArray → Option Int} (h : SMap w bm n L) (t : ByteArray) (hs : t.size ≤ maxLen) :
    (Instr.lookup 64 (.map (some bm)) (.string t) true).run Tryz.prog w = .ok (.tuple #[.int .i64 (numV (L t)), .bool (L t).isSome]) w := by
  obtain ⟨D, ho, hT⟩ := h
  obtain ⟨v, ps, hrun, hv⟩ := ho.look_ok strKeys Tryz.underlying64 (zeroNum w) (numElem_mk 0) (key_str hs)
  have := hT t
  cases hL : L t with
  | none =>
    rw [hL] at this
    simp only at this
    rw [Maps.atKey_of_not_has this] at hv
    rw [this, numElem_at hv] at hrun
    exact hrun
  | some z =>
    rw [hL] at this
    simp only at this
    rw [this.2] at hv
    rw [this.1, numElem_at hv] at hrun
    exact hrun
theorem look_none (t : ByteArray) (hs : t.size ≤ maxLen) (w : World) :
    (Instr.lookup 64 (.map none) (.string t) true).run Tryz.prog w = .ok (.tuple #[.int .i64 0, .bool false]) w := by
  have := Maps.look_nil (P := Tryz.prog) (w := w) true strKeys Tryz.underlying64 (zeroNum w) (key_str hs)
  simpa using this
/-- L with another number at t. -/
def updS (L : ByteArray → Option Int) (t : ByteArray) (z : Int) : ByteArray → Option Int := fun u => if u = t then some z else L u
theorem updS_same (L : ByteArray → Option Int) (t : ByteArray) (z : Int) : updS L t z t = some z := if_pos rfl
theorem updS_other (L : ByteArray → Option Int) {t u : ByteArray} (z : Int) (h : u ≠ t) : updS L t z u = L u := if_neg h
theorem Tells.put {D : DataW Unit} {L : ByteArray → Option Int} (h : Tells D L) (hD : Maps.IsMap D) (t : ByteArray) (z : Int) : Tells (D.put (.string t.data.toList) (.lit (.int .i64 z))) (updS L t z) := by
  intro u
  by_cases e : u = t
  · subst e
    rw [updS_same]
    exact ⟨Maps.has_put_same hD (by simp [WideAt.IsKeyLit]) _, fun z => Maps.atKey_put_same hD (by simp [WideAt.IsKeyLit]) _ _⟩
  · rw [updS_other L _ e]
    have hne : (Lit.string u.data.toList) ≠ .string t.data.toList := fun k => e (bytes_inj (by injection k))
    have := h u
    cases hL : L u with
    | none =>
      rw [hL] at this
      simp only at this ⊢
      rw [Maps.has_put_other hne]
      exact this
    | some y =>
      rw [hL] at this
      simp only at this ⊢
      rw [Maps.has_put_other hne]
      exact ⟨this.1, fun d => by rw [Maps.atKey_put_other hne]; exact this.2 d⟩
/-- A store: the same block holds one number more, or another. -/
theorem SMap.store {w : World} {bm n : Nat} {L : ByteArray → Option Int} (h : SMap w bm n L) (hn : n ≤ 1000000) (t : ByteArray) (hs : t.size ≤ maxLen) (z : Int) :
    ∃ w', (Instr.mapUpdate 64 (.map (some bm)) (.string t) (.int .i64 z)).run Tryz.prog w = .ok () w' ∧ SMap w' bm (n + 1) (updS L t z) ∧ But (fun k => k = bm) w w' := by
  obtain ⟨D, ho, hT⟩ := h
  obtain ⟨w', hrun, ho', ht⟩ := ho.store strKeys Tryz.underlying64 (show n < maxLen by unfold maxLen; omega) (key_str hs) (numElem_mk z)
  exact ⟨w', hrun, ⟨_, ho', hT.put ho.isMap t z⟩, (But.of_grown ht.grown).mono (fun i _ e => (Option.some.inj e).symm)⟩
theorem makeS_any (v : Int) (w : World) : (Instr.makeMap 64 (some (.int .i64 v))).run Tryz.prog w = .ok (.map (some w.heap.size)) (w.alloc (.map #[] 0)) := by
  simp [Instr.makeMap, run_underlying Tryz.underlying64, asInt, newObj, go_sem]
  rfl
end SM
end Go.Proofs.YtfphjhmhiaepiaaGreat
/-
  Where a name stands in a list: the last place, and with names of their own the only one (plain).
-/
namespace Go.Proofs.YtfphjhmhiaepiaaGreat.RU
open Go.ChangeShapes Go.WideShapes Go.ChangeAt Go.RowKit Go.Lib SM

/-- The last place of a name among the first n. -/
def lastOf (N : Nat → ByteArray) : Nat → ByteArray → Option Int
  | 0 => fun _ => none
  | n + 1 => updS (lastOf N n) (N n) (n : Int)
theorem lastOf_succ (N : Nat → ByteArray) (n : Nat) : lastOf N (n + 1) = updS (lastOf N n) (N n) (n : Int) := rfl
/-- The first place of a name, from 0 on, or -1. -/
def firstOf (N : Nat → ByteArray) (t : ByteArray) : Nat → Int
  | 0 => -1
  | n + 1 => if firstOf N t n = -1 then (if N n = t then (n : Int) else -1) else firstOf N t n
theorem firstOf_bd (N : Nat → ByteArray) (t : ByteArray) : ∀ n, -1 ≤ firstOf N t n ∧ firstOf N t n < n
  | 0 => by simp [firstOf]
  | n + 1 => by
    have := firstOf_bd N t n
    rw [firstOf]
    split
    · split <;> omega
    · omega
theorem firstOf_no {N : Nat → ByteArray} {t : ByteArray} : ∀ {n : Nat}, (∀ i, i < n → N i ≠ t) → firstOf N t n = -1
  | 0, _ => rfl
  | n + 1, h => by
    rw [firstOf, if_pos (firstOf_no (fun i hi => h i (by omega))), if_neg (h n (by omega))]
theorem firstOf_stay {N : Nat → ByteArray} {t : ByteArray} {m : Nat} (h : firstOf N t m ≠ -1) : ∀ k, firstOf N t (m + k) = firstOf N t m
  | 0 => rfl
  | k + 1 => by
    rw [← Nat.add_assoc, firstOf, firstOf_stay h k, if_neg h]
theorem firstOf_at {N : Nat → ByteArray} {t : ByteArray} {n i : Nat} (hi : i < n) (e : N i = t) (hb : ∀ k, k < i → N k ≠ t) : firstOf N t n = (i : Int) := by
  have h1 : firstOf N t (i + 1) = (i : Int) := by rw [firstOf, if_pos (firstOf_no hb), if_pos e]
  have := firstOf_stay (m := i + 1) (N := N) (t := t) (by rw [h1]; omega) (n - (i + 1))
  rw [show i + 1 + (n - (i + 1)) = n by omega, h1] at this
  exact this
theorem lastOf_no {N : Nat → ByteArray} {t : ByteArray} : ∀ {n : Nat}, (∀ i, i < n → N i ≠ t) → lastOf N n t = none
  | 0, _ => rfl
  | n + 1, h => by
    rw [lastOf_succ, updS_other _ _ (fun e => h n (by omega) e.symm)]
    exact lastOf_no (fun i hi => h i (by omega))
theorem lastOf_at {N : Nat → ByteArray} {t : ByteArray} {i : Nat} (e : N i = t) : ∀ {n : Nat}, i < n → (∀ k, i < k → k < n → N k ≠ t) → lastOf N n t = some (i : Int)
  | 0, hi, _ => absurd hi (by omega)
  | n + 1, hi, hb => by
    rw [lastOf_succ]
    by_cases k : i = n
    · subst k; rw [← e, updS_same]
    · rw [updS_other _ _ (fun e' => hb n (by omega) (by omega) e'.symm)]
      exact lastOf_at e (by omega) (fun k h1 h2 => hb k h1 (by omega))
/-- With names of their own the last place is the first one. -/
theorem last_first {N : Nat → ByteArray} {n : Nat} (h : ∀ i, i < n → freshB N i = true) (t : ByteArray) :
    (lastOf N n t).isSome = decide (0 ≤ firstOf N t n) ∧ numV (lastOf N n t) = max (firstOf N t n) 0 := by
  by_cases k : ∀ i, i < n → N i ≠ t
  · rw [lastOf_no k, firstOf_no k]
    exact ⟨by simp, by simp [numV]; omega⟩
  · obtain ⟨i, hi, e⟩ : ∃ i, i < n ∧ N i = t := by
      by_cases q : ∃ i, i < n ∧ N i = t
      · exact q
      · exact absurd (fun i hi e => q ⟨i, hi, e⟩) k
    rw [lastOf_at e hi (fun k h1 h2 e' => fresh_other (h k h2) h1 (e.trans e'.symm)), firstOf_at hi e (fun k h1 e' => fresh_other (h i hi) h1 (e'.trans e.symm))]
    exact ⟨by simp, by simp [numV]⟩
end Go.Proofs.YtfphjhmhiaepiaaGreat.RU
/-
  Contract of rules' places at accounts: a map of the names' places.
-/
namespace Go.Proofs.YtfphjhmhiaepiaaGreat.RU
open Go.ChangeShapes Go.WideShapes Go.ChangeAt Go.RowKit Go.Lib SM

set_option maxHeartbeats 4000000 in
theorem placesA_any {w : World} {v : Value} {n : Nat} {g : Nat → It} (h : RowA w v n g) (hn : n ≤ 1000) (hs : ∀ i, i < n → (g i).1.size ≤ 1000000) :
    Calls Tryz.prog 25 #[v, .func (.func 26) #[] #[]] w fun e w' => e = .returned (.map (some w.heap.size)) ∧ SMap w' w.heap.size n (lastOf (fun i => (g i).1) n) ∧ Below w.heap.size w w' := by
  obtain ⟨a, cap, rfl, h1, h2, h3⟩ := id h
  unfold maxLen at h2
  have hmk := makeS_any (n : Int)
  clear h
  go_enter Tryz.func25, Tryz.ntmps25
  go_wp2_with fail
  go_loopw [13] (fun c wr => ∃ k : Nat, c = .int .i64 (k : Int) ∧ k ≤ n ∧ Hid (SMap wr w.heap.size k (lastOf (fun i => (g i).1) k)) ∧ Below w.heap.size w wr) (fun c _ => n - (RowKit.intOf c).toNat)
  case atStart => exact ⟨0, rfl, Nat.zero_le _, SMap.made w, (Below.refl _ _).alloc (Nat.le_refl _) _⟩
  case round =>
    obtain ⟨k, rfl, hk, hM, hB⟩ := hrel
    by_cases hlt : k < n
    · have t : (k : Int) < (n : Int) := by omega
      obtain ⟨b, off, rfl, c0, c1⟩ := h3 k hlt
      have d0 := (hB.cell (World.block_lt_of_cell? _ _ c0)).trans c0
      have d1 := (hB.cell (World.block_lt_of_cell? _ _ c1)).trans c1
      have G1 : ∀ W, Calls Tryz.prog 26 #[.agg #[.string (g k).1, .int .i64 ((g k).2.1 1)]] W fun e w' => e = .returned (.string (g k).1) ∧ w' = W.alloc (.cells #[.string (g k).1, .int .i64 ((g k).2.1 1)] 55) := fun W => accountName_any (g k) W
      have hge := hB.size
      have HB : Hid (Below w.heap.size w wr) := hB
      have hsz := hs k hlt
      have HL : Hid (lastOf (fun i => (g i).1) (k + 1) = updS (lastOf (fun i => (g i).1) k) (g k).1 (k : Int)) := lastOf_succ _ _
      have G2 : ∀ W, Below wr.heap.size wr W → ∃ W', (Instr.mapUpdate 64 (.map (some w.heap.size)) (.string (g k).1) (.int .i64 (k : Int))).run Tryz.prog W = .ok () W' ∧ Hid (SMap W' w.heap.size (k + 1) (lastOf (fun i => (g i).1) (k + 1)) ∧ Below w.heap.size w W') := fun W hW => by
        obtain ⟨W', r1, r2, r3⟩ := (hM.out.still hW hM.out.lt).store (by omega) (g k).1 (by unfold maxLen; omega) (k : Int)
        refine ⟨W', r1, ?_, ?_⟩
        · rw [HL.out]; exact r2
        · exact (HB.out.trans (hW.mono hge)).trans (r3.below (Nat.le_trans hge hW.size) (fun i e => by omega))
      clear h3 c0 c1 hB hM HB HL hs
      generalize hx : g k = x at *
      clear hx
      go_wp2_with fail
      refine (G1 _).mono ?_
      rintro e w3 ⟨rfl, hw3⟩
      obtain ⟨W', r1, r2⟩ := G2 w3 (by rw [hw3]; exact ((Below.refl _ _).alloc (Nat.le_refl _) _).alloc (by simp) _)
      clear G2 G1 hw3
      go_wp2_with fail
      go_roundw
      case rel => exact ⟨k + 1, by simp, by omega, r2.out.1, r2.out.2⟩
      case measure => simp [RowKit.intOf]; omega
    · have hkn : k = n := by omega
      subst hkn
      have t : ¬ (k : Int) < (k : Int) := by omega
      clear h3 hs
      go_wp2_with fail
      go_ret
      exact ⟨rfl, hM.out, hB⟩
end Go.Proofs.YtfphjhmhiaepiaaGreat.RU
/-
  Contract of rules' places at symbols: a map of the names' places.
-/
namespace Go.Proofs.YtfphjhmhiaepiaaGreat.RU
open Go.ChangeShapes Go.WideShapes Go.ChangeAt Go.RowKit Go.Lib SM

set_option maxHeartbeats 4000000 in
theorem placesS_any {w : World} {v : Value} {n : Nat} {g : Nat → It} (h : RowS w v n g) (hn : n ≤ 1000) (hs : ∀ i, i < n → (g i).1.size ≤ 1000000) :
    Calls Tryz.prog 27 #[v, .func (.func 28) #[] #[]] w fun e w' => e = .returned (.map (some w.heap.size)) ∧ SMap w' w.heap.size n (lastOf (fun i => (g i).1) n) ∧ Below w.heap.size w w' := by
  obtain ⟨a, cap, rfl, h1, h2, h3⟩ := id h
  unfold maxLen at h2
  have hmk := makeS_any (n : Int)
  clear h
  go_enter Tryz.func27, Tryz.ntmps27
  go_wp2_with fail
  go_loopw [13] (fun c wr => ∃ k : Nat, c = .int .i64 (k : Int) ∧ k ≤ n ∧ Hid (SMap wr w.heap.size k (lastOf (fun i => (g i).1) k)) ∧ Below w.heap.size w wr) (fun c _ => n - (RowKit.intOf c).toNat)
  case atStart => exact ⟨0, rfl, Nat.zero_le _, SMap.made w, (Below.refl _ _).alloc (Nat.le_refl _) _⟩
  case round =>
    obtain ⟨k, rfl, hk, hM, hB⟩ := hrel
    by_cases hlt : k < n
    · have t : (k : Int) < (n : Int) := by omega
      obtain ⟨b, off, rfl, c0, c1, c2, c3, c4, c5, c6⟩ := h3 k hlt
      have d0 := (hB.cell (World.block_lt_of_cell? _ _ c0)).trans c0
      have d1 := (hB.cell (World.block_lt_of_cell? _ _ c1)).trans c1
      have d2 := (hB.cell (World.block_lt_of_cell? _ _ c2)).trans c2
      have d3 := (hB.cell (World.block_lt_of_cell? _ _ c3)).trans c3
      have d4 := (hB.cell (World.block_lt_of_cell? _ _ c4)).trans c4
      have d5 := (hB.cell (World.block_lt_of_cell? _ _ c5)).trans c5
      have d6 := (hB.cell (World.block_lt_of_cell? _ _ c6)).trans c6
      have G1 : ∀ W, Calls Tryz.prog 28 #[.agg #[.string (g k).1, .int .i64 ((g k).2.1 1), .int .i64 ((g k).2.1 2), .int .i64 ((g k).2.1 3), .int .i64 ((g k).2.1 4), .int .i64 ((g k).2.1 5), .int .i64 ((g k).2.1 6)]] W fun e w' => e = .returned (.string (g k).1) ∧ w' = W.alloc (.cells #[.string (g k).1, .int .i64 ((g k).2.1 1), .int .i64 ((g k).2.1 2), .int .i64 ((g k).2.1 3), .int .i64 ((g k).2.1 4), .int .i64 ((g k).2.1 5), .int .i64 ((g k).2.1 6)] 40) := fun W => symbolName_any (g k) W
      have hge := hB.size
      have HB : Hid (Below w.heap.size w wr) := hB
      have hsz := hs k hlt
      have HL : Hid (lastOf (fun i => (g i).1) (k + 1) = updS (lastOf (fun i => (g i).1) k) (g k).1 (k : Int)) := lastOf_succ _ _
      have G2 : ∀ W, Below wr.heap.size wr W → ∃ W', (Instr.mapUpdate 64 (.map (some w.heap.size)) (.string (g k).1) (.int .i64 (k : Int))).run Tryz.prog W = .ok () W' ∧ Hid (SMap W' w.heap.size (k + 1) (lastOf (fun i => (g i).1) (k + 1)) ∧ Below w.heap.size w W') := fun W hW => by
        obtain ⟨W', r1, r2, r3⟩ := (hM.out.still hW hM.out.lt).store (by omega) (g k).1 (by unfold maxLen; omega) (k : Int)
        refine ⟨W', r1, ?_, ?_⟩
        · rw [HL.out]; exact r2
        · exact (HB.out.trans (hW.mono hge)).trans (r3.below (Nat.le_trans hge hW.size) (fun i e => by omega))
      clear h3 c0 c1 c2 c3 c4 c5 c6 hB hM HB HL hs
      generalize hx : g k = x at *
      clear hx
      go_wp2_with fail
      refine (G1 _).mono ?_
      rintro e w3 ⟨rfl, hw3⟩
      obtain ⟨W', r1, r2⟩ := G2 w3 (by rw [hw3]; exact ((Below.refl _ _).alloc (Nat.le_refl _) _).alloc (by simp) _)
      clear G2 G1 hw3
      go_wp2_with fail
      go_roundw
      case rel => exact ⟨k + 1, by simp, by omega, r2.out.1, r2.out.2⟩
      case measure => simp [RowKit.intOf]; omega
    · have hkn : k = n := by omega
      subst hkn
      have t : ¬ (k : Int) < (k : Int) := by omega
      clear h3 hs
      go_wp2_with fail
      go_ret
      exact ⟨rfl, hM.out, hB⟩
end Go.Proofs.YtfphjhmhiaepiaaGreat.RU
/-
  Contract of rules' places at venues: a map of the names' places.
-/
namespace Go.Proofs.YtfphjhmhiaepiaaGreat.RU
open Go.ChangeShapes Go.WideShapes Go.ChangeAt Go.RowKit Go.Lib SM

set_option maxHeartbeats 4000000 in
theorem placesV_any {w : World} {v : Value} {n : Nat} {g : Nat → It} (h : RowV w v n g) (hn : n ≤ 1000) (hs : ∀ i, i < n → (g i).1.size ≤ 1000000) :
    Calls Tryz.prog 29 #[v, .func (.func 30) #[] #[]] w fun e w' => e = .returned (.map (some w.heap.size)) ∧ SMap w' w.heap.size n (lastOf (fun i => (g i).1) n) ∧ Below w.heap.size w w' := by
  obtain ⟨a, cap, rfl, h1, h2, h3⟩ := id h
  unfold maxLen at h2
  have hmk := makeS_any (n : Int)
  clear h
  go_enter Tryz.func29, Tryz.ntmps29
  go_wp2_with fail
  go_loopw [13] (fun c wr => ∃ k : Nat, c = .int .i64 (k : Int) ∧ k ≤ n ∧ Hid (SMap wr w.heap.size k (lastOf (fun i => (g i).1) k)) ∧ Below w.heap.size w wr) (fun c _ => n - (RowKit.intOf c).toNat)
  case atStart => exact ⟨0, rfl, Nat.zero_le _, SMap.made w, (Below.refl _ _).alloc (Nat.le_refl _) _⟩
  case round =>
    obtain ⟨k, rfl, hk, hM, hB⟩ := hrel
    by_cases hlt : k < n
    · have t : (k : Int) < (n : Int) := by omega
      obtain ⟨b, off, rfl, c0, c1, c2, c3, c4⟩ := h3 k hlt
      have d0 := (hB.cell (World.block_lt_of_cell? _ _ c0)).trans c0
      have d1 := (hB.cell (World.block_lt_of_cell? _ _ c1)).trans c1
      have d2 := (hB.cell (World.block_lt_of_cell? _ _ c2)).trans c2
      have d3 := (hB.cell (World.block_lt_of_cell? _ _ c3)).trans c3
      have d4 := (hB.cell (World.block_lt_of_cell? _ _ c4)).trans c4
      have G1 : ∀ W, Calls Tryz.prog 30 #[.agg #[.string (g k).1, .int .i64 ((g k).2.1 1), .int .i64 ((g k).2.1 2), .int .i64 ((g k).2.1 3), .bool (g k).2.2]] W fun e w' => e = .returned (.string (g k).1) ∧ w' = W.alloc (.cells #[.string (g k).1, .int .i64 ((g k).2.1 1), .int .i64 ((g k).2.1 2), .int .i64 ((g k).2.1 3), .bool (g k).2.2] 57) := fun W => venueName_any (g k) W
      have hge := hB.size
      have HB : Hid (Below w.heap.size w wr) := hB
      have hsz := hs k hlt
      have HL : Hid (lastOf (fun i => (g i).1) (k + 1) = updS (lastOf (fun i => (g i).1) k) (g k).1 (k : Int)) := lastOf_succ _ _
      have G2 : ∀ W, Below wr.heap.size wr W → ∃ W', (Instr.mapUpdate 64 (.map (some w.heap.size)) (.string (g k).1) (.int .i64 (k : Int))).run Tryz.prog W = .ok () W' ∧ Hid (SMap W' w.heap.size (k + 1) (lastOf (fun i => (g i).1) (k + 1)) ∧ Below w.heap.size w W') := fun W hW => by
        obtain ⟨W', r1, r2, r3⟩ := (hM.out.still hW hM.out.lt).store (by omega) (g k).1 (by unfold maxLen; omega) (k : Int)
        refine ⟨W', r1, ?_, ?_⟩
        · rw [HL.out]; exact r2
        · exact (HB.out.trans (hW.mono hge)).trans (r3.below (Nat.le_trans hge hW.size) (fun i e => by omega))
      clear h3 c0 c1 c2 c3 c4 hB hM HB HL hs
      generalize hx : g k = x at *
      clear hx
      go_wp2_with fail
      refine (G1 _).mono ?_
      rintro e w3 ⟨rfl, hw3⟩
      obtain ⟨W', r1, r2⟩ := G2 w3 (by rw [hw3]; exact ((Below.refl _ _).alloc (Nat.le_refl _) _).alloc (by simp) _)
      clear G2 G1 hw3
      go_wp2_with fail
      go_roundw
      case rel => exact ⟨k + 1, by simp, by omega, r2.out.1, r2.out.2⟩
      case measure => simp [RowKit.intOf]; omega
    · have hkn : k = n := by omega
      subst hkn
      have t : ¬ (k : Int) < (k : Int) := by omega
      clear h3 hs
      go_wp2_with fail
      go_ret
      exact ⟨rfl, hM.out, hB⟩
end Go.Proofs.YtfphjhmhiaepiaaGreat.RU
/-
  Rules in memory; contract of rules' New.
-/
namespace Go.Proofs.YtfphjhmhiaepiaaGreat.RU
open Go.ChangeShapes Go.WideShapes Go.ChangeAt Go.RowKit Go.Lib SM

/-- Rules at block p, all of them in memory from B on: the setup that they keep, and the maps of its names. -/
structure RulAt (B : Nat) (w : World) (p : Nat) (x1 x2 x3 : Option Addr) (y1 y2 y3 m1 m2 m3 : Nat) (s : Stp) : Prop where
  at9 : SetAt w p x1 x2 x3 y1 y2 y3 s
  e9 : w.cell? ⟨p, 9, none⟩ = some (.map (some m1))
  e10 : w.cell? ⟨p, 10, none⟩ = some (.map (some m2))
  e11 : w.cell? ⟨p, 11, none⟩ = some (.map (some m3))
  own : SetOwn w B x1 x2 x3 y1 y2 y3 s
  ma : SMap w m1 s.nA (lastOf (fun i => (s.A i).1) s.nA)
  ms : SMap w m2 s.nS (lastOf (fun i => (s.S i).1) s.nS)
  mv : SMap w m3 s.nV (lastOf (fun i => (s.V i).1) s.nV)
  lp : B ≤ p
  l1 : B ≤ m1
  l2 : B ≤ m2
  l3 : B ≤ m3
theorem RulAt.kept {B : Nat} {w w' : World} {p : Nat} {x1 x2 x3 : Option Addr} {y1 y2 y3 m1 m2 m3 : Nat} {s : Stp} {S : Nat → Prop} (h : RulAt B w p x1 x2 x3 y1 y2 y3 m1 m2 m3 s) (k : But S w w') (hS : ∀ i, B ≤ i → ¬ S i) : RulAt B w' p x1 x2 x3 y1 y2 y3 m1 m2 m3 s := by
  have hp := hS p h.lp
  have lt := h.at9.lt
  refine ⟨⟨(k.cell lt hp).trans h.at9.d0, (k.cell lt hp).trans h.at9.d1, (k.cell lt hp).trans h.at9.d2, (k.cell lt hp).trans h.at9.d3, (k.cell lt hp).trans h.at9.d4, (k.cell lt hp).trans h.at9.d5, (k.cell lt hp).trans h.at9.d6, (k.cell lt hp).trans h.at9.d7, (k.cell lt hp).trans h.at9.d8⟩, (k.cell lt hp).trans h.e9, (k.cell lt hp).trans h.e10, (k.cell lt hp).trans h.e11, h.own.kept k hS, h.ma.kept k (hS _ h.l1), h.ms.kept k (hS _ h.l2), h.mv.kept k (hS _ h.l3), h.lp, h.l1, h.l2, h.l3⟩
theorem RulAt.still {B : Nat} {w w' : World} {p : Nat} {x1 x2 x3 : Option Addr} {y1 y2 y3 m1 m2 m3 : Nat} {s : Stp} (h : RulAt B w p x1 x2 x3 y1 y2 y3 m1 m2 m3 s) (k : Below w.heap.size w w') : RulAt B w' p x1 x2 x3 y1 y2 y3 m1 m2 m3 s := h.kept (S := fun _ => False) (But.of_below k) (fun _ _ => id)
theorem SetOwn.lower {w : World} {B C : Nat} {a1 a2 a3 : Option Addr} {c1 c2 c3 : Nat} {s : Stp} (h : SetOwn w B a1 a2 a3 c1 c2 c3 s) (hB : C ≤ B) : SetOwn w C a1 a2 a3 c1 c2 c3 s := ⟨own_base h.oa hB, own_base h.os hB, own_base h.ov hB⟩
/-- The names of a setup have a bounded size. -/
def Szs (s : Stp) : Prop := (∀ i, i < s.nA → (s.A i).1.size ≤ 1000000) ∧ (∀ i, i < s.nS → (s.S i).1.size ≤ 1000000) ∧ (∀ i, i < s.nV → (s.V i).1.size ≤ 1000000)
theorem right_nms {s : Stp} (h : rightB s = true) : nmsB s = true := by unfold rightB at h; rw [Bool.and_eq_true] at h; exact h.1
theorem nms_get {s : Stp} (h : nmsB s = true) : namesB (fun i => (s.A i).1) s.nA 16 = true ∧ namesB (fun i => (s.S i).1) s.nS 16 = true ∧ namesB (fun i => (s.V i).1) s.nV 8 = true := by
  unfold nmsB at h
  rw [Bool.and_eq_true, Bool.and_eq_true] at h
  exact h
theorem right_cnt {s : Stp} (h : rightB s = true) : Cnt s := by
  obtain ⟨h1, h2, h3⟩ := nms_get (right_nms h)
  have k1 := (names_get h1).1
  have k2 := (names_get h2).1
  have k3 := (names_get h3).1
  exact ⟨by omega, by omega, by omega⟩
set_option maxHeartbeats 2000000 in
theorem new_bad {w : World} {a1 a2 a3 : Option Addr} {c1 c2 c3 : Nat} {s : Stp} (h : SetIn w a1 a2 a3 c1 c2 c3 s) (hr : rightB s = false) :
    Calls Tryz.prog 8 #[.agg #[.slice a1 s.nA c1, .slice a2 s.nS c2, .slice a3 s.nV c3, .int .i64 (s.P 3), .int .i64 (s.P 4), .int .i64 (s.P 5), .int .i64 (s.P 6), .int .i64 (s.P 7), .int .i64 (s.P 8)]] w fun e w' => e = .returned (.tuple #[.pointer none, .int .i64 150]) ∧ Below w.heap.size w w' := by
  have B0 : Below w.heap.size w (w.alloc (.cells #[.slice a1 s.nA c1, .slice a2 s.nS c2, .slice a3 s.nV c3, .int .i64 (s.P 3), .int .i64 (s.P 4), .int .i64 (s.P 5), .int .i64 (s.P 6), .int .i64 (s.P 7), .int .i64 (s.P 8)] 26)) := (Below.refl _ _).alloc (Nat.le_refl _) _
  have HB0 : Hid (Below w.heap.size w (w.alloc (.cells #[.slice a1 s.nA c1, .slice a2 s.nS c2, .slice a3 s.nV c3, .int .i64 (s.P 3), .int .i64 (s.P 4), .int .i64 (s.P 5), .int .i64 (s.P 6), .int .i64 (s.P 7), .int .i64 (s.P 8)] 26))) := B0
  have F := check_any (h.below B0 (Nat.le_refl _))
  rw [hr, show chkE false = 150 from rfl] at F
  clear h hr B0
  go_enter Tryz.func8, Tryz.ntmps8
  go_wp2_with fail
  refine F.mono ?_
  rintro e w1 ⟨rfl, hb⟩
  go_wp2_with fail
  go_ret2
  exact ⟨rfl, HB0.out.trans (hb.mono HB0.out.size)⟩
set_option maxRecDepth 100000 in
set_option maxHeartbeats 8000000 in
theorem new_good {w : World} {a1 a2 a3 : Option Addr} {c1 c2 c3 : Nat} {s : Stp} (h : SetIn w a1 a2 a3 c1 c2 c3 s) (hr : rightB s = true) (hz : Szs s) :
    Calls Tryz.prog 8 #[.agg #[.slice a1 s.nA c1, .slice a2 s.nS c2, .slice a3 s.nV c3, .int .i64 (s.P 3), .int .i64 (s.P 4), .int .i64 (s.P 5), .int .i64 (s.P 6), .int .i64 (s.P 7), .int .i64 (s.P 8)]] w fun e w' => ∃ p x1 x2 x3 y1 y2 y3 m1 m2 m3, e = .returned (.tuple #[.pointer (some ⟨p, 0, none⟩), .int .i64 0]) ∧ RulAt w.heap.size w' p x1 x2 x3 y1 y2 y3 m1 m2 m3 s ∧ Below w.heap.size w w' := by
  have B0 : Below w.heap.size w (w.alloc (.cells #[.slice a1 s.nA c1, .slice a2 s.nS c2, .slice a3 s.nV c3, .int .i64 (s.P 3), .int .i64 (s.P 4), .int .i64 (s.P 5), .int .i64 (s.P 6), .int .i64 (s.P 7), .int .i64 (s.P 8)] 26)) := (Below.refl _ _).alloc (Nat.le_refl _) _
  have HB0 : Hid (Below w.heap.size w (w.alloc (.cells #[.slice a1 s.nA c1, .slice a2 s.nS c2, .slice a3 s.nV c3, .int .i64 (s.P 3), .int .i64 (s.P 4), .int .i64 (s.P 5), .int .i64 (s.P 6), .int .i64 (s.P 7), .int .i64 (s.P 8)] 26))) := B0
  have A0 : Hid (SetAt (w.alloc (.cells #[.slice a1 s.nA c1, .slice a2 s.nS c2, .slice a3 s.nV c3, .int .i64 (s.P 3), .int .i64 (s.P 4), .int .i64 (s.P 5), .int .i64 (s.P 6), .int .i64 (s.P 7), .int .i64 (s.P 8)] 26)) w.heap.size a1 a2 a3 c1 c2 c3 s) := SetAt.box w a1 a2 a3 c1 c2 c3 s _
  have F := check_any (h.below B0 (Nat.le_refl _))
  rw [hr, show chkE true = 0 from rfl] at F
  have hc := right_cnt hr
  have G0 : ∀ W, Below w.heap.size w W → Calls Tryz.prog 24 #[.agg #[.slice a1 s.nA c1, .slice a2 s.nS c2, .slice a3 s.nV c3, .int .i64 (s.P 3), .int .i64 (s.P 4), .int .i64 (s.P 5), .int .i64 (s.P 6), .int .i64 (s.P 7), .int .i64 (s.P 8)]] W fun e w' => ∃ x1 x2 x3 y1 y2 y3, e = .returned (.agg #[.slice x1 s.nA y1, .slice x2 s.nS y2, .slice x3 s.nV y3, .int .i64 (s.P 3), .int .i64 (s.P 4), .int .i64 (s.P 5), .int .i64 (s.P 6), .int .i64 (s.P 7), .int .i64 (s.P 8)]) ∧ SetOwn w' W.heap.size x1 x2 x3 y1 y2 y3 s ∧ Below W.heap.size W w' := fun W hW => copied_any (h.below hW (Nat.le_refl _)) hc
  have G1 : ∀ W, Below w.heap.size w W → Calls Tryz.prog 25 #[.slice a1 s.nA c1, .func (.func 26) #[] #[]] W fun e w' => e = .returned (.map (some W.heap.size)) ∧ SMap w' W.heap.size s.nA (lastOf (fun i => (s.A i).1) s.nA) ∧ Below W.heap.size W w' := fun W hW => placesA_any (h.ra.below hW (Nat.le_refl _)) (by have := hc.1.2; omega) hz.1
  have G2 : ∀ W, Below w.heap.size w W → Calls Tryz.prog 27 #[.slice a2 s.nS c2, .func (.func 28) #[] #[]] W fun e w' => e = .returned (.map (some W.heap.size)) ∧ SMap w' W.heap.size s.nS (lastOf (fun i => (s.S i).1) s.nS) ∧ Below W.heap.size W w' := fun W hW => placesS_any (h.rs.below hW (Nat.le_refl _)) (by have := hc.2.1.2; omega) hz.2.1
  have G3 : ∀ W, Below w.heap.size w W → Calls Tryz.prog 29 #[.slice a3 s.nV c3, .func (.func 30) #[] #[]] W fun e w' => e = .returned (.map (some W.heap.size)) ∧ SMap w' W.heap.size s.nV (lastOf (fun i => (s.V i).1) s.nV) ∧ Below W.heap.size W w' := fun W hW => placesV_any (h.rv.below hW (Nat.le_refl _)) (by have := hc.2.2.2; omega) hz.2.2
  clear h hr B0 hc hz
  go_enter Tryz.func8, Tryz.ntmps8
  go_wp2_with fail
  refine F.mono ?_
  rintro e w1 ⟨rfl, hb⟩
  have HB1 : Hid (Below w.heap.size w w1) := HB0.out.trans (hb.mono HB0.out.size)
  have A1 : Hid (SetAt w1 w.heap.size a1 a2 a3 c1 c2 c3 s) := A0.out.still hb A0.out.lt
  obtain ⟨p1_0, p1_1, p1_2, p1_3, p1_4, p1_5, p1_6, p1_7, p1_8⟩ := A1.out
  clear hb F HB0 A0
  go_wp2_with fail
  go_region_held3 (fun w' => w'.cell? ⟨w.heap.size, 0, none⟩ = some (.slice a1 s.nA c1) ∧ w'.cell? ⟨w.heap.size, 1, none⟩ = some (.slice a2 s.nS c2) ∧ w'.cell? ⟨w.heap.size, 2, none⟩ = some (.slice a3 s.nV c3) ∧ w'.cell? ⟨w.heap.size, 3, none⟩ = some (.int .i64 (s.P 3)) ∧ w'.cell? ⟨w.heap.size, 4, none⟩ = some (.int .i64 (s.P 4)) ∧ w'.cell? ⟨w.heap.size, 5, none⟩ = some (.int .i64 (s.P 5)) ∧ w'.cell? ⟨w.heap.size, 6, none⟩ = some (.int .i64 (s.P 6)) ∧ w'.cell? ⟨w.heap.size, 7, none⟩ = some (.int .i64 (s.P 7)) ∧ w'.cell? ⟨w.heap.size, 8, none⟩ = some (.int .i64 (s.P 8))) (go_keep) (first
    | (go_at_call 24; refine (G0 _ (below_more HB1.out 1)).mono ?_; rintro e w2 ⟨x1, x2, x3, y1, y2, y3, rfl, so, b2⟩; have HS : Hid (w.heap.size ≤ w1.heap.size) := HB1.out.size; have B2 : Below w1.heap.size w1 w2 := (Below.refl _ w1).drew.trans b2; have SO2 : Hid (SetOwn w2 w1.heap.size x1 x2 x3 y1 y2 y3 s) := so; have HB2 : Hid (Below w.heap.size w w2) := HB1.out.trans (B2.mono HB1.out.size); have A2 : Hid (SetAt w2 w.heap.size a1 a2 a3 c1 c2 c3 s) := A1.out.still B2 A1.out.lt; obtain ⟨p2_0, p2_1, p2_2, p2_3, p2_4, p2_5, p2_6, p2_7, p2_8⟩ := A2.out; clear so b2 B2)
    | (go_at_call 25; refine (G1 _ HB2.out).mono ?_; rintro e w3 ⟨rfl, sm, b3⟩; have MA3 : Hid (SMap w3 w2.heap.size s.nA (lastOf (fun i => (s.A i).1) s.nA)) := sm; have SO3 : Hid (SetOwn w3 w1.heap.size x1 x2 x3 y1 y2 y3 s) := SO2.out.still b3; have HB3 : Hid (Below w.heap.size w w3) := HB2.out.trans (b3.mono HB2.out.size); have A3 : Hid (SetAt w3 w.heap.size a1 a2 a3 c1 c2 c3 s) := A2.out.still b3 A2.out.lt; obtain ⟨p3_0, p3_1, p3_2, p3_3, p3_4, p3_5, p3_6, p3_7, p3_8⟩ := A3.out; have S3 : Hid (w2.heap.size ≤ w3.heap.size) := b3.size; clear sm b3)
    | (go_at_call 27; refine (G2 _ HB3.out).mono ?_; rintro e w4 ⟨rfl, sm, b4⟩; have MS4 : Hid (SMap w4 w3.heap.size s.nS (lastOf (fun i => (s.S i).1) s.nS)) := sm; have MA4 : Hid (SMap w4 w2.heap.size s.nA (lastOf (fun i => (s.A i).1) s.nA)) := MA3.out.still b4 MA3.out.lt; have SO4 : Hid (SetOwn w4 w1.heap.size x1 x2 x3 y1 y2 y3 s) := SO3.out.still b4; have HB4 : Hid (Below w.heap.size w w4) := HB3.out.trans (b4.mono HB3.out.size); have A4 : Hid (SetAt w4 w.heap.size a1 a2 a3 c1 c2 c3 s) := A3.out.still b4 A3.out.lt; obtain ⟨p4_0, p4_1, p4_2, p4_3, p4_4, p4_5, p4_6, p4_7, p4_8⟩ := A4.out; have S4 : Hid (w3.heap.size ≤ w4.heap.size) := b4.size; clear sm b4)
    | (go_at_call 29; refine (G3 _ HB4.out).mono ?_; rintro e w5 ⟨rfl, sm, b5⟩; have MV5 : Hid (SMap w5 w4.heap.size s.nV (lastOf (fun i => (s.V i).1) s.nV)) := sm; have MS5 : Hid (SMap w5 w3.heap.size s.nS (lastOf (fun i => (s.S i).1) s.nS)) := MS4.out.still b5 MS4.out.lt; have MA5 : Hid (SMap w5 w2.heap.size s.nA (lastOf (fun i => (s.A i).1) s.nA)) := MA4.out.still b5 MA4.out.lt; have SO5 : Hid (SetOwn w5 w1.heap.size x1 x2 x3 y1 y2 y3 s) := SO4.out.still b5; have HB5 : Hid (Below w.heap.size w w5) := HB4.out.trans (b5.mono HB4.out.size); have A5 : Hid (SetAt w5 w.heap.size a1 a2 a3 c1 c2 c3 s) := A4.out.still b5 A4.out.lt; obtain ⟨p5_0, p5_1, p5_2, p5_3, p5_4, p5_5, p5_6, p5_7, p5_8⟩ := A5.out; have S5 : Hid (w4.heap.size ≤ w5.heap.size) := b5.size; clear sm b5))
  all_goals
    go_wp2_with fail
    go_ret2
    refine ⟨w5.heap.size, x1, x2, x3, y1, y2, y3, w2.heap.size, w3.heap.size, w4.heap.size, rfl, ?_, HB5.out.alloc HB5.out.size _⟩
    have BA : ∀ o : Obj, Below w5.heap.size w5 (w5.alloc o) := fun o => (Below.refl _ _).alloc (Nat.le_refl _) _
    refine ⟨⟨by simp, by simp, by simp, by simp, by simp, by simp, by simp, by simp, by simp⟩, by simp, by simp, by simp, (SO5.out.still (BA _)).lower HB1.out.size, MA5.out.still (BA _) MA5.out.lt, MS5.out.still (BA _) MS5.out.lt, MV5.out.still (BA _) MV5.out.lt, HB5.out.size, HB2.out.size, HB3.out.size, HB4.out.size⟩
end Go.Proofs.YtfphjhmhiaepiaaGreat.RU
