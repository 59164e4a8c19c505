/-
  Plain lists of bits, the lowest first, no program: the number that a list stands for, lists without noughts at the upper end, and what sums, differences and comparisons bit by bit come to.
-/
import Derived.WalkKit
import Derived.WalkSpells
import Derived.WalkLawsBesides
import Derived.ProofKit
import Derived.OpenShut
import Derived.Outline
import Derived.Deep.RegionHeld3
import Derived.Deep.QuietTactic
import Derived.BigQuiet
import Derived.Deep.DeepCutAuto
import Derived.Test.YtfphjhmhiaepiaaGreatRows
import Derived.Test.YtfphjhmhiaepiaaGreatKA
namespace Go.Proofs.YtfphjhmhiaepiaaGreat

def val : List Bool → Nat
  | [] => 0
  | b :: l => b.toNat + 2 * val l
/-- Without noughts at the upper end. -/
def Canon (l : List Bool) : Prop := l.getLast? ≠ some false

theorem val_append (l m : List Bool) : val (l ++ m) = val l + 2 ^ l.length * val m := by
  induction l with
  | nil => simp [val]
  | cons b l ih =>
    simp only [List.cons_append, val, ih, List.length_cons, Nat.pow_succ]
    rw [Nat.mul_add, Nat.mul_comm (2 ^ l.length) 2, Nat.mul_assoc]
    omega
theorem val_lt (l : List Bool) : val l < 2 ^ l.length := by
  induction l with
  | nil => simp [val]
  | cons b l ih =>
    simp only [val, List.length_cons, Nat.pow_succ]
    cases b <;> simp <;> omega
theorem val_snoc (l : List Bool) (b : Bool) : val (l ++ [b]) = val l + 2 ^ l.length * b.toNat := by
  rw [val_append]; simp [val]
theorem canon_nil : Canon [] := by simp [Canon]
theorem canon_snoc (l : List Bool) : Canon (l ++ [true]) := by simp [Canon]
theorem canon_ge (l : List Bool) (h : Canon l) (hn : l ≠ []) : 2 ^ (l.length - 1) ≤ val l := by
  obtain ⟨m, b, rfl⟩ : ∃ m b, l = m ++ [b] := ⟨l.dropLast, l.getLast hn, (List.dropLast_concat_getLast hn).symm⟩
  have hb : b = true := by
    cases b
    · exact absurd (by simp) h
    · rfl
  subst hb
  rw [val_snoc]
  simp
theorem canon_zero (l : List Bool) (h : Canon l) : l = [] ↔ val l = 0 := by
  constructor
  · intro e; subst e; rfl
  · intro e
    apply Decidable.byContradiction
    intro hn
    have := canon_ge l h hn
    have := Nat.two_pow_pos (l.length - 1)
    omega
theorem val_take_succ (l : List Bool) (k : Nat) (hk : k < l.length) : val (l.take (k + 1)) = val (l.take k) + 2 ^ k * (l.getD k false).toNat := by
  rw [List.take_succ_eq_append_getElem hk, val_snoc]
  simp [hk, Nat.min_eq_left (Nat.le_of_lt hk)]
/-- The same where the list may have ended. -/
theorem val_take_next (l : List Bool) (k : Nat) : val (l.take (k + 1)) = val (l.take k) + 2 ^ k * (l.getD k false).toNat := by
  by_cases hk : k < l.length
  · exact val_take_succ l k hk
  · have h1 : l.take (k + 1) = l := List.take_of_length_le (by omega)
    have h2 : l.take k = l := List.take_of_length_le (by omega)
    have h3 : l.getD k false = false := by simp [List.getD, List.getElem?_eq_none (Nat.le_of_not_lt hk)]
    rw [h1, h2, h3]; simp
theorem val_falses (l : List Bool) (h : ∀ i, i < l.length → l.getD i false = false) : val l = 0 := by
  induction l with
  | nil => rfl
  | cons b l ih =>
    have hb : b = false := by simpa using h 0 (by simp)
    have := ih (fun i hi => by simpa using h (i + 1) (by simp; omega))
    simp [val, hb, this]
/-- Cut off where all that follows is nought. -/
theorem val_trim (l : List Bool) (n : Nat) (h : ∀ i, n ≤ i → i < l.length → l.getD i false = false) : val (l.take n) = val l := by
  have e : val l = val (l.take n ++ l.drop n) := by rw [List.take_append_drop]
  have z : val (l.drop n) = 0 := val_falses _ (fun i hi => by
    have hl : i < l.length - n := by simpa using hi
    have := h (n + i) (by omega) (by omega)
    simpa using this)
  rw [e, val_append, z]; simp
theorem canon_trim (l : List Bool) (n : Nat) (hn : n ≤ l.length) (h : n = 0 ∨ l.getD (n - 1) false = true) : Canon (l.take n) := by
  rcases h with rfl | h
  · simp [Canon]
  · unfold Canon
    rcases Nat.eq_zero_or_pos n with rfl | hp
    · simp
    · have hl : n - 1 < l.length := by omega
      have : (l.take n).getLast? = some (l.getD (n - 1) false) := by
        rw [List.getLast?_eq_getElem?]
        simp [Nat.min_eq_left hn, hl, List.getElem?_take]
        omega
      rw [this, h]; simp
theorem val_ext : ∀ (x y : List Bool), (∀ j, x.getD j false = y.getD j false) → val x = val y
  | [], y, h => by
    have : val y = 0 := val_falses y (fun i _ => by have := h i; simpa using this.symm)
    rw [this]; rfl
  | b :: x, [], h => by
    have : val (b :: x) = 0 := val_falses (b :: x) (fun i _ => by have := h i; simpa using this)
    rw [this]; rfl
  | b :: x, c :: y, h => by
    have e : b = c := by simpa using h 0
    have := val_ext x y (fun j => by simpa using h (j + 1))
    simp [val, e, this]
theorem val_split (l : List Bool) (k : Nat) : val l = val (l.take k) + 2 ^ k * val (l.drop k) := by
  have e : val l = val (l.take k ++ l.drop k) := by rw [List.take_append_drop]
  rw [e, val_append]
  by_cases hk : k ≤ l.length
  · simp [Nat.min_eq_left hk]
  · have : l.drop k = [] := List.drop_eq_nil_of_le (by omega)
    rw [this]; simp [val]
theorem val_take_lt (l : List Bool) (k : Nat) : val (l.take k) < 2 ^ k := by
  have := val_lt (l.take k)
  have h2 : 2 ^ (l.take k).length ≤ 2 ^ k := Nat.pow_le_pow_right (by omega) (by simp; omega)
  omega
theorem drop_same (x y : List Bool) (k : Nat) (h : ∀ j, k ≤ j → x.getD j false = y.getD j false) : val (x.drop k) = val (y.drop k) :=
  val_ext _ _ (fun j => by have := h (k + j) (by omega); simpa using this)
/-- The uppermost bit in which two lists part says which is greater. -/
theorem val_part (x y : List Bool) (k : Nat) (h : ∀ j, k + 1 ≤ j → x.getD j false = y.getD j false) (hx : x.getD k false = true) (hy : y.getD k false = false) : val y < val x := by
  have e1 := val_split x (k + 1)
  have e2 := val_split y (k + 1)
  have e3 := drop_same x y (k + 1) h
  have e4 := val_take_next x k
  have e5 := val_take_next y k
  have e6 := val_take_lt y k
  rw [hx] at e4
  rw [hy] at e5
  rw [e3] at e1
  simp at e4 e5
  omega
def maj (a b c : Bool) : Bool := a && b || c && (a || b)
theorem plus_step (x y l : List Bool) (q : Bool) (h : val l + 2 ^ l.length * q.toNat = val (x.take l.length) + val (y.take l.length)) :
    val (l ++ [(x.getD l.length false != y.getD l.length false) != q]) + 2 ^ (l ++ [(x.getD l.length false != y.getD l.length false) != q]).length * (maj (x.getD l.length false) (y.getD l.length false) q).toNat =
      val (x.take (l.length + 1)) + val (y.take (l.length + 1)) := by
  rw [val_take_next, val_take_next, val_snoc, List.length_append, List.length_singleton, Nat.pow_succ, Nat.mul_assoc]
  generalize x.getD l.length false = a
  generalize y.getD l.length false = b
  generalize 2 ^ l.length = p at *
  cases a <;> cases b <;> cases q <;> simp [maj] at * <;> omega
def bor (a b c : Bool) : Bool := !a && (b || c) || a && b && c
theorem minus_step (x y l : List Bool) (q : Bool) (h : val (x.take l.length) + 2 ^ l.length * q.toNat = val l + val (y.take l.length)) :
    val (x.take (l.length + 1)) + 2 ^ (l ++ [(x.getD l.length false != y.getD l.length false) != q]).length * (bor (x.getD l.length false) (y.getD l.length false) q).toNat =
      val (l ++ [(x.getD l.length false != y.getD l.length false) != q]) + val (y.take (l.length + 1)) := by
  rw [val_take_next, val_take_next, val_snoc, List.length_append, List.length_singleton, Nat.pow_succ, Nat.mul_assoc]
  generalize x.getD l.length false = a
  generalize y.getD l.length false = b
  generalize 2 ^ l.length = p at *
  cases a <;> cases b <;> cases q <;> simp [bor] at * <;> omega
/-- At the end nothing is borrowed any more. -/
theorem minus_end (x y l : List Bool) (q : Bool) (hl : l.length = x.length) (h : val (x.take l.length) + 2 ^ l.length * q.toNat = val l + val (y.take l.length)) (hle : val y ≤ val x) : val l = val x - val y := by
  have e1 : x.take l.length = x := List.take_of_length_le (by omega)
  rw [e1] at h
  have e2 := val_split y l.length
  have e3 := val_lt l
  have e4 := val_lt x
  rw [← hl] at e4
  have hp := Nat.two_pow_pos l.length
  have hd : val (y.drop l.length) = 0 := by
    rcases Nat.eq_zero_or_pos (val (y.drop l.length)) with h0 | h0
    · exact h0
    · have := Nat.le_mul_of_pos_right (2 ^ l.length) h0
      omega
  rw [hd] at e2
  generalize 2 ^ l.length = p at *
  cases q <;> simp at * <;> omega
theorem take_all (x : List Bool) (k : Nat) (h : x.length ≤ k) : x.take k = x := List.take_of_length_le h
theorem getD_end (x : List Bool) (k : Nat) (h : x.length ≤ k) : x.getD k false = false := by simp [List.getElem?_eq_none h]
theorem val_same (x y : List Bool) (h : ∀ j, x.getD j false = y.getD j false) : val x = val y := val_ext x y h
end Go.Proofs.YtfphjhmhiaepiaaGreat
/-
  What it is for a slice of bits to read as a list in a world; contracts of the reference's at and trim.
-/
namespace Go.Proofs.YtfphjhmhiaepiaaGreat
open Go.ChangeShapes Go.WideShapes Go.ChangeAt Go.RowKit

/-- The slice value v reads as the bits l, which lie in blocks from number B on. -/
def Reads (B : Nat) (w : World) (v : Value) (l : List Bool) : Prop :=
  ∃ a cap, v = .slice a l.length cap ∧ l.length ≤ cap ∧ cap ≤ maxLen ∧ (∀ i, i < l.length → ∃ b off, a = some ⟨b, off, none⟩ ∧ B ≤ b ∧ w.cell? ⟨b, off + i, none⟩ = some (.bool (l.getD i false)))
theorem Reads.below {B : Nat} {w w' : World} {v : Value} {l : List Bool} (h : Reads B w v l) (hb : Below w.heap.size w w') : Reads B w' v l := by
  obtain ⟨a, cap, rfl, h1, h2, h3⟩ := h
  refine ⟨a, cap, rfl, h1, h2, fun i hi => ?_⟩
  obtain ⟨b, off, e, hB, hc⟩ := h3 i hi
  exact ⟨b, off, e, hB, by rw [hb.cell (World.block_lt_of_cell? _ _ hc)]; exact hc⟩
theorem Reads.mono {B C : Nat} {w : World} {v : Value} {l : List Bool} (h : Reads B w v l) (hC : C ≤ B) : Reads C w v l := by
  obtain ⟨a, cap, rfl, h1, h2, h3⟩ := h
  refine ⟨a, cap, rfl, h1, h2, fun i hi => ?_⟩
  obtain ⟨b, off, e, hB, hc⟩ := h3 i hi
  exact ⟨b, off, e, by omega, hc⟩
/-- A cell below is written. -/
theorem Reads.setCell {B : Nat} {w : World} {v : Value} {l : List Bool} (h : Reads B w v l) {p : Addr} (hp : p.block < B) (u : Value) : Reads B (w.setCell p u) v l := by
  obtain ⟨a, cap, rfl, h1, h2, h3⟩ := h
  refine ⟨a, cap, rfl, h1, h2, fun i hi => ?_⟩
  obtain ⟨b, off, e, hB, hc⟩ := h3 i hi
  refine ⟨b, off, e, hB, ?_⟩
  rw [World.cell?_of_block (w := w) (Below.heap_setCell _ _ _ _ (by show b ≠ p.block; omega))]
  exact hc
theorem reads_nil (B : Nat) (w : World) : Reads B w (.slice none 0 0) [] := ⟨none, 0, rfl, by simp, by simp [maxLen], fun i hi => by simp at hi⟩
theorem Reads.take {B : Nat} {w : World} {a : Option Addr} {n cap : Nat} {l : List Bool} (h : Reads B w (.slice a n cap) l) (k : Nat) (hk : k ≤ l.length) : Reads B w (.slice a k cap) (l.take k) := by
  obtain ⟨a', cap', e, h1, h2, h3⟩ := h
  simp only [Value.slice.injEq] at e
  obtain ⟨rfl, rfl, rfl⟩ := e
  refine ⟨a, cap, by simp [Nat.min_eq_left hk], by simp; omega, h2, fun i hi => ?_⟩
  have hi' : i < k := by simp at hi; omega
  obtain ⟨b, off, e, hB, hc⟩ := h3 i (by omega)
  refine ⟨b, off, e, hB, ?_⟩
  rw [hc]
  simp [hi']
/-- A row of the call's own, of bits. -/
theorem reads_of_owns {w : World} {base : Nat} {v : Value} {l : List Bool} (h : w.ownsRow base 4 1 v l.length (l.map Value.bool)) : Reads base w v l := by
  obtain ⟨_, h2⟩ := h
  rcases h2 with ⟨rfl, h0⟩ | ⟨g, cap, cur, rfl, hg, hh, hn, hm, hs, ht⟩
  · have : l = [] := List.eq_nil_of_length_eq_zero h0
    subst this
    exact reads_nil base w
  · refine ⟨_, cap, rfl, hn, hm, fun i hi => ⟨g, 0, rfl, hg, ?_⟩⟩
    have hown : w.ownsRow base 4 1 (.slice (some ⟨g, 0, none⟩) l.length cap) l.length (l.map Value.bool) := ⟨by simp, .inr ⟨g, cap, cur, rfl, hg, hh, hn, hm, hs, ht⟩⟩
    have := hown.cells (g := g) rfl i (.bool (l.getD i false)) (by simp [hi])
    have e : (⟨g, 0, none⟩ : Addr).add i = ⟨g, 0 + i, none⟩ := by unfold Addr.add; split <;> simp_all
    rw [e] at this
    exact this

set_option maxHeartbeats 400000 in
theorem at_any {B : Nat} (l : List Bool) (v : Value) (i : Nat) (w : World) (h : Reads B w v l) :
    Calls Tryz.prog 72 #[v, .int .i64 (i : Int)] w fun e w' => e = .returned (.bool (l.getD i false)) ∧ w' = w := by
  obtain ⟨a, cap, rfl, h1, h2, h3⟩ := h
  unfold maxLen at h2
  by_cases hlt : i < l.length
  · obtain ⟨b, off, rfl, _, hc⟩ := h3 i hlt
    generalize l.getD i false = x at *
    have t : (i : Int) < (l.length : Int) := by omega
    go_enter Tryz.func72, Tryz.ntmps72
    go_wp2
    go_ret
    exact ⟨rfl, rfl⟩
  · have t : decide ((i : Int) < (l.length : Int)) = false := by simp; omega
    have e : l.getD i false = false := by simp [List.getElem?_eq_none (Nat.le_of_not_lt hlt)]
    rw [e]
    go_enter Tryz.func72, Tryz.ntmps72
    go_wp2
    go_ret
    exact ⟨rfl, rfl⟩

set_option maxHeartbeats 400000 in
theorem trim_any {B : Nat} (l : List Bool) (v : Value) (w : World) (h : Reads B w v l) :
    Calls Tryz.prog 73 #[v] w fun e w' => ∃ v', e = .returned v' ∧ w' = w ∧ ∃ l', Reads B w v' l' ∧ Canon l' ∧ val l' = val l ∧ l'.length ≤ l.length := by
  have hR := h
  obtain ⟨a, cap, rfl, h1, h2, h3⟩ := h
  have h2' := h2
  unfold maxLen at h2
  go_enter Tryz.func73, Tryz.ntmps73
  go_wp2
  go_loop [3] (fun n => ∃ k : Nat, n = .int .i64 (k : Int) ∧ k ≤ l.length ∧ Hid (∀ i, k ≤ i → i < l.length → l.getD i false = false)) (fun n => (intOf n).toNat)
  case atStart => exact ⟨l.length, rfl, Nat.le_refl _, fun i h1 h2 => by omega⟩
  case round =>
    obtain ⟨k, rfl, hk, hz⟩ := hrel
    rcases Nat.eq_zero_or_pos k with rfl | hp
    · go_wp2
      go_ret
      exact ⟨_, rfl, rfl, [], hR.take 0 (Nat.zero_le _), canon_nil, val_trim l 0 hz.out, by simp⟩
    · obtain ⟨j, rfl⟩ : ∃ j, k = j + 1 := ⟨k - 1, by omega⟩
      obtain ⟨b, off, rfl, _, hc⟩ := h3 j (by omega)
      have t : (j : Int) < (l.length : Int) := by omega
      cases hb : l.getD j false
      · rw [hb] at hc
        go_wp2
        go_round
        case rel => exact ⟨j, by go_num, by omega, fun i h1 h2 => by
          rcases Nat.eq_or_lt_of_le h1 with rfl | h
          · exact hb
          · exact hz.out i h h2⟩
        case measure => simp [intOf]
      · rw [hb] at hc
        go_wp2
        go_ret
        exact ⟨_, rfl, rfl, l.take (j + 1), hR.take (j + 1) hk, canon_trim l (j + 1) hk (.inr hb), val_trim l (j + 1) hz.out, by rw [List.length_take]; omega⟩
end Go.Proofs.YtfphjhmhiaepiaaGreat
/-
  Contract of the reference's Of: the bits of a number of 64 bits, for every number.
-/
namespace Go.Proofs.YtfphjhmhiaepiaaGreat
open Go.ChangeShapes Go.WideShapes Go.ChangeAt Go.RowKit

theorem Tryz.infoBool : (Tryz.prog.info? 4).map (fun i => (i.zero, i.size, i.bytes)) = some (some (.bool false), 1, 1) := by kernel_rfl
theorem bits_one (l : List Bool) : ∀ u ∈ l.map Value.bool, u.oneCell' = true := by
  intro u hu
  obtain ⟨b, _, rfl⟩ := List.mem_map.1 hu
  rfl
theorem owns_snoc {w : World} {base e : Nat} {v : Value} {l : List Bool} {b : Bool} (h : w.ownsRow base e 1 v (l.length + 1) (l.map Value.bool ++ [.bool b])) : w.ownsRow base e 1 v (l ++ [b]).length ((l ++ [b]).map Value.bool) := by
  simpa using h
/-- One bit more, of the number that is left. -/
theorem of_step (l : List Bool) (M N : Nat) (h : val l + 2 ^ l.length * M = N) : val (l ++ [decide (M % 2 = 1)]) + 2 ^ (l ++ [decide (M % 2 = 1)]).length * (M / 2) = N := by
  rw [val_snoc, List.length_append, List.length_singleton, Nat.pow_succ, Nat.mul_assoc, Nat.add_assoc, ← Nat.mul_add]
  have e : (decide (M % 2 = 1)).toNat + 2 * (M / 2) = M := by
    by_cases hm : M % 2 = 1 <;> simp [hm] <;> omega
  rw [e, h]
theorem pow_split (k : Nat) (M : Nat) (hk : k < 64) (h : M < 2 ^ (64 - k)) : M / 2 < 2 ^ (64 - (k + 1)) := by
  have e : 64 - k = (64 - (k + 1)) + 1 := by omega
  rw [e, Nat.pow_succ] at h
  omega

set_option maxRecDepth 100000 in
set_option maxHeartbeats 1000000 in
theorem of_any (a : Int) (w : World) (a1 : -9223372036854775808 ≤ a) (a2 : a ≤ 9223372036854775807) :
    Calls Tryz.prog 44 #[.int .i64 a] w fun e w' => ∃ v, e = .returned (.agg #[.bool (decide (a < 0)), v]) ∧ Below w.heap.size w w' ∧ ∃ l, Reads w.heap.size w' v l ∧ Canon l ∧ val l = a.natAbs ∧ l.length ≤ 64 := by
  obtain ⟨i0, hi, hz0, hz1, hz2⟩ := info_parts Tryz.infoBool
  go_enter Tryz.func44, Tryz.ntmps44
  go_upto_if 8 with fail
  go_cut [3] from 5 to 24 (fun m wx => m = .int .u64 (a.natAbs : Int) ∧ wx = w.alloc (.cells #[.bool false, .slice none 0 0] 87))
  case first =>
    by_cases h : a < 0
    · go_wp2_with fail
      go_meet
      case rel => exact ⟨congrArg (Value.int .u64) (by (try simp only [IntKind.wrap_u64]); omega), rfl⟩
    · go_wp2_with fail
      go_meet
      case rel => exact ⟨congrArg (Value.int .u64) (by rw [IntKind.wrap_u64]; omega), rfl⟩
  case rest =>
    obtain ⟨rfl, rfl⟩ := hcut
    go_wp2_with fail
    go_loopw [3, 4] (fun m v wr => ∃ (l : List Bool) (M : Nat), m = .int .u64 (M : Int) ∧ wr.ownsRow (w.heap.size + 1) 4 1 v l.length (l.map Value.bool) ∧ Hid (val l + 2 ^ l.length * M = a.natAbs) ∧ l.length ≤ 64 ∧ Hid (M < 2 ^ (64 - l.length)) ∧ Hid (M = 0 → Canon l) ∧ M ≤ 18446744073709551615 ∧ Below (w.heap.size + 1) (w.alloc (.cells #[.bool false, .slice none 0 0] 87)) wr) (fun m _ _ => (intOf m).toNat)
    case atStart => exact ⟨[], a.natAbs, rfl, World.ownsRow_nil _ _ _ _, by show _ = _; simp [val], by simp, by show _ < 2 ^ 64; omega, fun _ => canon_nil, by omega, Below.refl _ _⟩
    case round =>
      obtain ⟨l, M, rfl, hown, h1, h2, h3, h4, h5, hB⟩ := hrel
      rcases Nat.eq_zero_or_pos M with rfl | hp
      · have hR := reads_of_owns hown
        obtain ⟨a0, cap0, rfl, _⟩ := id hR
        have c0 := hB.cell (p := ⟨w.heap.size, 0, none⟩) (by simp)
        have c1 := hB.cell (p := ⟨w.heap.size, 1, none⟩) (by simp)
        have f0 := hB.frozen (p := ⟨w.heap.size, 0, none⟩) (by simp)
        have f1 := hB.frozen (p := ⟨w.heap.size, 1, none⟩) (by simp)
        simp at c0 c1 f0 f1
        have hcan := h4.out rfl
        have hval : Hid (val l = a.natAbs) := by have := h1.out; simp at this; exact this
        clear h4 h1 h3
        go_wp2_with fail
        refine bodyPost_ret (v := .agg #[.bool (decide (a < 0)), .slice a0 l.length cap0]) (by simp [results, Tryz.results44, go_sem, c0, c1]) rfl ⟨_, rfl, ?_, l, ?_, hcan, hval.out, h2⟩
        · exact ((((Below.refl _ _).alloc (Nat.le_refl _) _).trans (hB.mono (by omega))).setCell (by simp) _).setCell (by simp) _
        · exact (reads_of_owns (ownsRow_setCell_below (ownsRow_setCell_below hown (by simp) _) (by simp) _)).mono (by omega)
      · have hlen : l.length < 64 := by
          rcases Nat.lt_or_ge l.length 64 with h | h
          · exact h
          · have := h3.out; rw [show 64 - l.length = 0 by omega] at this; omega
        have t : (0 : Int) < (M : Int) := by omega
        obtain ⟨b, hb⟩ : ∃ b, Hid (b = decide (M % 2 = 1)) := ⟨_, rfl⟩
        have hbit : ((M : Int) % 2 == 1) = b := by rw [hb.out]; by_cases h : M % 2 = 1 <;> simp [h] <;> omega
        have hs := hB.size
        simp at hs
        go_wp2_with (at_builtin; refine wpList_append_own _ rfl _ _ 85 rfl (w.heap.size + 1) 4 i0 (.bool false) 1 1 Tryz.underlying85 hi hz0 hz1 hz2 rfl (by decide) _ _ _ rfl (hown.alloc _) ⟨wr.heap.size, 0, none⟩ 1 1 [.bool b] rfl rfl ?c1 ?c2 ?c3 ?c4 ?c5 ?_)
        case c1 => exact cell_one_new _ _ _
        case c2 => exact bits_one [b]
        case c3 => unfold maxLen; omega
        case c4 => omega
        case c5 => simp; omega
        intro v' w' hown' hgrow _
        have hB' := (hB.alloc (by omega) _).grown hgrow (by simp; omega) (fun k hk => (hown.lt k hk).1)
        have hown2 := owns_snoc hown'
        have g1 := of_step l M _ h1.out
        have g3 := pow_split l.length M hlen h3.out
        rw [← hb.out] at g1
        have G1 : Hid (val (l ++ [b]) + 2 ^ (l ++ [b]).length * (M / 2) = a.natAbs) := g1
        have G3 : Hid (M / 2 < 2 ^ (64 - (l ++ [b]).length)) := by rw [List.length_append]; exact g3
        have G4 : Hid (M / 2 = 0 → Canon (l ++ [b])) := fun h => by
          have : M = 1 := by omega
          rw [hb.out, this]
          exact canon_snoc l
        clear g1 g3 hown' hgrow hown h1 h3 h4 hbit
        go_wp2_with fail
        go_roundw
        case rel => exact ⟨l ++ [b], M / 2, congrArg (Value.int .u64) (by omega), hown2, G1, by simp; omega, G3, G4, by omega, hB'⟩
        case measure => simp [intOf]; omega
end Go.Proofs.YtfphjhmhiaepiaaGreat
/-
  Contract of the reference's cmp: two lists of bits are held against each other as numbers.
-/
namespace Go.Proofs.YtfphjhmhiaepiaaGreat
open Go.ChangeShapes Go.WideShapes Go.ChangeAt Go.RowKit

def cmpI (a b : Nat) : Int := if a < b then -1 else if a = b then 0 else 1
set_option maxHeartbeats 1000000 in
theorem cmp_any {B C : Nat} (x y : List Bool) (v u : Value) (w : World) (hv : Reads B w v x) (hu : Reads C w u y) :
    Calls Tryz.prog 55 #[v, u] w fun e w' => e = .returned (.int .i64 (cmpI (val x) (val y))) ∧ w' = w := by
  obtain ⟨a, ca, rfl, h1, h2, _⟩ := id hv
  obtain ⟨b, cb, rfl, k1, k2, _⟩ := id hu
  unfold maxLen at h2 k2
  go_enter Tryz.func55, Tryz.ntmps55
  go_upto_region 1 with fail
  go_cut [5] from 6 to 25 (fun i wx => i = .int .i64 ((max x.length y.length : Nat) - 1 : Int) ∧ wx = w)
  case first =>
    rcases Nat.lt_or_ge x.length y.length with h | h
    · go_wp2_with fail
      all_goals
        go_meet
        case rel => exact ⟨congrArg (Value.int .i64) (by omega), rfl⟩
    · go_wp2_with fail
      all_goals
        go_meet
        case rel => exact ⟨congrArg (Value.int .i64) (by omega), rfl⟩
  case rest =>
    obtain ⟨rfl, rfl⟩ := hcut
    have hK : ∀ j, max x.length y.length ≤ j → x.getD j false = y.getD j false := fun j hj => by
      rw [show x.getD j false = false by simp [List.getElem?_eq_none (show x.length ≤ j by omega)], show y.getD j false = false by simp [List.getElem?_eq_none (show y.length ≤ j by omega)]]
    have hM : max x.length y.length ≤ 9223372036854775807 := by omega
    generalize max x.length y.length = K at *
    have HK : Hid (∀ j, K ≤ j → x.getD j false = y.getD j false) := hK
    clear hK
    go_wp2_with fail
    go_loop [5] (fun i => ∃ k : Nat, i = .int .i64 ((k : Int) - 1) ∧ k ≤ 9223372036854775807 ∧ Hid (∀ j, k ≤ j → x.getD j false = y.getD j false)) (fun i => (intOf i + 1).toNat)
    case atStart => exact ⟨K, rfl, hM, HK⟩
    case round =>
      obtain ⟨k, rfl, hk, hz⟩ := hrel
      rcases Nat.eq_zero_or_pos k with rfl | hp
      · have hend : Hid (cmpI (val x) (val y) = 0) := by
          show cmpI _ _ = 0
          rw [val_same x y (fun j => hz.out j (Nat.zero_le _))]
          unfold cmpI; simp
        go_wp2_with fail
        go_ret
        exact ⟨by rw [hend.out]; rfl, rfl⟩
      · obtain ⟨j, rfl⟩ : ∃ j, k = j + 1 := ⟨k - 1, by omega⟩
        have ej : ((j + 1 : Nat) : Int) - 1 = (j : Int) := by omega
        rw [ej]
        clear ej
        have t : (0 : Int) ≤ (j : Int) := by omega
        cases hx : x.getD j false <;> cases hy : y.getD j false
        · have HX : Hid (x.getD j false = false) := hx
          have HY : Hid (y.getD j false = false) := hy
          clear hx hy
          go_wp2_with fail
          refine (at_any x _ j _ hv).mono ?_
          rintro e w1 ⟨rfl, rfl⟩
          rw [HX.out]
          go_wp2_with fail
          refine (at_any y _ j _ hu).mono ?_
          rintro e w1 ⟨rfl, rfl⟩
          rw [HY.out]
          go_wp2_with fail
          go_round
          case rel => exact ⟨j, rfl, by omega, fun i hi => by
            rcases Nat.eq_or_lt_of_le hi with rfl | h
            · rw [HX.out, HY.out]
            · exact hz.out i h⟩
          case measure => simp [intOf]
        · have HX : Hid (x.getD j false = false) := hx
          have HY : Hid (y.getD j false = true) := hy
          clear hx hy
          have hend : Hid (cmpI (val x) (val y) = -1) := by
            show cmpI _ _ = -1
            have h := val_part y x j (fun i hi => (hz.out i hi).symm) HY.out HX.out
            unfold cmpI
            rw [if_pos h]
          go_wp2_with fail
          refine (at_any x _ j _ hv).mono ?_
          rintro e w1 ⟨rfl, rfl⟩
          rw [HX.out]
          go_wp2_with fail
          refine (at_any y _ j _ hu).mono ?_
          rintro e w1 ⟨rfl, rfl⟩
          rw [HY.out]
          go_wp2_with fail
          refine (at_any x _ j _ hv).mono ?_
          rintro e w1 ⟨rfl, rfl⟩
          rw [HX.out]
          go_wp2_with fail
          go_ret
          exact ⟨by rw [hend.out]; rfl, rfl⟩
        · have HX : Hid (x.getD j false = true) := hx
          have HY : Hid (y.getD j false = false) := hy
          clear hx hy
          have hend : Hid (cmpI (val x) (val y) = 1) := by
            show cmpI _ _ = 1
            have h := val_part x y j (fun i hi => hz.out i hi) HX.out HY.out
            unfold cmpI
            rw [if_neg (by omega), if_neg (by omega)]
          go_wp2_with fail
          refine (at_any x _ j _ hv).mono ?_
          rintro e w1 ⟨rfl, rfl⟩
          rw [HX.out]
          go_wp2_with fail
          refine (at_any y _ j _ hu).mono ?_
          rintro e w1 ⟨rfl, rfl⟩
          rw [HY.out]
          go_wp2_with fail
          refine (at_any x _ j _ hv).mono ?_
          rintro e w1 ⟨rfl, rfl⟩
          rw [HX.out]
          go_wp2_with fail
          go_ret
          exact ⟨by rw [hend.out]; rfl, rfl⟩
        · have HX : Hid (x.getD j false = true) := hx
          have HY : Hid (y.getD j false = true) := hy
          clear hx hy
          go_wp2_with fail
          refine (at_any x _ j _ hv).mono ?_
          rintro e w1 ⟨rfl, rfl⟩
          rw [HX.out]
          go_wp2_with fail
          refine (at_any y _ j _ hu).mono ?_
          rintro e w1 ⟨rfl, rfl⟩
          rw [HY.out]
          go_wp2_with fail
          go_round
          case rel => exact ⟨j, rfl, by omega, fun i hi => by
            rcases Nat.eq_or_lt_of_le hi with rfl | h
            · rw [HX.out, HY.out]
            · exact hz.out i h⟩
          case measure => simp [intOf]
end Go.Proofs.YtfphjhmhiaepiaaGreat
/-
  Contract of the reference's plus: the sum of two lists of bits.
-/
namespace Go.Proofs.YtfphjhmhiaepiaaGreat
open Go.ChangeShapes Go.WideShapes Go.ChangeAt Go.RowKit

set_option maxHeartbeats 2000000 in
theorem plusR_any {B C : Nat} (x y : List Bool) (v u : Value) (w : World) (hv : Reads B w v x) (hu : Reads C w u y) (hx : x.length ≤ 1000000) (hy : y.length ≤ 1000000) :
    Calls Tryz.prog 54 #[v, u] w fun e w' => ∃ v', e = .returned v' ∧ Below w.heap.size w w' ∧ ∃ l, Reads w.heap.size w' v' l ∧ Canon l ∧ val l = val x + val y ∧ l.length ≤ max x.length y.length + 1 := by
  obtain ⟨i0, hi, hz0, hz1, hz2⟩ := info_parts Tryz.infoBool
  obtain ⟨a, ca, rfl, h1, _, _⟩ := id hv
  obtain ⟨b, cb, rfl, k1, _, _⟩ := id hu
  obtain ⟨M, hM⟩ : ∃ M, Hid (max x.length y.length = M) := ⟨_, rfl⟩
  have m1 : x.length ≤ M := by rw [← hM.out]; omega
  have m2 : y.length ≤ M := by rw [← hM.out]; omega
  have m3 : M ≤ 1000000 := by rw [← hM.out]; omega
  rw [hM.out]
  go_enter Tryz.func54, Tryz.ntmps54
  go_wp2_with fail
  go_loopw [5, 6, 7] (fun o c i wr => ∃ (l : List Bool) (q : Bool), i = .int .i64 (l.length : Int) ∧ c = .bool q ∧ wr.ownsRow w.heap.size 4 1 o l.length (l.map Value.bool) ∧ l.length ≤ M + 1 ∧ Hid (l.length = M + 1 → q = false) ∧ Hid (val l + 2 ^ l.length * q.toNat = val (x.take l.length) + val (y.take l.length)) ∧ Below w.heap.size w wr) (fun _ _ i _ => M + 1 - (intOf i).toNat)
  case atStart => exact ⟨[], false, rfl, rfl, World.ownsRow_nil _ _ _ _, by simp, fun _ => rfl, by show _ = _; simp [val], Below.refl _ _⟩
  case round =>
    obtain ⟨l, q, rfl, rfl, hown, h2, h3, h4, hB⟩ := hrel
    go_upto_region 4 with fail
    go_cut [19] from 10 to 48 (fun t wx => t = .bool (decide (l.length < M) || q) ∧ wx = wr)
    case first =>
      by_cases hl : l.length < M
      · have e : Hid (true = (decide (l.length < M) || q)) := by show _ = _; simp [hl]
        rcases Nat.lt_or_ge x.length y.length with h | h
        · have t : (l.length : Int) < (y.length : Int) := by have := hM.out; omega
          go_wp2_with fail
          all_goals
            go_meet
            case rel => exact ⟨congrArg Value.bool e.out, rfl⟩
        · have t : (l.length : Int) < (x.length : Int) := by have := hM.out; omega
          go_wp2_with fail
          all_goals
            go_meet
            case rel => exact ⟨congrArg Value.bool e.out, rfl⟩
      · have e : Hid (q = (decide (l.length < M) || q)) := by show _ = _; simp [hl]
        have t1 : ¬ (l.length : Int) < (x.length : Int) := by omega
        have t2 : ¬ (l.length : Int) < (y.length : Int) := by omega
        rcases Nat.lt_or_ge x.length y.length with h | h
        · go_wp2_with fail
          all_goals
            go_meet
            case rel => exact ⟨congrArg Value.bool e.out, rfl⟩
        · go_wp2_with fail
          all_goals
            go_meet
            case rel => exact ⟨congrArg Value.bool e.out, rfl⟩
    case rest =>
      obtain ⟨rfl, rfl⟩ := hcut
      cases hg : (decide (l.length < M) || q)
      · simp at hg
        obtain ⟨hg1, rfl⟩ := hg
        have hR := reads_of_owns hown
        have hval : Hid (val l = val x + val y) := by
          have := h4.out
          rw [take_all x _ (by omega), take_all y _ (by omega)] at this
          show _ = _
          simpa using this
        clear h4 h3
        go_wp2_with fail
        refine (trim_any l _ _ hR).mono ?_
        rintro e w2 ⟨v', rfl, rfl, l', r1, r2, r3, r4⟩
        go_wp2_with fail
        go_ret
        exact ⟨_, rfl, hB, l', r1, r2, r3.trans hval.out, by omega⟩
      · have hlt : l.length ≤ M := by
          rcases Nat.lt_or_ge l.length (M + 1) with h | h
          · omega
          · have e := h3.out (by omega)
            rw [e] at hg
            simp at hg
            omega
        have HG : Hid ((decide (l.length < M) || q) = true) := hg
        clear hg
        have g4 := plus_step x y l q h4.out
        have hs := hB.size
        have hvr := hv.below hB
        have hur := hu.below hB
        have hmaj : Hid (l.length + 1 = M + 1 → maj (x.getD l.length false) (y.getD l.length false) q = false) := fun h => by
          rw [getD_end x _ (by omega), getD_end y _ (by omega)]; cases q <;> rfl
        obtain ⟨bx, hbx⟩ : ∃ bx, Hid (x.getD l.length false = bx) := ⟨_, rfl⟩
        obtain ⟨by', hby⟩ : ∃ by', Hid (y.getD l.length false = by') := ⟨_, rfl⟩
        rw [hbx.out, hby.out] at g4 hmaj
        have G4 : Hid (val (l ++ [(bx != by') != q]) + 2 ^ (l ++ [(bx != by') != q]).length * (maj bx by' q).toNat = val (x.take (l.length + 1)) + val (y.take (l.length + 1))) := g4
        clear g4 h3 h4
        go_wp2_with fail
        refine (at_any x _ l.length _ hvr).mono ?_
        rintro e w2 ⟨rfl, rfl⟩
        rw [hbx.out]
        go_wp2_with fail
        refine (at_any y _ l.length _ hur).mono ?_
        rintro e w2 ⟨rfl, rfl⟩
        rw [hby.out]
        obtain ⟨sb, hsb⟩ : ∃ sb, Hid (((bx != by') != q) = sb) := ⟨_, rfl⟩
        rw [hsb.out] at G4
        go_upto_region 8 with fail
        go_cut [5] from 10 to 48 (fun o wx => wx.ownsRow w.heap.size 4 1 o (l ++ [sb]).length ((l ++ [sb]).map Value.bool) ∧ Below w.heap.size w wx)
        case first =>
          have hsb2 : (!((!(bx == by')) == q)) = sb := by rw [← hsb.out]; rfl
          go_wp2_with (at_builtin; refine wpList_append_own _ rfl _ _ 85 rfl w.heap.size 4 i0 (.bool false) 1 1 Tryz.underlying85 hi hz0 hz1 hz2 rfl (by decide) _ _ _ rfl (hown.alloc _) ⟨_, 0, none⟩ 1 1 [.bool sb] rfl rfl ?c1 ?c2 ?c3 ?c4 ?c5 ?_)
          case c1 => exact cell_one_new _ _ _
          case c2 => exact bits_one [sb]
          case c3 => unfold maxLen; omega
          case c4 => omega
          case c5 => simp; omega
          intro v' w' hown' hgrow _
          have hB' := (hB.alloc (by omega) _).grown hgrow (by simp; omega) (fun k hk => (hown.lt k hk).1)
          have hown2 := owns_snoc hown'
          clear hown' hgrow
          go_wp2_with fail
          go_meet
          case rel => exact ⟨hown2, hB'⟩
        case rest =>
          obtain ⟨hown2, hB2⟩ := hcut
          clear hown hB hs hvr hur
          have R4 : Hid (val (l ++ [sb]) + 2 ^ (l ++ [sb]).length * (maj bx by' q).toNat = val (x.take (l ++ [sb]).length) + val (y.take (l ++ [sb]).length)) := by
            have := G4.out
            rw [List.length_append] at *
            exact this
          have R3 : Hid ((l ++ [sb]).length = M + 1 → maj bx by' q = false) := fun h => hmaj.out (by simpa using h)
          clear G4 hmaj HG hsb hbx hby hv hu
          cases bx <;> cases by' <;> cases q
          all_goals
            go_wp2_with fail
            go_roundw
            case rel => exact ⟨l ++ [sb], maj _ _ _, by simp, rfl, hown2, by simp; omega, R3, R4, hB2⟩
            case measure => simp [intOf]; omega
end Go.Proofs.YtfphjhmhiaepiaaGreat
/-
  Contract of the reference's minus: the difference of two lists of bits, the first not below the second.
-/
namespace Go.Proofs.YtfphjhmhiaepiaaGreat
open Go.ChangeShapes Go.WideShapes Go.ChangeAt Go.RowKit

set_option maxHeartbeats 2000000 in
theorem minusR_any {B C : Nat} (x y : List Bool) (v u : Value) (w : World) (hv : Reads B w v x) (hu : Reads C w u y) (hx : x.length ≤ 1000000) (hle : val y ≤ val x) :
    Calls Tryz.prog 56 #[v, u] w fun e w' => ∃ v', e = .returned v' ∧ Below w.heap.size w w' ∧ ∃ l, Reads w.heap.size w' v' l ∧ Canon l ∧ val l = val x - val y ∧ l.length ≤ x.length := by
  obtain ⟨i0, hi, hz0, hz1, hz2⟩ := info_parts Tryz.infoBool
  have HL : Hid (val y ≤ val x) := hle
  clear hle
  obtain ⟨a, ca, rfl, h1, _, hcell⟩ := id hv
  go_enter Tryz.func56, Tryz.ntmps56
  go_wp2_with fail
  go_loopw [5, 6, 7] (fun o c i wr => ∃ (l : List Bool) (q : Bool), i = .int .i64 (l.length : Int) ∧ c = .bool q ∧ wr.ownsRow w.heap.size 4 1 o l.length (l.map Value.bool) ∧ l.length ≤ x.length ∧ Hid (val (x.take l.length) + 2 ^ l.length * q.toNat = val l + val (y.take l.length)) ∧ Below w.heap.size w wr) (fun _ _ i _ => x.length - (intOf i).toNat)
  case atStart => exact ⟨[], false, rfl, rfl, World.ownsRow_nil _ _ _ _, by simp, by show _ = _; simp [val], Below.refl _ _⟩
  case round =>
    obtain ⟨l, q, rfl, rfl, hown, h2, h4, hB⟩ := hrel
    by_cases hlt : l.length < x.length
    · have t : (l.length : Int) < (x.length : Int) := by omega
      obtain ⟨bl, off, rfl, _, hc⟩ := hcell l.length hlt
      have g4 := minus_step x y l q h4.out
      have hs := hB.size
      have hur := hu.below hB
      have hc' := (hB.cell (World.block_lt_of_cell? _ _ hc)).trans hc
      obtain ⟨bx, hbx⟩ : ∃ bx, Hid (x.getD l.length false = bx) := ⟨_, rfl⟩
      obtain ⟨by', hby⟩ : ∃ by', Hid (y.getD l.length false = by') := ⟨_, rfl⟩
      rw [hbx.out] at hc'
      rw [hbx.out, hby.out] at g4
      have G4 : Hid (val (x.take (l.length + 1)) + 2 ^ (l ++ [(bx != by') != q]).length * (bor bx by' q).toNat = val (l ++ [(bx != by') != q]) + val (y.take (l.length + 1))) := g4
      clear g4 h4 hcell hc
      go_wp2_with fail
      refine (at_any y _ l.length _ hur).mono ?_
      rintro e w2 ⟨rfl, rfl⟩
      rw [hby.out]
      obtain ⟨sb, hsb⟩ : ∃ sb, Hid (((bx != by') != q) = sb) := ⟨_, rfl⟩
      rw [hsb.out] at G4
      go_upto_region 8 with fail
      go_cut [5] from 10 to 47 (fun o wx => wx.ownsRow w.heap.size 4 1 o (l ++ [sb]).length ((l ++ [sb]).map Value.bool) ∧ Below w.heap.size w wx)
      case first =>
        have hsb2 : (!((!(bx == by')) == q)) = sb := by rw [← hsb.out]; rfl
        go_wp2_with (at_builtin; refine wpList_append_own _ rfl _ _ 85 rfl w.heap.size 4 i0 (.bool false) 1 1 Tryz.underlying85 hi hz0 hz1 hz2 rfl (by decide) _ _ _ rfl (hown.alloc _) ⟨_, 0, none⟩ 1 1 [.bool sb] rfl rfl ?c1 ?c2 ?c3 ?c4 ?c5 ?_)
        case c1 => exact cell_one_new _ _ _
        case c2 => exact bits_one [sb]
        case c3 => unfold maxLen; omega
        case c4 => omega
        case c5 => simp; omega
        intro v' w' hown' hgrow _
        have hB' := (hB.alloc (by omega) _).grown hgrow (by simp; omega) (fun k hk => (hown.lt k hk).1)
        have hown2 := owns_snoc hown'
        clear hown' hgrow
        go_wp2_with fail
        go_meet
        case rel => exact ⟨hown2, hB'⟩
      case rest =>
        obtain ⟨hown2, hB2⟩ := hcut
        clear hown hB hs hur hc'
        have R4 : Hid (val (x.take (l ++ [sb]).length) + 2 ^ (l ++ [sb]).length * (bor bx by' q).toNat = val (l ++ [sb]) + val (y.take (l ++ [sb]).length)) := by
          have := G4.out
          rw [List.length_append] at *
          exact this
        clear G4 hsb hbx hby hv hu
        cases bx <;> cases by' <;> cases q
        all_goals
          go_wp2_with fail
          go_roundw
          case rel => exact ⟨l ++ [sb], bor _ _ _, by simp, rfl, hown2, by simp; omega, R4, hB2⟩
          case measure => simp [intOf]; omega
    · have hlen : l.length = x.length := by omega
      have hval : Hid (val l = val x - val y) := minus_end x y l q hlen h4.out HL.out
      have t : ¬ (l.length : Int) < (x.length : Int) := by omega
      have hR := reads_of_owns hown
      clear hlen h4 hcell
      go_wp2_with fail
      refine (trim_any l _ _ hR).mono ?_
      rintro e w2 ⟨v', rfl, rfl, l', r1, r2, r3, r4⟩
      go_wp2_with fail
      go_ret
      exact ⟨_, rfl, hB, l', r1, r2, r3.trans hval.out, by omega⟩
end Go.Proofs.YtfphjhmhiaepiaaGreat
/-
  Contracts of the reference's Add and Neg: sums, and numbers turned about 0, of whole numbers of any length.
-/
namespace Go.Proofs.YtfphjhmhiaepiaaGreat
open Go.ChangeShapes Go.WideShapes Go.ChangeAt Go.RowKit

/-- The sign and the slice are those of the whole number z, of at most n bits, in blocks from B on. -/
def IsNum (B : Nat) (w : World) (s : Bool) (sl : Value) (z : Int) (n : Nat) : Prop := s = decide (z < 0) ∧ ∃ l, Reads B w sl l ∧ Canon l ∧ val l = z.natAbs ∧ l.length ≤ n
theorem IsNum.below {B : Nat} {w w' : World} {s : Bool} {sl : Value} {z : Int} {n : Nat} (h : IsNum B w s sl z n) (hb : Below w.heap.size w w') : IsNum B w' s sl z n := by
  obtain ⟨h0, l, h1, h2⟩ := h
  exact ⟨h0, l, h1.below hb, h2⟩
theorem IsNum.wide {B : Nat} {w : World} {s : Bool} {sl : Value} {z : Int} {n m : Nat} (h : IsNum B w s sl z n) (hm : n ≤ m) : IsNum B w s sl z m := by
  obtain ⟨h0, l, h1, h2, h3, h4⟩ := h
  exact ⟨h0, l, h1, h2, h3, Nat.le_trans h4 hm⟩
theorem bcell2 {W w1 : World} (hb : Below W.heap.size W w1) : (∀ b o, b < W.heap.size → w1.cell? ⟨b, o, none⟩ = W.cell? ⟨b, o, none⟩) ∧ (∀ b o, b < W.heap.size → w1.frozen? ⟨b, o, none⟩ = W.frozen? ⟨b, o, none⟩) :=
  ⟨fun b o h => hb.cell (p := ⟨b, o, none⟩) h, fun b o h => hb.frozen (p := ⟨b, o, none⟩) h⟩

theorem three_new (w : World) (o1 o2 o3 : Obj) : Below w.heap.size w (((w.alloc o1).alloc o2).alloc o3) :=
  (((Below.refl _ _).alloc (Nat.le_refl _) _).alloc (by simp) _).alloc (by simp; omega) _
set_option maxHeartbeats 1000000 in
theorem addR_same {B C : Nat} (s : Bool) (va vb : Value) (x y : List Bool) (w : World) (hv : Reads B w va x) (hu : Reads C w vb y) (hx : x.length ≤ 100000) (hy : y.length ≤ 100000) :
    Calls Tryz.prog 43 #[.agg #[.bool s, va], .agg #[.bool s, vb]] w fun e w' => ∃ v', e = .returned (.agg #[.bool s, v']) ∧ Below w.heap.size w w' ∧ ∃ l, Reads w.heap.size w' v' l ∧ Canon l ∧ val l = val x + val y ∧ l.length ≤ max x.length y.length + 1 := by
  obtain ⟨a, ca, rfl, _⟩ := id hv
  obtain ⟨b, cb, rfl, _⟩ := id hu
  go_enter Tryz.func43, Tryz.ntmps43
  have hne : ¬ w.heap.size = w.heap.size + 1 + 1 := by omega
  have hne' : ¬ w.heap.size + 1 + 1 = w.heap.size := by omega
  go_wp2_with fail
  go_region_held3 (fun w' => w'.cell? ⟨w.heap.size, 0, none⟩ = some (.bool s) ∧ w'.cell? ⟨w.heap.size, 1, none⟩ = some (.slice a x.length ca) ∧ w'.cell? ⟨w.heap.size + 1, 1, none⟩ = some (.slice b y.length cb)) (go_keep) (first
   | (go_at_call 54; refine (plusR_any x y _ _ _ (hv.below ?_) (hu.below ?_) (by omega) (by omega)).mono ?_; exact (three_new _ _ _ _).drew; exact (three_new _ _ _ _).drew; rintro e w1 ⟨v', rfl, hb1, l, r1, r2, r3, r4⟩; obtain ⟨hc, hf⟩ := bcell2 hb1; have q0 := hc w.heap.size 0 (by simp; omega); have q1 := hc w.heap.size 1 (by simp; omega); have q2 := hc (w.heap.size + 1) 1 (by simp); have q3 := hc (w.heap.size + 1 + 1) 0 (by simp); have q4 := hc (w.heap.size + 1 + 1) 1 (by simp); have q5 := hf (w.heap.size + 1 + 1) 0 (by simp); have q6 := hf (w.heap.size + 1 + 1) 1 (by simp); have hz := hb1.size; obtain ⟨a', ca', rfl, _⟩ := id r1; simp at q0 q1 q2 q3 q4 q5 q6 hz r1))
  go_wp2_with fail
  refine bodyPost_ret (v := .agg #[.bool s, .slice a' l.length ca']) (by simp [results, Tryz.results43, go_sem, q3, q4]) rfl ⟨_, rfl, ?_, l, ?_, r2, r3, r4⟩
  · exact ((((three_new _ _ _ _).drew).trans (hb1.mono (B' := w.heap.size) (by simp; omega))).setCell (by simp; omega) _).setCell (by simp; omega) _
  · exact ((r1.setCell (by simp) _).setCell (by simp) _).mono (by omega)

set_option maxHeartbeats 1000000 in
theorem addR_less {B C : Nat} (s : Bool) (va vb : Value) (x y : List Bool) (w : World) (hv : Reads B w va x) (hu : Reads C w vb y) (hy : y.length ≤ 100000) (hlt : val x < val y) :
    Calls Tryz.prog 43 #[.agg #[.bool s, va], .agg #[.bool (!s), vb]] w fun e w' => ∃ v', e = .returned (.agg #[.bool (!s), v']) ∧ Below w.heap.size w w' ∧ ∃ l, Reads w.heap.size w' v' l ∧ Canon l ∧ val l = val y - val x ∧ l.length ≤ y.length := by
  obtain ⟨a, ca, rfl, _⟩ := id hv
  obtain ⟨b, cb, rfl, _⟩ := id hu
  have hcm : Hid (cmpI (val x) (val y) = -1) := by show cmpI _ _ = _; unfold cmpI; rw [if_pos hlt]
  have HL : Hid (val x ≤ val y) := Nat.le_of_lt hlt
  clear hlt
  have hsb : (s == !s) = false := by cases s <;> rfl
  go_enter Tryz.func43, Tryz.ntmps43
  have hne : ¬ w.heap.size = w.heap.size + 1 + 1 := by omega
  have hne' : ¬ w.heap.size + 1 + 1 = w.heap.size := by omega
  go_wp2_with fail
  refine (cmp_any x y _ _ _ (hv.below (three_new _ _ _ _)) (hu.below (three_new _ _ _ _))).mono ?_
  rintro e w1 ⟨rfl, rfl⟩
  rw [hcm.out]
  go_wp2_with fail
  go_region_held3 (fun w' => w'.cell? ⟨w.heap.size + 1, 0, none⟩ = some (.bool (!s)) ∧ w'.cell? ⟨w.heap.size, 1, none⟩ = some (.slice a x.length ca) ∧ w'.cell? ⟨w.heap.size + 1, 1, none⟩ = some (.slice b y.length cb)) (go_keep) (first
   | (go_at_call 56; refine (minusR_any y x _ _ _ (hu.below ?_) (hv.below ?_) (by omega) HL.out).mono ?_; exact (three_new _ _ _ _).drew; exact (three_new _ _ _ _).drew; rintro e w1 ⟨v', rfl, hb1, l, r1, r2, r3, r4⟩; obtain ⟨hc, hf⟩ := bcell2 hb1; have q0 := hc (w.heap.size + 1) 0 (by simp); have q1 := hc w.heap.size 1 (by simp; omega); have q2 := hc (w.heap.size + 1) 1 (by simp); have q3 := hc (w.heap.size + 1 + 1) 0 (by simp); have q4 := hc (w.heap.size + 1 + 1) 1 (by simp); have q5 := hf (w.heap.size + 1 + 1) 0 (by simp); have q6 := hf (w.heap.size + 1 + 1) 1 (by simp); have hz := hb1.size; obtain ⟨a', ca', rfl, _⟩ := id r1; simp at q0 q1 q2 q3 q4 q5 q6 hz r1))
  go_wp2_with fail
  refine bodyPost_ret (v := .agg #[.bool (!s), .slice a' l.length ca']) (by simp [results, Tryz.results43, go_sem, q3, q4]) rfl ⟨_, rfl, ?_, l, ?_, r2, r3, r4⟩
  · exact ((((three_new _ _ _ _).drew).trans (hb1.mono (B' := w.heap.size) (by simp; omega))).setCell (by simp; omega) _).setCell (by simp; omega) _
  · exact ((r1.setCell (by simp) _).setCell (by simp) _).mono (by omega)

set_option maxHeartbeats 1000000 in
theorem addR_more {B C : Nat} (s : Bool) (va vb : Value) (x y : List Bool) (w : World) (hv : Reads B w va x) (hu : Reads C w vb y) (hx : x.length ≤ 100000) (hge : val y ≤ val x) :
    Calls Tryz.prog 43 #[.agg #[.bool s, va], .agg #[.bool (!s), vb]] w fun e w' => ∃ v', e = .returned (.agg #[.bool (s && decide (val y < val x)), v']) ∧ Below w.heap.size w w' ∧ ∃ l, Reads w.heap.size w' v' l ∧ Canon l ∧ val l = val x - val y ∧ l.length ≤ x.length := by
  obtain ⟨a, ca, rfl, _⟩ := id hv
  obtain ⟨b, cb, rfl, _⟩ := id hu
  have hcm : Hid (cmpI (val x) (val y) = 0 ∨ cmpI (val x) (val y) = 1) := by
    show _ ∨ _
    unfold cmpI
    rw [if_neg (by omega)]
    by_cases h : val x = val y <;> simp [h]
  have HL : Hid (val y ≤ val x) := hge
  clear hge
  have hsb : (s == !s) = false := by cases s <;> rfl
  go_enter Tryz.func43, Tryz.ntmps43
  go_wp2_with fail
  refine (cmp_any x y _ _ _ (hv.below (three_new _ _ _ _)) (hu.below (three_new _ _ _ _))).mono ?_
  rintro e w1 ⟨rfl, rfl⟩
  have hcz : decide (cmpI (val x) (val y) < 0) = false := by rcases hcm.out with h | h <;> rw [h] <;> rfl
  generalize cmpI (val x) (val y) = cm at *
  go_wp2_with fail
  refine (minusR_any x y _ _ _ (hv.below (three_new _ _ _ _)) (hu.below (three_new _ _ _ _)) (by omega) HL.out).mono ?_
  rintro e w2 ⟨v', rfl, hb1, l, r1, r2, r3, r4⟩
  obtain ⟨a', ca', rfl, _⟩ := id r1
  obtain ⟨hc, hf⟩ := bcell2 hb1
  have q0 := hc w.heap.size 0 (by simp; omega)
  have q3 := hc (w.heap.size + 1 + 1) 0 (by simp)
  have q4 := hc (w.heap.size + 1 + 1) 1 (by simp)
  have q5 := hf (w.heap.size + 1 + 1) 0 (by simp)
  have q6 := hf (w.heap.size + 1 + 1) 1 (by simp)
  have hz := hb1.size
  simp at q0 q3 q4 q5 q6 hz r1
  have hd : Hid (decide (val y < val x) = decide ((0 : Int) < (l.length : Int))) := by
    show _ = _
    have := canon_zero l r2
    have hl := HL.out
    rcases Nat.eq_zero_or_pos l.length with h | h
    · have e := List.eq_nil_of_length_eq_zero h
      have := (canon_zero l r2).1 e
      rw [h]; simp; omega
    · have : ¬ val l = 0 := fun e => by have := (canon_zero l r2).2 e; rw [this] at h; simp at h
      simp [h]; omega
  cases s
  · go_wp2_with fail
    refine bodyPost_ret (v := .agg #[.bool false, .slice a' l.length ca']) (by simp [results, Tryz.results43, go_sem, q3, q4]) rfl ⟨_, by rw [Bool.false_and], ?_, l, ?_, r2, r3, r4⟩
    · exact (((three_new _ _ _ _).trans (hb1.mono (B' := w.heap.size) (by simp; omega))).setCell (by simp; omega) _).setCell (by simp; omega) _
    · exact ((r1.setCell (by simp) _).setCell (by simp) _).mono (by omega)
  · obtain ⟨ld, hld⟩ : ∃ ld, Hid (decide ((0 : Int) < (l.length : Int)) = ld) := ⟨_, rfl⟩
    have HD : Hid (decide (val y < val x) = ld) := hd.out.trans hld.out
    have hld' : decide ((0 : Int) < (l.length : Int)) = ld := hld.out
    clear hd hld
    cases ld
    · have hnil : Hid (l = []) := List.eq_nil_of_length_eq_zero (by simpa using hld')
      go_wp2_with fail
      refine bodyPost_ret (v := .agg #[.bool false, .slice a' l.length ca']) (by simp [results, Tryz.results43, go_sem, q3, q4]; exact hnil.out) rfl ⟨_, by rw [Bool.true_and, HD.out], ?_, l, ?_, r2, r3, r4⟩
      · exact (((three_new _ _ _ _).trans (hb1.mono (B' := w.heap.size) (by simp; omega))).setCell (by simp; omega) _).setCell (by simp; omega) _
      · exact ((r1.setCell (by simp) _).setCell (by simp) _).mono (by omega)
    · have hnil : Hid (0 < l.length) := by show 0 < l.length; simpa using hld'
      go_wp2_with fail
      refine bodyPost_ret (v := .agg #[.bool true, .slice a' l.length ca']) (by simp [results, Tryz.results43, go_sem, q3, q4]; exact hnil.out) rfl ⟨_, by rw [Bool.true_and, HD.out], ?_, l, ?_, r2, r3, r4⟩
      · exact (((three_new _ _ _ _).trans (hb1.mono (B' := w.heap.size) (by simp; omega))).setCell (by simp; omega) _).setCell (by simp; omega) _
      · exact ((r1.setCell (by simp) _).setCell (by simp) _).mono (by omega)

theorem addR_any {B C : Nat} (s t : Bool) (va vb : Value) (x y : Int) (n m : Nat) (w : World) (hv : IsNum B w s va x n) (hu : IsNum C w t vb y m) (hn : n ≤ 100000) (hm : m ≤ 100000) :
    Calls Tryz.prog 43 #[.agg #[.bool s, va], .agg #[.bool t, vb]] w fun e w' => ∃ r v', e = .returned (.agg #[.bool r, v']) ∧ Below w.heap.size w w' ∧ IsNum w.heap.size w' r v' (x + y) (max n m + 1) := by
  obtain ⟨hs, l, h1, h2, h3, h4⟩ := hv
  obtain ⟨ht, k, k1, k2, k3, k4⟩ := hu
  by_cases e : s = t
  · subst e
    refine (addR_same s va vb l k w h1 k1 (by omega) (by omega)).mono ?_
    rintro e w' ⟨v', rfl, hb, q, q1, q2, q3, q4⟩
    have hxy : decide (x < 0) = decide (y < 0) := hs.symm.trans ht
    refine ⟨_, _, rfl, hb, ?_, q, q1, q2, ?_, by omega⟩
    · rw [hs]
      by_cases c : x < 0
      · have c2 : y < 0 := by simpa [c] using hxy
        simp [c]; omega
      · have c2 : ¬ y < 0 := by simpa [c] using hxy
        simp [c]; omega
    · by_cases c : x < 0
      · have c2 : y < 0 := by simpa [c] using hxy
        omega
      · have c2 : ¬ y < 0 := by simpa [c] using hxy
        omega
  · have et : t = !s := by cases s <;> cases t <;> simp_all
    have hxy : decide (y < 0) = !decide (x < 0) := by rw [← hs, ← ht, et]
    rw [et]
    by_cases hlt : val l < val k
    · refine (addR_less s va vb l k w h1 k1 (by omega) hlt).mono ?_
      rintro e w' ⟨v', rfl, hb, q, q1, q2, q3, q4⟩
      refine ⟨_, _, rfl, hb, ?_, q, q1, q2, ?_, by omega⟩
      · rw [← et, ht]
        by_cases c : x < 0
        · have c2 : ¬ y < 0 := by simpa [c] using hxy
          simp [c2]; omega
        · have c2 : y < 0 := by simpa [c] using hxy
          simp [c2]; omega
      · by_cases c : x < 0
        · have c2 : ¬ y < 0 := by simpa [c] using hxy
          omega
        · have c2 : y < 0 := by simpa [c] using hxy
          omega
    · refine (addR_more s va vb l k w h1 k1 (by omega) (by omega)).mono ?_
      rintro e w' ⟨v', rfl, hb, q, q1, q2, q3, q4⟩
      refine ⟨_, _, rfl, hb, ?_, q, q1, q2, ?_, by omega⟩
      · rw [hs]
        by_cases c : x < 0
        · have c2 : ¬ y < 0 := by simpa [c] using hxy
          simp [c]; omega
        · have c2 : y < 0 := by simpa [c] using hxy
          simp [c]; omega
      · by_cases c : x < 0
        · have c2 : ¬ y < 0 := by simpa [c] using hxy
          omega
        · have c2 : y < 0 := by simpa [c] using hxy
          omega

end Go.Proofs.YtfphjhmhiaepiaaGreat
/-
  Contracts of the reference's Int and Told and of the statements' told: a whole number is told as itself, or refused where it has no room.
-/
namespace Go.Proofs.YtfphjhmhiaepiaaGreat
open Go.ChangeShapes Go.WideShapes Go.ChangeAt Go.RowKit

theorem val_drop (l : List Bool) (j : Nat) (hj : j < l.length) : val (l.drop j) = (l.getD j false).toNat + 2 * val (l.drop (j + 1)) := by
  rw [List.drop_eq_getElem_cons hj]
  simp [val, hj]
theorem val_drop_lt (l : List Bool) (j : Nat) (h : l.length ≤ 64) : val (l.drop j) < 18446744073709551616 := by
  have h1 := val_lt (l.drop j)
  have h2 : 2 ^ (l.drop j).length ≤ 2 ^ 64 := Nat.pow_le_pow_right (by omega) (by simp; omega)
  exact Nat.lt_of_lt_of_le h1 h2

set_option maxHeartbeats 1000000 in
theorem intR_long {B : Nat} (s : Bool) (va : Value) (l : List Bool) (w : World) (hv : Reads B w va l) (hl : 64 < l.length) :
    Calls Tryz.prog 53 #[.agg #[.bool s, va]] w fun e w' => e = .returned (.tuple #[.int .i64 0, .bool false]) ∧ Below w.heap.size w w' := by
  obtain ⟨a, ca, rfl, h1, h2, _⟩ := id hv
  unfold maxLen at h2
  have t : (64 : Int) < (l.length : Int) := by omega
  go_enter Tryz.func53, Tryz.ntmps53
  go_wp2
  go_ret2
  exact ⟨rfl, (Below.refl _ _).alloc (Nat.le_refl _) _⟩

set_option maxHeartbeats 1000000 in
theorem intR_pos {B : Nat} (va : Value) (l : List Bool) (w : World) (hv : Reads B w va l) (hl : l.length ≤ 64) :
    Calls Tryz.prog 53 #[.agg #[.bool false, va]] w fun e w' => e = .returned (.tuple #[.int .i64 (wrap64 (val l : Int)), .bool (decide ((val l : Int) < 9223372036854775808))]) ∧ Below w.heap.size w w' := by
  obtain ⟨a, ca, rfl, h1, h2, hcell⟩ := id hv
  have t : ¬ (64 : Int) < (l.length : Int) := by omega
  go_enter Tryz.func53, Tryz.ntmps53
  go_wp2_with fail
  go_loop [4, 5] (fun m i => ∃ k : Nat, i = .int .i64 ((k : Int) - 1) ∧ k ≤ l.length ∧ m = .int .u64 (val (l.drop k) : Int)) (fun _ i => (intOf i + 1).toNat)
  case atStart => exact ⟨l.length, rfl, Nat.le_refl _, by simp [val]⟩
  case round =>
    obtain ⟨k, rfl, hk, rfl⟩ := hrel
    rcases Nat.eq_zero_or_pos k with rfl | hp
    · have hb := val_drop_lt l 0 hl
      rw [List.drop_zero] at *
      go_wp2_with fail
      go_ret2
      exact ⟨rfl, (Below.refl _ _).alloc (Nat.le_refl _) _⟩
    · obtain ⟨j, rfl⟩ : ∃ j, k = j + 1 := ⟨k - 1, by omega⟩
      have ej : ((j + 1 : Nat) : Int) - 1 = (j : Int) := by omega
      rw [ej]
      clear ej
      have tj : (0 : Int) ≤ (j : Int) := by omega
      obtain ⟨b, off, rfl, _, hc⟩ := hcell j (by omega)
      have hblk := World.block_lt_of_cell? _ _ hc
      have hd := val_drop l j (by omega)
      have hb := val_drop_lt l j hl
      have tl : (j : Int) < (l.length : Int) := by omega
      have HD : Hid (val (l.drop j) = (l.getD j false).toNat + 2 * val (l.drop (j + 1))) := hd
      have hm : val (l.drop (j + 1)) ≤ 9223372036854775807 := by omega
      clear hd hb
      generalize val (l.drop (j + 1)) = m at *
      cases hbit : l.getD j false
      · rw [hbit] at hc
        have HD2 : Hid (val (l.drop j) = 2 * m) := by have := HD.out; rw [hbit] at this; show _ = _; simpa using this
        clear HD hbit
        go_wp2_with fail
        go_round
        case rel => exact ⟨j, rfl, by omega, congrArg (Value.int .u64) (by rw [HD2.out]; omega)⟩
        case measure => simp [intOf]
      · rw [hbit] at hc
        have HD2 : Hid (val (l.drop j) = 1 + 2 * m) := by have := HD.out; rw [hbit] at this; show _ = _; simpa using this
        clear HD hbit
        go_wp2_with fail
        go_round
        case rel => exact ⟨j, rfl, by omega, congrArg (Value.int .u64) (by rw [HD2.out]; omega)⟩
        case measure => simp [intOf]

set_option maxHeartbeats 1000000 in
theorem intR_neg {B : Nat} (va : Value) (l : List Bool) (w : World) (hv : Reads B w va l) (hl : l.length ≤ 64) :
    Calls Tryz.prog 53 #[.agg #[.bool true, va]] w fun e w' => e = .returned (.tuple #[.int .i64 (wrap64 (IntKind.u64.wrap (-(val l : Int)))), .bool (decide ((val l : Int) ≤ 9223372036854775808))]) ∧ Below w.heap.size w w' := by
  obtain ⟨a, ca, rfl, h1, h2, hcell⟩ := id hv
  have t : ¬ (64 : Int) < (l.length : Int) := by omega
  go_enter Tryz.func53, Tryz.ntmps53
  go_wp2_with fail
  go_loop [4, 5] (fun m i => ∃ k : Nat, i = .int .i64 ((k : Int) - 1) ∧ k ≤ l.length ∧ m = .int .u64 (val (l.drop k) : Int)) (fun _ i => (intOf i + 1).toNat)
  case atStart => exact ⟨l.length, rfl, Nat.le_refl _, by simp [val]⟩
  case round =>
    obtain ⟨k, rfl, hk, rfl⟩ := hrel
    rcases Nat.eq_zero_or_pos k with rfl | hp
    · have hb := val_drop_lt l 0 hl
      rw [List.drop_zero] at *
      go_wp2_with fail
      go_ret2
      exact ⟨rfl, (Below.refl _ _).alloc (Nat.le_refl _) _⟩
    · obtain ⟨j, rfl⟩ : ∃ j, k = j + 1 := ⟨k - 1, by omega⟩
      have ej : ((j + 1 : Nat) : Int) - 1 = (j : Int) := by omega
      rw [ej]
      clear ej
      have tj : (0 : Int) ≤ (j : Int) := by omega
      obtain ⟨b, off, rfl, _, hc⟩ := hcell j (by omega)
      have hblk := World.block_lt_of_cell? _ _ hc
      have hd := val_drop l j (by omega)
      have hb := val_drop_lt l j hl
      have tl : (j : Int) < (l.length : Int) := by omega
      have HD : Hid (val (l.drop j) = (l.getD j false).toNat + 2 * val (l.drop (j + 1))) := hd
      have hm : val (l.drop (j + 1)) ≤ 9223372036854775807 := by omega
      clear hd hb
      generalize val (l.drop (j + 1)) = m at *
      cases hbit : l.getD j false
      · rw [hbit] at hc
        have HD2 : Hid (val (l.drop j) = 2 * m) := by have := HD.out; rw [hbit] at this; show _ = _; simpa using this
        clear HD hbit
        go_wp2_with fail
        go_round
        case rel => exact ⟨j, rfl, by omega, congrArg (Value.int .u64) (by rw [HD2.out]; omega)⟩
        case measure => simp [intOf]
      · rw [hbit] at hc
        have HD2 : Hid (val (l.drop j) = 1 + 2 * m) := by have := HD.out; rw [hbit] at this; show _ = _; simpa using this
        clear HD hbit
        go_wp2_with fail
        go_round
        case rel => exact ⟨j, rfl, by omega, congrArg (Value.int .u64) (by rw [HD2.out]; omega)⟩
        case measure => simp [intOf]

theorem room_pos (z : Int) (l : List Bool) (hz : ¬ z < 0) (h : val l = z.natAbs) {x : Value} : Ending.returned (.tuple #[x, .bool (decide ((val l : Int) < 9223372036854775808))]) = .returned (.tuple #[x, .bool (decide (-9223372036854775808 ≤ z ∧ z ≤ 9223372036854775807))]) := by
  have e : decide ((val l : Int) < 9223372036854775808) = decide (-9223372036854775808 ≤ z ∧ z ≤ 9223372036854775807) := decide_eq_decide.2 (by omega)
  rw [e]
theorem room_neg (z : Int) (l : List Bool) (hz : z < 0) (h : val l = z.natAbs) {x : Value} : Ending.returned (.tuple #[x, .bool (decide ((val l : Int) ≤ 9223372036854775808))]) = .returned (.tuple #[x, .bool (decide (-9223372036854775808 ≤ z ∧ z ≤ 9223372036854775807))]) := by
  have e : decide ((val l : Int) ≤ 9223372036854775808) = decide (-9223372036854775808 ≤ z ∧ z ≤ 9223372036854775807) := decide_eq_decide.2 (by omega)
  rw [e]
/-- What Int answers, in all: the number and that it has room, or no room. -/
theorem intR_any {B : Nat} (s : Bool) (va : Value) (z : Int) (n : Nat) (w : World) (hv : IsNum B w s va z n) :
    Calls Tryz.prog 53 #[.agg #[.bool s, va]] w fun e w' => ∃ x, e = .returned (.tuple #[.int .i64 x, .bool (decide (-9223372036854775808 ≤ z ∧ z ≤ 9223372036854775807))]) ∧ Below w.heap.size w w' ∧ (-9223372036854775808 ≤ z ∧ z ≤ 9223372036854775807 → x = z) := by
  obtain ⟨hs, l, h1, h2, h3, h4⟩ := hv
  by_cases hl : l.length ≤ 64
  · have hlt := val_drop_lt l 0 hl
    rw [List.drop_zero] at hlt
    cases s
    · have hz : ¬ z < 0 := by simpa using hs.symm
      refine (intR_pos va l w h1 hl).mono ?_
      rintro e w' ⟨rfl, hb⟩
      exact ⟨_, room_pos z l hz h3, hb, fun h => by unfold wrap64; omega⟩
    · have hz : z < 0 := by simpa using hs.symm
      refine (intR_neg va l w h1 hl).mono ?_
      rintro e w' ⟨rfl, hb⟩
      exact ⟨_, room_neg z l hz h3, hb, fun h => by rw [IntKind.wrap_u64]; unfold wrap64; omega⟩
  · refine (intR_long s va l w h1 (by omega)).mono ?_
    rintro e w' ⟨rfl, hb⟩
    have hge := canon_ge l h2 (fun e => by rw [e] at hl; simp at hl)
    have hp : 2 ^ 64 ≤ 2 ^ (l.length - 1) := Nat.pow_le_pow_right (by omega) (by omega)
    have hbig : 18446744073709551616 ≤ z.natAbs := by omega
    refine ⟨0, ?_, hb, fun h => by omega⟩
    rw [show decide (-9223372036854775808 ≤ z ∧ z ≤ 9223372036854775807) = false by simp; omega]

set_option maxHeartbeats 400000 in
theorem toldR_any {B : Nat} (s : Bool) (va : Value) (z : Int) (n : Nat) (w : World) (hv : IsNum B w s va z n) :
    Calls Tryz.prog 42 #[.agg #[.bool s, va]] w fun e w' => e = .returned (.tuple #[.int .i64 (ansN z), .int .i64 (ansE z)]) ∧ Below w.heap.size w w' := by
  obtain ⟨a, N, ca, rfl⟩ : ∃ a N ca, va = .slice a N ca := by
    obtain ⟨_, l, ⟨a, ca, e, _⟩, _⟩ := hv
    exact ⟨a, _, ca, e⟩
  have hb0 : ∀ o : Obj, Below w.heap.size w (w.alloc o) := fun o => (Below.refl _ _).alloc (Nat.le_refl _) _
  by_cases hz : -9223372036854775808 ≤ z ∧ z ≤ 9223372036854775807
  · have e1 : Hid (ansN z = z) := by show _ = _; unfold ansN; exact if_pos hz
    have e2 : Hid (ansE z = 0) := by show _ = _; unfold ansE; exact if_pos hz
    have e3 : Hid (decide (-9223372036854775808 ≤ z ∧ z ≤ 9223372036854775807) = true) := by show _ = _; simp [hz]
    have HZ : Hid (-9223372036854775808 ≤ z ∧ z ≤ 9223372036854775807) := hz
    clear hz
    go_enter Tryz.func42, Tryz.ntmps42
    go_wp2_with fail
    refine (intR_any (B := B) s _ z n _ ?_).mono ?_
    · exact hv.below (hb0 _)
    rintro e w1 ⟨x, rfl, hb1, hx⟩
    rw [e3.out, hx HZ.out]
    clear hx
    go_wp2_with fail
    go_ret2
    exact ⟨by rw [e1.out, e2.out]; rfl, (hb0 _).trans (hb1.mono (by simp))⟩
  · have e1 : Hid (ansN z = 0) := by show _ = _; unfold ansN; exact if_neg hz
    have e2 : Hid (ansE z = 10) := by show _ = _; unfold ansE; exact if_neg hz
    have e3 : Hid (decide (-9223372036854775808 ≤ z ∧ z ≤ 9223372036854775807) = false) := by show _ = _; simpa using hz
    clear hz
    go_enter Tryz.func42, Tryz.ntmps42
    go_wp2_with fail
    refine (intR_any (B := B) s _ z n _ ?_).mono ?_
    · exact hv.below (hb0 _)
    rintro e w1 ⟨x, rfl, hb1, hx⟩
    rw [e3.out]
    clear hx
    go_wp2_with fail
    go_ret2
    exact ⟨by rw [e1.out, e2.out]; rfl, (hb0 _).trans (hb1.mono (by simp))⟩

end Go.Proofs.YtfphjhmhiaepiaaGreat
