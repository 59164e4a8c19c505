/-
  Plain lists of bits, the lowest first, no program: the number that a list stands for, lists without noughts at the upper end, and what sums, differences and comparisons bit by bit come to.
-/
import Derived.WalkKit
import Derived.WalkSpells
import Derived.WalkLawsBesides
import Derived.ProofKit
import Derived.OpenShut
import Derived.Outline
import Derived.Deep.RegionHeld3
import Derived.Deep.QuietTactic
import Derived.BigQuiet
import Derived.Deep.DeepCutAuto
import Derived.Deep.OwnRows
import Derived.Test.YtdacfnodihannaaGreatRows
import Derived.Test.YtdacfnodihannaaGreatKA
namespace Go.Proofs.YtdacfnodihannaaGreat

def val : List Bool → Nat
  | [] => 0
  | b :: l => b.toNat + 2 * val l
/-- Without noughts at the upper end. -/
def Canon (l : List Bool) : Prop := l.getLast? ≠ some false

theorem val_append (l m : List Bool) : val (l ++ m) = val l + 2 ^ l.length * val m := by
  induction l with
  | nil => simp [val]
  | cons b l ih =>
    simp only [List.cons_append, val, ih, List.length_cons, Nat.pow_succ]
    rw [Nat.mul_add, Nat.mul_comm (2 ^ l.length) 2, Nat.mul_assoc]
    omega
theorem val_lt (l : List Bool) : val l < 2 ^ l.length := by
  induction l with
  | nil => simp [val]
  | cons b l ih =>
    simp only [val, List.length_cons, Nat.pow_succ]
    cases b <;> simp <;> omega
theorem val_snoc (l : List Bool) (b : Bool) : val (l ++ [b]) = val l + 2 ^ l.length * b.toNat := by
  rw [val_append]; simp [val]
theorem canon_nil : Canon [] := by simp [Canon]
theorem canon_snoc (l : List Bool) : Canon (l ++ [true]) := by simp [Canon]
theorem canon_ge (l : List Bool) (h : Canon l) (hn : l ≠ []) : 2 ^ (l.length - 1) ≤ val l := by
  obtain ⟨m, b, rfl⟩ : ∃ m b, l = m ++ [b] := ⟨l.dropLast, l.getLast hn, (List.dropLast_concat_getLast hn).symm⟩
  have hb : b = true := by
    cases b
    · exact absurd (by simp) h
    · rfl
  subst hb
  rw [val_snoc]
  simp
theorem canon_zero (l : List Bool) (h : Canon l) : l = [] ↔ val l = 0 := by
  constructor
  · intro e; subst e; rfl
  · intro e
    apply Decidable.byContradiction
    intro hn
    have := canon_ge l h hn
    have := Nat.two_pow_pos (l.length - 1)
    omega
theorem val_take_succ (l : List Bool) (k : Nat) (hk : k < l.length) : val (l.take (k + 1)) = val (l.take k) + 2 ^ k * (l.getD k false).toNat := by
  rw [List.take_succ_eq_append_getElem hk, val_snoc]
  simp [hk, Nat.min_eq_left (Nat.le_of_lt hk)]
/-- The same where the list may have ended. -/
theorem val_take_next (l : List Bool) (k : Nat) : val (l.take (k + 1)) = val (l.take k) + 2 ^ k * (l.getD k false).toNat := by
  by_cases hk : k < l.length
  · exact val_take_succ l k hk
  · have h1 : l.take (k + 1) = l := List.take_of_length_le (by omega)
    have h2 : l.take k = l := List.take_of_length_le (by omega)
    have h3 : l.getD k false = false := by simp [List.getD, List.getElem?_eq_none (Nat.le_of_not_lt hk)]
    rw [h1, h2, h3]; simp
theorem val_falses (l : List Bool) (h : ∀ i, i < l.length → l.getD i false = false) : val l = 0 := by
  induction l with
  | nil => rfl
  | cons b l ih =>
    have hb : b = false := by simpa using h 0 (by simp)
    have := ih (fun i hi => by simpa using h (i + 1) (by simp; omega))
    simp [val, hb, this]
/-- Cut off where all that follows is nought. -/
theorem val_trim (l : List Bool) (n : Nat) (h : ∀ i, n ≤ i → i < l.length → l.getD i false = false) : val (l.take n) = val l := by
  have e : val l = val (l.take n ++ l.drop n) := by rw [List.take_append_drop]
  have z : val (l.drop n) = 0 := val_falses _ (fun i hi => by
    have hl : i < l.length - n := by simpa using hi
    have := h (n + i) (by omega) (by omega)
    simpa using this)
  rw [e, val_append, z]; simp
theorem canon_trim (l : List Bool) (n : Nat) (hn : n ≤ l.length) (h : n = 0 ∨ l.getD (n - 1) false = true) : Canon (l.take n) := by
  rcases h with rfl | h
  · simp [Canon]
  · unfold Canon
    rcases Nat.eq_zero_or_pos n with rfl | hp
    · simp
    · have hl : n - 1 < l.length := by omega
      have : (l.take n).getLast? = some (l.getD (n - 1) false) := by
        rw [List.getLast?_eq_getElem?]
        simp [Nat.min_eq_left hn, hl, List.getElem?_take]
        omega
      rw [this, h]; simp
theorem val_ext : ∀ (x y : List Bool), (∀ j, x.getD j false = y.getD j false) → val x = val y
  | [], y, h => by
    have : val y = 0 := val_falses y (fun i _ => by have := h i; simpa using this.symm)
    rw [this]; rfl
  | b :: x, [], h => by
    have : val (b :: x) = 0 := val_falses (b :: x) (fun i _ => by have := h i; simpa using this)
    rw [this]; rfl
  | b :: x, c :: y, h => by
    have e : b = c := by simpa using h 0
    have := val_ext x y (fun j => by simpa using h (j + 1))
    simp [val, e, this]
theorem val_split (l : List Bool) (k : Nat) : val l = val (l.take k) + 2 ^ k * val (l.drop k) := by
  have e : val l = val (l.take k ++ l.drop k) := by rw [List.take_append_drop]
  rw [e, val_append]
  by_cases hk : k ≤ l.length
  · simp [Nat.min_eq_left hk]
  · have : l.drop k = [] := List.drop_eq_nil_of_le (by omega)
    rw [this]; simp [val]
theorem val_take_lt (l : List Bool) (k : Nat) : val (l.take k) < 2 ^ k := by
  have := val_lt (l.take k)
  have h2 : 2 ^ (l.take k).length ≤ 2 ^ k := Nat.pow_le_pow_right (by omega) (by simp; omega)
  omega
theorem drop_same (x y : List Bool) (k : Nat) (h : ∀ j, k ≤ j → x.getD j false = y.getD j false) : val (x.drop k) = val (y.drop k) :=
  val_ext _ _ (fun j => by have := h (k + j) (by omega); simpa using this)
/-- The uppermost bit in which two lists part says which is greater. -/
theorem val_part (x y : List Bool) (k : Nat) (h : ∀ j, k + 1 ≤ j → x.getD j false = y.getD j false) (hx : x.getD k false = true) (hy : y.getD k false = false) : val y < val x := by
  have e1 := val_split x (k + 1)
  have e2 := val_split y (k + 1)
  have e3 := drop_same x y (k + 1) h
  have e4 := val_take_next x k
  have e5 := val_take_next y k
  have e6 := val_take_lt y k
  rw [hx] at e4
  rw [hy] at e5
  rw [e3] at e1
  simp at e4 e5
  omega
def maj (a b c : Bool) : Bool := a && b || c && (a || b)
theorem plus_step (x y l : List Bool) (q : Bool) (h : val l + 2 ^ l.length * q.toNat = val (x.take l.length) + val (y.take l.length)) :
    val (l ++ [(x.getD l.length false != y.getD l.length false) != q]) + 2 ^ (l ++ [(x.getD l.length false != y.getD l.length false) != q]).length * (maj (x.getD l.length false) (y.getD l.length false) q).toNat =
      val (x.take (l.length + 1)) + val (y.take (l.length + 1)) := by
  rw [val_take_next, val_take_next, val_snoc, List.length_append, List.length_singleton, Nat.pow_succ, Nat.mul_assoc]
  generalize x.getD l.length false = a
  generalize y.getD l.length false = b
  generalize 2 ^ l.length = p at *
  cases a <;> cases b <;> cases q <;> simp [maj] at * <;> omega
def bor (a b c : Bool) : Bool := !a && (b || c) || a && b && c
theorem minus_step (x y l : List Bool) (q : Bool) (h : val (x.take l.length) + 2 ^ l.length * q.toNat = val l + val (y.take l.length)) :
    val (x.take (l.length + 1)) + 2 ^ (l ++ [(x.getD l.length false != y.getD l.length false) != q]).length * (bor (x.getD l.length false) (y.getD l.length false) q).toNat =
      val (l ++ [(x.getD l.length false != y.getD l.length false) != q]) + val (y.take (l.length + 1)) := by
  rw [val_take_next, val_take_next, val_snoc, List.length_append, List.length_singleton, Nat.pow_succ, Nat.mul_assoc]
  generalize x.getD l.length false = a
  generalize y.getD l.length false = b
  generalize 2 ^ l.length = p at *
  cases a <;> cases b <;> cases q <;> simp [bor] at * <;> omega
/-- At the end nothing is borrowed any more. -/
theorem minus_end (x y l : List Bool) (q : Bool) (hl : l.length = x.length) (h : val (x.take l.length) + 2 ^ l.length * q.toNat = val l + val (y.take l.length)) (hle : val y ≤ val x) : val l = val x - val y := by
  have e1 : x.take l.length = x := List.take_of_length_le (by omega)
  rw [e1] at h
  have e2 := val_split y l.length
  have e3 := val_lt l
  have e4 := val_lt x
  rw [← hl] at e4
  have hp := Nat.two_pow_pos l.length
  have hd : val (y.drop l.length) = 0 := by
    rcases Nat.eq_zero_or_pos (val (y.drop l.length)) with h0 | h0
    · exact h0
    · have := Nat.le_mul_of_pos_right (2 ^ l.length) h0
      omega
  rw [hd] at e2
  generalize 2 ^ l.length = p at *
  cases q <;> simp at * <;> omega
theorem take_all (x : List Bool) (k : Nat) (h : x.length ≤ k) : x.take k = x := List.take_of_length_le h
theorem getD_end (x : List Bool) (k : Nat) (h : x.length ≤ k) : x.getD k false = false := by simp [List.getElem?_eq_none h]
theorem val_same (x y : List Bool) (h : ∀ j, x.getD j false = y.getD j false) : val x = val y := val_ext x y h
end Go.Proofs.YtdacfnodihannaaGreat
/-
  What it is for a slice of bits to read as a list in a world; contracts of the reference's at and trim.
-/
namespace Go.Proofs.YtdacfnodihannaaGreat
open Go.ChangeShapes Go.WideShapes Go.ChangeAt Go.RowKit

/-- The slice value v reads as the bits l, which lie in blocks from number B on. -/
def Reads (B : Nat) (w : World) (v : Value) (l : List Bool) : Prop :=
  ∃ a cap, v = .slice a l.length cap ∧ l.length ≤ cap ∧ cap ≤ maxLen ∧ (∀ i, i < l.length → ∃ b off, a = some ⟨b, off, none⟩ ∧ B ≤ b ∧ w.cell? ⟨b, off + i, none⟩ = some (.bool (l.getD i false)))
theorem Reads.below {B : Nat} {w w' : World} {v : Value} {l : List Bool} (h : Reads B w v l) (hb : Below w.heap.size w w') : Reads B w' v l := by
  obtain ⟨a, cap, rfl, h1, h2, h3⟩ := h
  refine ⟨a, cap, rfl, h1, h2, fun i hi => ?_⟩
  obtain ⟨b, off, e, hB, hc⟩ := h3 i hi
  exact ⟨b, off, e, hB, by rw [hb.cell (World.block_lt_of_cell? _ _ hc)]; exact hc⟩
theorem Reads.mono {B C : Nat} {w : World} {v : Value} {l : List Bool} (h : Reads B w v l) (hC : C ≤ B) : Reads C w v l := by
  obtain ⟨a, cap, rfl, h1, h2, h3⟩ := h
  refine ⟨a, cap, rfl, h1, h2, fun i hi => ?_⟩
  obtain ⟨b, off, e, hB, hc⟩ := h3 i hi
  exact ⟨b, off, e, by omega, hc⟩
/-- A cell below is written. -/
theorem Reads.setCell {B : Nat} {w : World} {v : Value} {l : List Bool} (h : Reads B w v l) {p : Addr} (hp : p.block < B) (u : Value) : Reads B (w.setCell p u) v l := by
  obtain ⟨a, cap, rfl, h1, h2, h3⟩ := h
  refine ⟨a, cap, rfl, h1, h2, fun i hi => ?_⟩
  obtain ⟨b, off, e, hB, hc⟩ := h3 i hi
  refine ⟨b, off, e, hB, ?_⟩
  rw [World.cell?_of_block (w := w) (Below.heap_setCell _ _ _ _ (by show b ≠ p.block; omega))]
  exact hc
theorem reads_nil (B : Nat) (w : World) : Reads B w (.slice none 0 0) [] := ⟨none, 0, rfl, by simp, by simp [maxLen], fun i hi => by simp at hi⟩
theorem Reads.take {B : Nat} {w : World} {a : Option Addr} {n cap : Nat} {l : List Bool} (h : Reads B w (.slice a n cap) l) (k : Nat) (hk : k ≤ l.length) : Reads B w (.slice a k cap) (l.take k) := by
  obtain ⟨a', cap', e, h1, h2, h3⟩ := h
  simp only [Value.slice.injEq] at e
  obtain ⟨rfl, rfl, rfl⟩ := e
  refine ⟨a, cap, by simp [Nat.min_eq_left hk], by simp; omega, h2, fun i hi => ?_⟩
  have hi' : i < k := by simp at hi; omega
  obtain ⟨b, off, e, hB, hc⟩ := h3 i (by omega)
  refine ⟨b, off, e, hB, ?_⟩
  rw [hc]
  simp [hi']
/-- A row of the call's own, of bits. -/
theorem reads_of_owns {w : World} {base : Nat} {v : Value} {l : List Bool} (h : w.ownsRow base 4 1 v l.length (l.map Value.bool)) : Reads base w v l := by
  obtain ⟨_, h2⟩ := h
  rcases h2 with ⟨rfl, h0⟩ | ⟨g, cap, cur, rfl, hg, hh, hn, hm, hs, ht⟩
  · have : l = [] := List.eq_nil_of_length_eq_zero h0
    subst this
    exact reads_nil base w
  · refine ⟨_, cap, rfl, hn, hm, fun i hi => ⟨g, 0, rfl, hg, ?_⟩⟩
    have hown : w.ownsRow base 4 1 (.slice (some ⟨g, 0, none⟩) l.length cap) l.length (l.map Value.bool) := ⟨by simp, .inr ⟨g, cap, cur, rfl, hg, hh, hn, hm, hs, ht⟩⟩
    have := hown.cells (g := g) rfl i (.bool (l.getD i false)) (by simp [hi])
    have e : (⟨g, 0, none⟩ : Addr).add i = ⟨g, 0 + i, none⟩ := by unfold Addr.add; split <;> simp_all
    rw [e] at this
    exact this

set_option maxHeartbeats 400000 in
theorem at_any {B : Nat} (l : List Bool) (v : Value) (i : Nat) (w : World) (h : Reads B w v l) :
    Calls Tryz.prog 107 #[v, .int .i64 (i : Int)] w fun e w' => e = .returned (.bool (l.getD i false)) ∧ w' = w := by
  obtain ⟨a, cap, rfl, h1, h2, h3⟩ := h
  unfold maxLen at h2
  by_cases hlt : i < l.length
  · obtain ⟨b, off, rfl, _, hc⟩ := h3 i hlt
    generalize l.getD i false = x at *
    have t : (i : Int) < (l.length : Int) := by omega
    go_enter Tryz.func107, Tryz.ntmps107
    go_wp2
    go_ret
    exact ⟨rfl, rfl⟩
  · have t : decide ((i : Int) < (l.length : Int)) = false := by simp; omega
    have e : l.getD i false = false := by simp [List.getElem?_eq_none (Nat.le_of_not_lt hlt)]
    rw [e]
    go_enter Tryz.func107, Tryz.ntmps107
    go_wp2
    go_ret
    exact ⟨rfl, rfl⟩

set_option maxHeartbeats 400000 in
theorem trim_any {B : Nat} (l : List Bool) (v : Value) (w : World) (h : Reads B w v l) :
    Calls Tryz.prog 108 #[v] w fun e w' => ∃ v', e = .returned v' ∧ w' = w ∧ ∃ l', Reads B w v' l' ∧ Canon l' ∧ val l' = val l ∧ l'.length ≤ l.length := by
  have hR := h
  obtain ⟨a, cap, rfl, h1, h2, h3⟩ := h
  have h2' := h2
  unfold maxLen at h2
  go_enter Tryz.func108, Tryz.ntmps108
  go_wp2
  go_loop [3] (fun n => ∃ k : Nat, n = .int .i64 (k : Int) ∧ k ≤ l.length ∧ Hid (∀ i, k ≤ i → i < l.length → l.getD i false = false)) (fun n => (intOf n).toNat)
  case atStart => exact ⟨l.length, rfl, Nat.le_refl _, fun i h1 h2 => by omega⟩
  case round =>
    obtain ⟨k, rfl, hk, hz⟩ := hrel
    rcases Nat.eq_zero_or_pos k with rfl | hp
    · go_wp2
      go_ret
      exact ⟨_, rfl, rfl, [], hR.take 0 (Nat.zero_le _), canon_nil, val_trim l 0 hz.out, by simp⟩
    · obtain ⟨j, rfl⟩ : ∃ j, k = j + 1 := ⟨k - 1, by omega⟩
      obtain ⟨b, off, rfl, _, hc⟩ := h3 j (by omega)
      have t : (j : Int) < (l.length : Int) := by omega
      cases hb : l.getD j false
      · rw [hb] at hc
        go_wp2
        go_round
        case rel => exact ⟨j, by go_num, by omega, fun i h1 h2 => by
          rcases Nat.eq_or_lt_of_le h1 with rfl | h
          · exact hb
          · exact hz.out i h h2⟩
        case measure => simp [intOf]
      · rw [hb] at hc
        go_wp2
        go_ret
        exact ⟨_, rfl, rfl, l.take (j + 1), hR.take (j + 1) hk, canon_trim l (j + 1) hk (.inr hb), val_trim l (j + 1) hz.out, by rw [List.length_take]; omega⟩
end Go.Proofs.YtdacfnodihannaaGreat
/-
  Contract of the reference's Of: the bits of a number of 64 bits, for every number.
-/
namespace Go.Proofs.YtdacfnodihannaaGreat
open Go.ChangeShapes Go.WideShapes Go.ChangeAt Go.RowKit

theorem Tryz.infoBool : (Tryz.prog.info? 4).map (fun i => (i.zero, i.size, i.bytes)) = some (some (.bool false), 1, 1) := by kernel_rfl
theorem bits_one (l : List Bool) : ∀ u ∈ l.map Value.bool, u.oneCell' = true := by
  intro u hu
  obtain ⟨b, _, rfl⟩ := List.mem_map.1 hu
  rfl
theorem owns_snoc {w : World} {base e : Nat} {v : Value} {l : List Bool} {b : Bool} (h : w.ownsRow base e 1 v (l.length + 1) (l.map Value.bool ++ [.bool b])) : w.ownsRow base e 1 v (l ++ [b]).length ((l ++ [b]).map Value.bool) := by
  simpa using h
/-- One bit more, of the number that is left. -/
theorem of_step (l : List Bool) (M N : Nat) (h : val l + 2 ^ l.length * M = N) : val (l ++ [decide (M % 2 = 1)]) + 2 ^ (l ++ [decide (M % 2 = 1)]).length * (M / 2) = N := by
  rw [val_snoc, List.length_append, List.length_singleton, Nat.pow_succ, Nat.mul_assoc, Nat.add_assoc, ← Nat.mul_add]
  have e : (decide (M % 2 = 1)).toNat + 2 * (M / 2) = M := by
    by_cases hm : M % 2 = 1 <;> simp [hm] <;> omega
  rw [e, h]
theorem pow_split (k : Nat) (M : Nat) (hk : k < 64) (h : M < 2 ^ (64 - k)) : M / 2 < 2 ^ (64 - (k + 1)) := by
  have e : 64 - k = (64 - (k + 1)) + 1 := by omega
  rw [e, Nat.pow_succ] at h
  omega

set_option maxRecDepth 100000 in
set_option maxHeartbeats 1000000 in
theorem of_any (a : Int) (w : World) (a1 : -9223372036854775808 ≤ a) (a2 : a ≤ 9223372036854775807) :
    Calls Tryz.prog 75 #[.int .i64 a] w fun e w' => ∃ v, e = .returned (.agg #[.bool (decide (a < 0)), v]) ∧ Below w.heap.size w w' ∧ ∃ l, Reads w.heap.size w' v l ∧ Canon l ∧ val l = a.natAbs ∧ l.length ≤ 64 := by
  obtain ⟨i0, hi, hz0, hz1, hz2⟩ := info_parts Tryz.infoBool
  go_enter Tryz.func75, Tryz.ntmps75
  go_upto_if 8 with fail
  go_cut [3] from 5 to 24 (fun m wx => m = .int .u64 (a.natAbs : Int) ∧ wx = w.alloc (.cells #[.bool false, .slice none 0 0] 91))
  case first =>
    by_cases h : a < 0
    · go_wp2_with fail
      go_meet
      case rel => exact ⟨congrArg (Value.int .u64) (by (try simp only [IntKind.wrap_u64]); omega), rfl⟩
    · go_wp2_with fail
      go_meet
      case rel => exact ⟨congrArg (Value.int .u64) (by rw [IntKind.wrap_u64]; omega), rfl⟩
  case rest =>
    obtain ⟨rfl, rfl⟩ := hcut
    go_wp2_with fail
    go_loopw [3, 4] (fun m v wr => ∃ (l : List Bool) (M : Nat), m = .int .u64 (M : Int) ∧ wr.ownsRow (w.heap.size + 1) 4 1 v l.length (l.map Value.bool) ∧ Hid (val l + 2 ^ l.length * M = a.natAbs) ∧ l.length ≤ 64 ∧ Hid (M < 2 ^ (64 - l.length)) ∧ Hid (M = 0 → Canon l) ∧ M ≤ 18446744073709551615 ∧ Below (w.heap.size + 1) (w.alloc (.cells #[.bool false, .slice none 0 0] 91)) wr) (fun m _ _ => (intOf m).toNat)
    case atStart => exact ⟨[], a.natAbs, rfl, World.ownsRow_nil _ _ _ _, by show _ = _; simp [val], by simp, by show _ < 2 ^ 64; omega, fun _ => canon_nil, by omega, Below.refl _ _⟩
    case round =>
      obtain ⟨l, M, rfl, hown, h1, h2, h3, h4, h5, hB⟩ := hrel
      rcases Nat.eq_zero_or_pos M with rfl | hp
      · have hR := reads_of_owns hown
        obtain ⟨a0, cap0, rfl, _⟩ := id hR
        have c0 := hB.cell (p := ⟨w.heap.size, 0, none⟩) (by simp)
        have c1 := hB.cell (p := ⟨w.heap.size, 1, none⟩) (by simp)
        have f0 := hB.frozen (p := ⟨w.heap.size, 0, none⟩) (by simp)
        have f1 := hB.frozen (p := ⟨w.heap.size, 1, none⟩) (by simp)
        simp at c0 c1 f0 f1
        have hcan := h4.out rfl
        have hval : Hid (val l = a.natAbs) := by have := h1.out; simp at this; exact this
        clear h4 h1 h3
        go_wp2_with fail
        refine bodyPost_ret (v := .agg #[.bool (decide (a < 0)), .slice a0 l.length cap0]) (by simp [results, Tryz.results75, go_sem, c0, c1]) rfl ⟨_, rfl, ?_, l, ?_, hcan, hval.out, h2⟩
        · exact ((((Below.refl _ _).alloc (Nat.le_refl _) _).trans (hB.mono (by omega))).setCell (by simp) _).setCell (by simp) _
        · exact (reads_of_owns (ownsRow_setCell_below (ownsRow_setCell_below hown (by simp) _) (by simp) _)).mono (by omega)
      · have hlen : l.length < 64 := by
          rcases Nat.lt_or_ge l.length 64 with h | h
          · exact h
          · have := h3.out; rw [show 64 - l.length = 0 by omega] at this; omega
        have t : (0 : Int) < (M : Int) := by omega
        obtain ⟨b, hb⟩ : ∃ b, Hid (b = decide (M % 2 = 1)) := ⟨_, rfl⟩
        have hbit : ((M : Int) % 2 == 1) = b := by rw [hb.out]; by_cases h : M % 2 = 1 <;> simp [h] <;> omega
        have hs := hB.size
        simp at hs
        go_wp2_with (at_builtin; refine wpList_append_own _ rfl _ _ 89 rfl (w.heap.size + 1) 4 i0 (.bool false) 1 1 Tryz.underlying89 hi hz0 hz1 hz2 rfl (by decide) _ _ _ rfl (hown.alloc _) ⟨wr.heap.size, 0, none⟩ 1 1 [.bool b] rfl rfl ?c1 ?c2 ?c3 ?c4 ?c5 ?_)
        case c1 => exact cell_one_new _ _ _
        case c2 => exact bits_one [b]
        case c3 => unfold maxLen; omega
        case c4 => omega
        case c5 => simp; omega
        intro v' w' hown' hgrow _
        have hB' := (hB.alloc (by omega) _).grown hgrow (by simp; omega) (fun k hk => (hown.lt k hk).1)
        have hown2 := owns_snoc hown'
        have g1 := of_step l M _ h1.out
        have g3 := pow_split l.length M hlen h3.out
        rw [← hb.out] at g1
        have G1 : Hid (val (l ++ [b]) + 2 ^ (l ++ [b]).length * (M / 2) = a.natAbs) := g1
        have G3 : Hid (M / 2 < 2 ^ (64 - (l ++ [b]).length)) := by rw [List.length_append]; exact g3
        have G4 : Hid (M / 2 = 0 → Canon (l ++ [b])) := fun h => by
          have : M = 1 := by omega
          rw [hb.out, this]
          exact canon_snoc l
        clear g1 g3 hown' hgrow hown h1 h3 h4 hbit
        go_wp2_with fail
        go_roundw
        case rel => exact ⟨l ++ [b], M / 2, congrArg (Value.int .u64) (by omega), hown2, G1, by simp; omega, G3, G4, by omega, hB'⟩
        case measure => simp [intOf]; omega
end Go.Proofs.YtdacfnodihannaaGreat
/-
  Contract of the reference's cmp: two lists of bits are held against each other as numbers.
-/
namespace Go.Proofs.YtdacfnodihannaaGreat
open Go.ChangeShapes Go.WideShapes Go.ChangeAt Go.RowKit

def cmpI (a b : Nat) : Int := if a < b then -1 else if a = b then 0 else 1
set_option maxHeartbeats 1000000 in
theorem cmp_any {B C : Nat} (x y : List Bool) (v u : Value) (w : World) (hv : Reads B w v x) (hu : Reads C w u y) :
    Calls Tryz.prog 109 #[v, u] w fun e w' => e = .returned (.int .i64 (cmpI (val x) (val y))) ∧ w' = w := by
  obtain ⟨a, ca, rfl, h1, h2, _⟩ := id hv
  obtain ⟨b, cb, rfl, k1, k2, _⟩ := id hu
  unfold maxLen at h2 k2
  go_enter Tryz.func109, Tryz.ntmps109
  go_upto_region 1 with fail
  go_cut [5] from 6 to 25 (fun i wx => i = .int .i64 ((max x.length y.length : Nat) - 1 : Int) ∧ wx = w)
  case first =>
    rcases Nat.lt_or_ge x.length y.length with h | h
    · go_wp2_with fail
      all_goals
        go_meet
        case rel => exact ⟨congrArg (Value.int .i64) (by omega), rfl⟩
    · go_wp2_with fail
      all_goals
        go_meet
        case rel => exact ⟨congrArg (Value.int .i64) (by omega), rfl⟩
  case rest =>
    obtain ⟨rfl, rfl⟩ := hcut
    have hK : ∀ j, max x.length y.length ≤ j → x.getD j false = y.getD j false := fun j hj => by
      rw [show x.getD j false = false by simp [List.getElem?_eq_none (show x.length ≤ j by omega)], show y.getD j false = false by simp [List.getElem?_eq_none (show y.length ≤ j by omega)]]
    have hM : max x.length y.length ≤ 9223372036854775807 := by omega
    generalize max x.length y.length = K at *
    have HK : Hid (∀ j, K ≤ j → x.getD j false = y.getD j false) := hK
    clear hK
    go_wp2_with fail
    go_loop [5] (fun i => ∃ k : Nat, i = .int .i64 ((k : Int) - 1) ∧ k ≤ 9223372036854775807 ∧ Hid (∀ j, k ≤ j → x.getD j false = y.getD j false)) (fun i => (intOf i + 1).toNat)
    case atStart => exact ⟨K, rfl, hM, HK⟩
    case round =>
      obtain ⟨k, rfl, hk, hz⟩ := hrel
      rcases Nat.eq_zero_or_pos k with rfl | hp
      · have hend : Hid (cmpI (val x) (val y) = 0) := by
          show cmpI _ _ = 0
          rw [val_same x y (fun j => hz.out j (Nat.zero_le _))]
          unfold cmpI; simp
        go_wp2_with fail
        go_ret
        exact ⟨by rw [hend.out]; rfl, rfl⟩
      · obtain ⟨j, rfl⟩ : ∃ j, k = j + 1 := ⟨k - 1, by omega⟩
        have ej : ((j + 1 : Nat) : Int) - 1 = (j : Int) := by omega
        rw [ej]
        clear ej
        have t : (0 : Int) ≤ (j : Int) := by omega
        cases hx : x.getD j false <;> cases hy : y.getD j false
        · have HX : Hid (x.getD j false = false) := hx
          have HY : Hid (y.getD j false = false) := hy
          clear hx hy
          go_wp2_with fail
          refine (at_any x _ j _ hv).mono ?_
          rintro e w1 ⟨rfl, rfl⟩
          rw [HX.out]
          go_wp2_with fail
          refine (at_any y _ j _ hu).mono ?_
          rintro e w1 ⟨rfl, rfl⟩
          rw [HY.out]
          go_wp2_with fail
          go_round
          case rel => exact ⟨j, rfl, by omega, fun i hi => by
            rcases Nat.eq_or_lt_of_le hi with rfl | h
            · rw [HX.out, HY.out]
            · exact hz.out i h⟩
          case measure => simp [intOf]
        · have HX : Hid (x.getD j false = false) := hx
          have HY : Hid (y.getD j false = true) := hy
          clear hx hy
          have hend : Hid (cmpI (val x) (val y) = -1) := by
            show cmpI _ _ = -1
            have h := val_part y x j (fun i hi => (hz.out i hi).symm) HY.out HX.out
            unfold cmpI
            rw [if_pos h]
          go_wp2_with fail
          refine (at_any x _ j _ hv).mono ?_
          rintro e w1 ⟨rfl, rfl⟩
          rw [HX.out]
          go_wp2_with fail
          refine (at_any y _ j _ hu).mono ?_
          rintro e w1 ⟨rfl, rfl⟩
          rw [HY.out]
          go_wp2_with fail
          refine (at_any x _ j _ hv).mono ?_
          rintro e w1 ⟨rfl, rfl⟩
          rw [HX.out]
          go_wp2_with fail
          go_ret
          exact ⟨by rw [hend.out]; rfl, rfl⟩
        · have HX : Hid (x.getD j false = true) := hx
          have HY : Hid (y.getD j false = false) := hy
          clear hx hy
          have hend : Hid (cmpI (val x) (val y) = 1) := by
            show cmpI _ _ = 1
            have h := val_part x y j (fun i hi => hz.out i hi) HX.out HY.out
            unfold cmpI
            rw [if_neg (by omega), if_neg (by omega)]
          go_wp2_with fail
          refine (at_any x _ j _ hv).mono ?_
          rintro e w1 ⟨rfl, rfl⟩
          rw [HX.out]
          go_wp2_with fail
          refine (at_any y _ j _ hu).mono ?_
          rintro e w1 ⟨rfl, rfl⟩
          rw [HY.out]
          go_wp2_with fail
          refine (at_any x _ j _ hv).mono ?_
          rintro e w1 ⟨rfl, rfl⟩
          rw [HX.out]
          go_wp2_with fail
          go_ret
          exact ⟨by rw [hend.out]; rfl, rfl⟩
        · have HX : Hid (x.getD j false = true) := hx
          have HY : Hid (y.getD j false = true) := hy
          clear hx hy
          go_wp2_with fail
          refine (at_any x _ j _ hv).mono ?_
          rintro e w1 ⟨rfl, rfl⟩
          rw [HX.out]
          go_wp2_with fail
          refine (at_any y _ j _ hu).mono ?_
          rintro e w1 ⟨rfl, rfl⟩
          rw [HY.out]
          go_wp2_with fail
          go_round
          case rel => exact ⟨j, rfl, by omega, fun i hi => by
            rcases Nat.eq_or_lt_of_le hi with rfl | h
            · rw [HX.out, HY.out]
            · exact hz.out i h⟩
          case measure => simp [intOf]
end Go.Proofs.YtdacfnodihannaaGreat
/-
  Contract of the reference's plus: the sum of two lists of bits.
-/
namespace Go.Proofs.YtdacfnodihannaaGreat
open Go.ChangeShapes Go.WideShapes Go.ChangeAt Go.RowKit

set_option maxHeartbeats 2000000 in
theorem plusR_any {B C : Nat} (x y : List Bool) (v u : Value) (w : World) (hv : Reads B w v x) (hu : Reads C w u y) (hx : x.length ≤ 1000000) (hy : y.length ≤ 1000000) :
    Calls Tryz.prog 92 #[v, u] w fun e w' => ∃ v', e = .returned v' ∧ Below w.heap.size w w' ∧ ∃ l, Reads w.heap.size w' v' l ∧ Canon l ∧ val l = val x + val y ∧ l.length ≤ max x.length y.length + 1 := by
  obtain ⟨i0, hi, hz0, hz1, hz2⟩ := info_parts Tryz.infoBool
  obtain ⟨a, ca, rfl, h1, _, _⟩ := id hv
  obtain ⟨b, cb, rfl, k1, _, _⟩ := id hu
  obtain ⟨M, hM⟩ : ∃ M, Hid (max x.length y.length = M) := ⟨_, rfl⟩
  have m1 : x.length ≤ M := by rw [← hM.out]; omega
  have m2 : y.length ≤ M := by rw [← hM.out]; omega
  have m3 : M ≤ 1000000 := by rw [← hM.out]; omega
  rw [hM.out]
  go_enter Tryz.func92, Tryz.ntmps92
  go_wp2_with fail
  go_loopw [5, 6, 7] (fun o c i wr => ∃ (l : List Bool) (q : Bool), i = .int .i64 (l.length : Int) ∧ c = .bool q ∧ wr.ownsRow w.heap.size 4 1 o l.length (l.map Value.bool) ∧ l.length ≤ M + 1 ∧ Hid (l.length = M + 1 → q = false) ∧ Hid (val l + 2 ^ l.length * q.toNat = val (x.take l.length) + val (y.take l.length)) ∧ Below w.heap.size w wr) (fun _ _ i _ => M + 1 - (intOf i).toNat)
  case atStart => exact ⟨[], false, rfl, rfl, World.ownsRow_nil _ _ _ _, by simp, fun _ => rfl, by show _ = _; simp [val], Below.refl _ _⟩
  case round =>
    obtain ⟨l, q, rfl, rfl, hown, h2, h3, h4, hB⟩ := hrel
    go_upto_region 4 with fail
    go_cut [19] from 10 to 48 (fun t wx => t = .bool (decide (l.length < M) || q) ∧ wx = wr)
    case first =>
      by_cases hl : l.length < M
      · have e : Hid (true = (decide (l.length < M) || q)) := by show _ = _; simp [hl]
        rcases Nat.lt_or_ge x.length y.length with h | h
        · have t : (l.length : Int) < (y.length : Int) := by have := hM.out; omega
          go_wp2_with fail
          all_goals
            go_meet
            case rel => exact ⟨congrArg Value.bool e.out, rfl⟩
        · have t : (l.length : Int) < (x.length : Int) := by have := hM.out; omega
          go_wp2_with fail
          all_goals
            go_meet
            case rel => exact ⟨congrArg Value.bool e.out, rfl⟩
      · have e : Hid (q = (decide (l.length < M) || q)) := by show _ = _; simp [hl]
        have t1 : ¬ (l.length : Int) < (x.length : Int) := by omega
        have t2 : ¬ (l.length : Int) < (y.length : Int) := by omega
        rcases Nat.lt_or_ge x.length y.length with h | h
        · go_wp2_with fail
          all_goals
            go_meet
            case rel => exact ⟨congrArg Value.bool e.out, rfl⟩
        · go_wp2_with fail
          all_goals
            go_meet
            case rel => exact ⟨congrArg Value.bool e.out, rfl⟩
    case rest =>
      obtain ⟨rfl, rfl⟩ := hcut
      cases hg : (decide (l.length < M) || q)
      · simp at hg
        obtain ⟨hg1, rfl⟩ := hg
        have hR := reads_of_owns hown
        have hval : Hid (val l = val x + val y) := by
          have := h4.out
          rw [take_all x _ (by omega), take_all y _ (by omega)] at this
          show _ = _
          simpa using this
        clear h4 h3
        go_wp2_with fail
        refine (trim_any l _ _ hR).mono ?_
        rintro e w2 ⟨v', rfl, rfl, l', r1, r2, r3, r4⟩
        go_wp2_with fail
        go_ret
        exact ⟨_, rfl, hB, l', r1, r2, r3.trans hval.out, by omega⟩
      · have hlt : l.length ≤ M := by
          rcases Nat.lt_or_ge l.length (M + 1) with h | h
          · omega
          · have e := h3.out (by omega)
            rw [e] at hg
            simp at hg
            omega
        have HG : Hid ((decide (l.length < M) || q) = true) := hg
        clear hg
        have g4 := plus_step x y l q h4.out
        have hs := hB.size
        have hvr := hv.below hB
        have hur := hu.below hB
        have hmaj : Hid (l.length + 1 = M + 1 → maj (x.getD l.length false) (y.getD l.length false) q = false) := fun h => by
          rw [getD_end x _ (by omega), getD_end y _ (by omega)]; cases q <;> rfl
        obtain ⟨bx, hbx⟩ : ∃ bx, Hid (x.getD l.length false = bx) := ⟨_, rfl⟩
        obtain ⟨by', hby⟩ : ∃ by', Hid (y.getD l.length false = by') := ⟨_, rfl⟩
        rw [hbx.out, hby.out] at g4 hmaj
        have G4 : Hid (val (l ++ [(bx != by') != q]) + 2 ^ (l ++ [(bx != by') != q]).length * (maj bx by' q).toNat = val (x.take (l.length + 1)) + val (y.take (l.length + 1))) := g4
        clear g4 h3 h4
        go_wp2_with fail
        refine (at_any x _ l.length _ hvr).mono ?_
        rintro e w2 ⟨rfl, rfl⟩
        rw [hbx.out]
        go_wp2_with fail
        refine (at_any y _ l.length _ hur).mono ?_
        rintro e w2 ⟨rfl, rfl⟩
        rw [hby.out]
        obtain ⟨sb, hsb⟩ : ∃ sb, Hid (((bx != by') != q) = sb) := ⟨_, rfl⟩
        rw [hsb.out] at G4
        go_upto_region 8 with fail
        go_cut [5] from 10 to 48 (fun o wx => wx.ownsRow w.heap.size 4 1 o (l ++ [sb]).length ((l ++ [sb]).map Value.bool) ∧ Below w.heap.size w wx)
        case first =>
          have hsb2 : (!((!(bx == by')) == q)) = sb := by rw [← hsb.out]; rfl
          go_wp2_with (at_builtin; refine wpList_append_own _ rfl _ _ 89 rfl w.heap.size 4 i0 (.bool false) 1 1 Tryz.underlying89 hi hz0 hz1 hz2 rfl (by decide) _ _ _ rfl (hown.alloc _) ⟨_, 0, none⟩ 1 1 [.bool sb] rfl rfl ?c1 ?c2 ?c3 ?c4 ?c5 ?_)
          case c1 => exact cell_one_new _ _ _
          case c2 => exact bits_one [sb]
          case c3 => unfold maxLen; omega
          case c4 => omega
          case c5 => simp; omega
          intro v' w' hown' hgrow _
          have hB' := (hB.alloc (by omega) _).grown hgrow (by simp; omega) (fun k hk => (hown.lt k hk).1)
          have hown2 := owns_snoc hown'
          clear hown' hgrow
          go_wp2_with fail
          go_meet
          case rel => exact ⟨hown2, hB'⟩
        case rest =>
          obtain ⟨hown2, hB2⟩ := hcut
          clear hown hB hs hvr hur
          have R4 : Hid (val (l ++ [sb]) + 2 ^ (l ++ [sb]).length * (maj bx by' q).toNat = val (x.take (l ++ [sb]).length) + val (y.take (l ++ [sb]).length)) := by
            have := G4.out
            rw [List.length_append] at *
            exact this
          have R3 : Hid ((l ++ [sb]).length = M + 1 → maj bx by' q = false) := fun h => hmaj.out (by simpa using h)
          clear G4 hmaj HG hsb hbx hby hv hu
          cases bx <;> cases by' <;> cases q
          all_goals
            go_wp2_with fail
            go_roundw
            case rel => exact ⟨l ++ [sb], maj _ _ _, by simp, rfl, hown2, by simp; omega, R3, R4, hB2⟩
            case measure => simp [intOf]; omega
end Go.Proofs.YtdacfnodihannaaGreat
/-
  Contract of the reference's minus: the difference of two lists of bits, the first not below the second.
-/
namespace Go.Proofs.YtdacfnodihannaaGreat
open Go.ChangeShapes Go.WideShapes Go.ChangeAt Go.RowKit

set_option maxHeartbeats 2000000 in
theorem minusR_any {B C : Nat} (x y : List Bool) (v u : Value) (w : World) (hv : Reads B w v x) (hu : Reads C w u y) (hx : x.length ≤ 1000000) (hle : val y ≤ val x) :
    Calls Tryz.prog 110 #[v, u] w fun e w' => ∃ v', e = .returned v' ∧ Below w.heap.size w w' ∧ ∃ l, Reads w.heap.size w' v' l ∧ Canon l ∧ val l = val x - val y ∧ l.length ≤ x.length := by
  obtain ⟨i0, hi, hz0, hz1, hz2⟩ := info_parts Tryz.infoBool
  have HL : Hid (val y ≤ val x) := hle
  clear hle
  obtain ⟨a, ca, rfl, h1, _, hcell⟩ := id hv
  go_enter Tryz.func110, Tryz.ntmps110
  go_wp2_with fail
  go_loopw [5, 6, 7] (fun o c i wr => ∃ (l : List Bool) (q : Bool), i = .int .i64 (l.length : Int) ∧ c = .bool q ∧ wr.ownsRow w.heap.size 4 1 o l.length (l.map Value.bool) ∧ l.length ≤ x.length ∧ Hid (val (x.take l.length) + 2 ^ l.length * q.toNat = val l + val (y.take l.length)) ∧ Below w.heap.size w wr) (fun _ _ i _ => x.length - (intOf i).toNat)
  case atStart => exact ⟨[], false, rfl, rfl, World.ownsRow_nil _ _ _ _, by simp, by show _ = _; simp [val], Below.refl _ _⟩
  case round =>
    obtain ⟨l, q, rfl, rfl, hown, h2, h4, hB⟩ := hrel
    by_cases hlt : l.length < x.length
    · have t : (l.length : Int) < (x.length : Int) := by omega
      obtain ⟨bl, off, rfl, _, hc⟩ := hcell l.length hlt
      have g4 := minus_step x y l q h4.out
      have hs := hB.size
      have hur := hu.below hB
      have hc' := (hB.cell (World.block_lt_of_cell? _ _ hc)).trans hc
      obtain ⟨bx, hbx⟩ : ∃ bx, Hid (x.getD l.length false = bx) := ⟨_, rfl⟩
      obtain ⟨by', hby⟩ : ∃ by', Hid (y.getD l.length false = by') := ⟨_, rfl⟩
      rw [hbx.out] at hc'
      rw [hbx.out, hby.out] at g4
      have G4 : Hid (val (x.take (l.length + 1)) + 2 ^ (l ++ [(bx != by') != q]).length * (bor bx by' q).toNat = val (l ++ [(bx != by') != q]) + val (y.take (l.length + 1))) := g4
      clear g4 h4 hcell hc
      go_wp2_with fail
      refine (at_any y _ l.length _ hur).mono ?_
      rintro e w2 ⟨rfl, rfl⟩
      rw [hby.out]
      obtain ⟨sb, hsb⟩ : ∃ sb, Hid (((bx != by') != q) = sb) := ⟨_, rfl⟩
      rw [hsb.out] at G4
      go_upto_region 8 with fail
      go_cut [5] from 10 to 47 (fun o wx => wx.ownsRow w.heap.size 4 1 o (l ++ [sb]).length ((l ++ [sb]).map Value.bool) ∧ Below w.heap.size w wx)
      case first =>
        have hsb2 : (!((!(bx == by')) == q)) = sb := by rw [← hsb.out]; rfl
        go_wp2_with (at_builtin; refine wpList_append_own _ rfl _ _ 89 rfl w.heap.size 4 i0 (.bool false) 1 1 Tryz.underlying89 hi hz0 hz1 hz2 rfl (by decide) _ _ _ rfl (hown.alloc _) ⟨_, 0, none⟩ 1 1 [.bool sb] rfl rfl ?c1 ?c2 ?c3 ?c4 ?c5 ?_)
        case c1 => exact cell_one_new _ _ _
        case c2 => exact bits_one [sb]
        case c3 => unfold maxLen; omega
        case c4 => omega
        case c5 => simp; omega
        intro v' w' hown' hgrow _
        have hB' := (hB.alloc (by omega) _).grown hgrow (by simp; omega) (fun k hk => (hown.lt k hk).1)
        have hown2 := owns_snoc hown'
        clear hown' hgrow
        go_wp2_with fail
        go_meet
        case rel => exact ⟨hown2, hB'⟩
      case rest =>
        obtain ⟨hown2, hB2⟩ := hcut
        clear hown hB hs hur hc'
        have R4 : Hid (val (x.take (l ++ [sb]).length) + 2 ^ (l ++ [sb]).length * (bor bx by' q).toNat = val (l ++ [sb]) + val (y.take (l ++ [sb]).length)) := by
          have := G4.out
          rw [List.length_append] at *
          exact this
        clear G4 hsb hbx hby hv hu
        cases bx <;> cases by' <;> cases q
        all_goals
          go_wp2_with fail
          go_roundw
          case rel => exact ⟨l ++ [sb], bor _ _ _, by simp, rfl, hown2, by simp; omega, R4, hB2⟩
          case measure => simp [intOf]; omega
    · have hlen : l.length = x.length := by omega
      have hval : Hid (val l = val x - val y) := minus_end x y l q hlen h4.out HL.out
      have t : ¬ (l.length : Int) < (x.length : Int) := by omega
      have hR := reads_of_owns hown
      clear hlen h4 hcell
      go_wp2_with fail
      refine (trim_any l _ _ hR).mono ?_
      rintro e w2 ⟨v', rfl, rfl, l', r1, r2, r3, r4⟩
      go_wp2_with fail
      go_ret
      exact ⟨_, rfl, hB, l', r1, r2, r3.trans hval.out, by omega⟩
end Go.Proofs.YtdacfnodihannaaGreat
/-
  Contracts of the reference's Add and Neg: sums, and numbers turned about 0, of whole numbers of any length.
-/
namespace Go.Proofs.YtdacfnodihannaaGreat
open Go.ChangeShapes Go.WideShapes Go.ChangeAt Go.RowKit

/-- The sign and the slice are those of the whole number z, of at most n bits, in blocks from B on. -/
def IsNum (B : Nat) (w : World) (s : Bool) (sl : Value) (z : Int) (n : Nat) : Prop := s = decide (z < 0) ∧ ∃ l, Reads B w sl l ∧ Canon l ∧ val l = z.natAbs ∧ l.length ≤ n
theorem IsNum.below {B : Nat} {w w' : World} {s : Bool} {sl : Value} {z : Int} {n : Nat} (h : IsNum B w s sl z n) (hb : Below w.heap.size w w') : IsNum B w' s sl z n := by
  obtain ⟨h0, l, h1, h2⟩ := h
  exact ⟨h0, l, h1.below hb, h2⟩
theorem IsNum.wide {B : Nat} {w : World} {s : Bool} {sl : Value} {z : Int} {n m : Nat} (h : IsNum B w s sl z n) (hm : n ≤ m) : IsNum B w s sl z m := by
  obtain ⟨h0, l, h1, h2, h3, h4⟩ := h
  exact ⟨h0, l, h1, h2, h3, Nat.le_trans h4 hm⟩
theorem bcell2 {W w1 : World} (hb : Below W.heap.size W w1) : (∀ b o, b < W.heap.size → w1.cell? ⟨b, o, none⟩ = W.cell? ⟨b, o, none⟩) ∧ (∀ b o, b < W.heap.size → w1.frozen? ⟨b, o, none⟩ = W.frozen? ⟨b, o, none⟩) :=
  ⟨fun b o h => hb.cell (p := ⟨b, o, none⟩) h, fun b o h => hb.frozen (p := ⟨b, o, none⟩) h⟩

theorem three_new (w : World) (o1 o2 o3 : Obj) : Below w.heap.size w (((w.alloc o1).alloc o2).alloc o3) :=
  (((Below.refl _ _).alloc (Nat.le_refl _) _).alloc (by simp) _).alloc (by simp; omega) _

end Go.Proofs.YtdacfnodihannaaGreat
/-
  A slice of bits appended to one of the call's own, whatever the source; contract of the reference's Mul: products of whole numbers of any length.
-/
namespace Go.Proofs.YtdacfnodihannaaGreat
open Go.ChangeShapes Go.WideShapes Go.ChangeAt Go.RowKit

/-- Nothing is appended. -/
theorem run_append_none {P : Program} (w : World) (base : Nat) (t ty e : TypeId) (i : TypeInfo) (size : Nat) (ht : P.underlying t = some (.slice e)) (hi : P.info? e = some i)
    (v : Value) (n : Nat) (xs : List Value) (hown : w.ownsRow base e size v n xs) (c : Nat) : (Builtin.append_ #[t, t] ty #[v, .slice none 0 c]).run P w = .ok v w := by
  rcases hown.2 with ⟨rfl, rfl⟩ | ⟨g, cap, cur, rfl, hbg, hg, hnc, hcm, hcs, htake⟩
  · simp [Builtin.append_, run_underlying ht, sizeOf, typeInfo, hi, Builtin.lenOf, Builtin.firstCells]
  · simp [Builtin.append_, run_underlying ht, sizeOf, typeInfo, hi, Builtin.lenOf, Builtin.firstCells, hnc, storeCells]
theorem wpList_append_none {P : Program} {w : World} {ops : Array Oper} {rest : List Oper} {o : Oper} {a : Act} {Q : Exit → Act → World → Prop} (hgd : o.guard = none) (s x : Operand) (t : TypeId)
    (ho : o.op = .call { callee := .builtin .append, args := #[s, x], argTypes := #[t, t] }) (v u : Value) (hs : a.eval s = v) (hx : a.eval x = u)
    (hr : ∀ ty, (Builtin.append_ #[t, t] ty #[v, u]).run P w = .ok v w) (h : wpList P ops Q rest (a.put o.dst v) w) : wpList P ops Q (o :: rest) a w :=
  wpList_plain hgd fun K hK => by
    unfold Oper.wp execOp
    simp only [ho, resolve, invoke, builtin, Sem.run_bind, Sem.run_pure, Result.andThen_ok, List.map_toArray, List.map_cons, List.map_nil, hs, hx, hr]
    exact hK _ _ h
theorem grown_refl (w : World) (row : Option Nat) : w.grownBy w row := ⟨rfl, rfl, rfl, Nat.le_refl _, fun _ _ _ => rfl⟩
/-- Bits are appended, from wherever they are read. -/
theorem wpList_append_bits {w : World} {ops : Array Oper} {rest : List Oper} {o : Oper} {a : Act} {Q : Exit → Act → World → Prop} (hgd : o.guard = none) (s x : Operand)
    (ho : o.op = .call { callee := .builtin .append, args := #[s, x], argTypes := #[89, 89] }) (base C : Nat) (v u : Value) (k l : List Bool) (hs : a.eval s = v) (hx : a.eval x = u)
    (hown : w.ownsRow base 4 1 v k.length (k.map Value.bool)) (hu : Reads C w u l) (hk : k.length ≤ 1000000) (hl : l.length ≤ 1000000) (hbase : base ≤ w.heap.size)
    (h : ∀ v' w', w'.ownsRow base 4 1 v' (k ++ l).length ((k ++ l).map Value.bool) → w.grownBy w' v.ownBlock → wpList Tryz.prog ops Q rest (a.put o.dst v') w') : wpList Tryz.prog ops Q (o :: rest) a w := by
  obtain ⟨i0, hi, hz0, hz1, hz2⟩ := info_parts Tryz.infoBool
  obtain ⟨ad, cap, rfl, h1, h2, h3⟩ := hu
  cases ad with
  | none =>
    have hl0 : l = [] := by
      cases l with
      | nil => rfl
      | cons b l => obtain ⟨_, _, e, _⟩ := h3 0 (by simp); cases e
    subst hl0
    refine wpList_append_none hgd s x _ ho v _ hs hx (fun ty => run_append_none w base _ ty _ i0 1 Tryz.underlying89 hi v _ _ hown cap) (h v w ?_ (grown_refl _ _))
    simpa using hown
  | some ad =>
    refine wpList_append_own _ hgd s x _ ho base _ i0 (.bool false) 1 1 Tryz.underlying89 hi hz0 hz1 hz2 rfl (by decide) v _ _ hs hown ad l.length cap (l.map Value.bool) hx (by simp) ?_ (bits_one l) (by unfold maxLen; omega) (by omega) hbase ?_
    · intro j b hj
      rcases List.getElem?_eq_some_iff.1 hj with ⟨hlt, rfl⟩
      have hlt' : j < l.length := by simpa using hlt
      obtain ⟨bl, off, e, _, hc⟩ := h3 j hlt'
      simp only [Option.some.injEq] at e
      subst e
      have e2 : (⟨bl, off, none⟩ : Addr).add j = ⟨bl, off + j, none⟩ := by unfold Addr.add; split <;> simp_all
      rw [e2, hc]
      simp [hlt']
    · intro v' w' hown' hgrow _
      exact h v' w' (by simpa using hown') hgrow
theorem owns_one (w : World) (base : Nat) (b : Bool) (hb : base ≤ w.heap.size) : (w.alloc (.cells #[.bool b] 4)).ownsRow base 4 1 (.slice (some ⟨w.heap.size, 0, none⟩) 1 1) [b].length ([b].map Value.bool) :=
  ⟨by simp, .inr ⟨w.heap.size, 1, #[.bool b], rfl, hb, heap_alloc_new _ _, by simp, by unfold maxLen; omega, by simp, by simp⟩⟩
theorem val_zeros (k : Nat) (l : List Bool) : val (List.replicate k false ++ l) = 2 ^ k * val l := by
  rw [val_append]
  have : val (List.replicate k false) = 0 := val_falses _ (fun i hi => by
    have hi' : i < k := by simpa using hi
    simp [hi'])
  simp [this]

theorem three_cells (w : World) (x0 x1 y0 y1 z0 z1 : Value) (T : TypeId) :
    let W := ((w.alloc (.cells #[x0, x1] T)).alloc (.cells #[y0, y1] T)).alloc (.cells #[z0, z1] T)
    W.cell? ⟨w.heap.size, 0, none⟩ = some x0 ∧ W.cell? ⟨w.heap.size, 1, none⟩ = some x1 ∧ W.cell? ⟨w.heap.size + 1, 0, none⟩ = some y0 ∧ W.cell? ⟨w.heap.size + 1, 1, none⟩ = some y1 ∧
      W.cell? ⟨w.heap.size + 1 + 1, 0, none⟩ = some z0 ∧ W.cell? ⟨w.heap.size + 1 + 1, 1, none⟩ = some z1 ∧ W.frozen? ⟨w.heap.size + 1 + 1, 0, none⟩ = false ∧ W.frozen? ⟨w.heap.size + 1 + 1, 1, none⟩ = false := by
  intro W
  refine ⟨?_, ?_, ?_, ?_, ?_, ?_, ?_, ?_⟩ <;> (show _ = _; simp only [W]; go_simp)
set_option maxHeartbeats 2000000 in
theorem mulL_any {B C : Nat} (s t : Bool) (va vb : Value) (x y : List Bool) (w : World) (hv : Reads B w va x) (hu : Reads C w vb y) (hx : x.length ≤ 10000) (hy : y.length ≤ 10000) :
    Calls Tryz.prog 74 #[.agg #[.bool s, va], .agg #[.bool t, vb]] w fun e w' => ∃ v', e = .returned (.agg #[.bool ((s != t) && !decide (val x * val y = 0)), v']) ∧ Below w.heap.size w w' ∧ ∃ l, Reads w.heap.size w' v' l ∧ Canon l ∧ val l = val x * val y ∧ l.length ≤ x.length + y.length := by
  obtain ⟨a, ca, rfl, _⟩ := id hv
  obtain ⟨b, cb, rfl, k1, k2, hcell⟩ := id hu
  go_enter Tryz.func74, Tryz.ntmps74
  go_upto_region 3 with fail
  obtain ⟨W, hW⟩ : ∃ W, Hid (W = ((w.alloc (.cells #[.bool s, .slice a x.length ca] 91)).alloc (.cells #[.bool t, .slice b y.length cb] 91)).alloc (.cells #[.bool false, .slice none 0 0] 91)) := ⟨_, rfl⟩
  have HWs : Hid (W.heap.size = w.heap.size + 1 + 1 + 1) := by show _ = _; rw [hW.out]; simp
  have hWb : Below w.heap.size w W := by rw [hW.out]; exact three_new _ _ _ _
  obtain ⟨d0, d1, d2, d3, d4, d5, d6, d7⟩ := three_cells w (.bool s) (.slice a x.length ca) (.bool t) (.slice b y.length cb) (.bool false) (.slice none 0 0) 91
  rw [← hW.out] at d0 d1 d2 d3 d4 d5 d6 d7
  rw [← hW.out]
  go_cut [6] from 9 to 43 (fun sh wx => Reads 0 wx sh x ∧ Below W.heap.size W wx)
  case first =>
    go_wp2_with (at_builtin; refine wpList_append_bits rfl _ _ rfl W.heap.size B _ _ [] x rfl rfl (World.ownsRow_nil _ _ _ _) (hv.below hWb) (by simp) (by omega) (Nat.le_refl _) ?_)
    intro v' w' hown hgrow
    have hR := (reads_of_owns hown).mono (Nat.zero_le _)
    have hB := (Below.refl W.heap.size W).grown hgrow (Nat.le_refl _) (fun k hk => by cases hk)
    clear hown hgrow
    go_wp2_with fail
    go_meet
    case rel => exact ⟨hR, hB⟩
  case rest =>
    obtain ⟨hR0, hB0⟩ := hcut
    go_wp2_with fail
    go_loopw [5, 6, 7] (fun o sh i wr => ∃ (k : Nat) (lo : List Bool), i = .int .i64 (k : Int) ∧ k ≤ y.length ∧ Reads W.heap.size wr o lo ∧ Canon lo ∧ lo.length ≤ x.length + k ∧ Hid (val lo = val x * val (y.take k)) ∧ Reads 0 wr sh (List.replicate k false ++ x) ∧ Below W.heap.size W wr) (fun _ _ i _ => y.length - (intOf i).toNat)
    case atStart => exact ⟨0, [], rfl, Nat.zero_le _, reads_nil _ _, canon_nil, by simp, by show _ = _; simp [val], hR0, hB0⟩
    case round =>
      clear hR0 hB0
      obtain ⟨k, lo, rfl, hk, hRo, hcan, hlen, hval, hRs, hB⟩ := hrel
      have hWs := HWs.out
      have e3 := (hB.cell (p := ⟨w.heap.size + 1, 1, none⟩) (by simp; omega)).trans d3
      have e0 := (hB.cell (p := ⟨w.heap.size, 0, none⟩) (by simp; omega)).trans d0
      have e2 := (hB.cell (p := ⟨w.heap.size + 1, 0, none⟩) (by simp; omega)).trans d2
      have e4 := (hB.cell (p := ⟨w.heap.size + 1 + 1, 0, none⟩) (by simp; omega)).trans d4
      have e5 := (hB.cell (p := ⟨w.heap.size + 1 + 1, 1, none⟩) (by simp; omega)).trans d5
      have e6 := (hB.frozen (p := ⟨w.heap.size + 1 + 1, 0, none⟩) (by simp; omega)).trans d6
      have e7 := (hB.frozen (p := ⟨w.heap.size + 1 + 1, 1, none⟩) (by simp; omega)).trans d7
      clear hWs
      by_cases hlt : k < y.length
      · have tk : (k : Int) < (y.length : Int) := by omega
        obtain ⟨bl, off, rfl, _, hc⟩ := hcell k hlt
        have hc1 := (hWb.cell (World.block_lt_of_cell? _ _ hc)).trans hc
        have hc2 := (hB.cell (World.block_lt_of_cell? _ _ hc1)).trans hc1
        have hnext := val_take_next y k
        have HN : Hid (val (y.take (k + 1)) = val (y.take k) + 2 ^ k * (y.getD k false).toNat) := hnext
        have hs := hB.size
        obtain ⟨bit, hbit⟩ : ∃ bit, Hid (y.getD k false = bit) := ⟨_, rfl⟩
        rw [hbit.out] at hc2 HN
        clear hc hc1 hnext hcell
        obtain ⟨a6, n6, c6, rfl⟩ : ∃ a n c, u6 = Value.slice a n c := by
          obtain ⟨a6, c6, e, _⟩ := hRs
          exact ⟨a6, _, c6, e⟩
        obtain ⟨a5, n5, c5, rfl⟩ : ∃ a n c, u5 = Value.slice a n c := by
          obtain ⟨a5, c5, e, _⟩ := hRo
          exact ⟨a5, _, c5, e⟩
        go_upto_if 24 with fail
        go_cut [5] from 13 to 31 (fun o wx => ∃ lo', Reads W.heap.size wx o lo' ∧ Canon lo' ∧ lo'.length ≤ x.length + (k + 1) ∧ Hid (val lo' = val x * val (y.take (k + 1))) ∧ Below W.heap.size W wx ∧ Below wr.heap.size wr wx)
        case first =>
          cases bit
          · go_wp2_with fail
            go_meet
            case rel => exact ⟨lo, hRo, hcan, by omega, by have := HN.out; show val lo = _; rw [this, hval.out]; simp, hB, Below.refl _ _⟩
          · go_wp2_with fail
            refine (plusR_any lo (List.replicate k false ++ x) _ _ _ hRo hRs (by omega) (by simp; omega)).mono ?_
            rintro e w4 ⟨v', rfl, hb4, l', p1, p2, p3, p4⟩
            go_wp2_with fail
            go_meet
            case rel => exact ⟨l', p1.mono hs, p2, by simp at p4; omega, by have := HN.out; show val l' = _; rw [this, p3, hval.out, val_zeros]; simp [Nat.mul_add, Nat.mul_comm], hB.trans (hb4.mono hs), hb4⟩
        case rest =>
          obtain ⟨lo', q1, q2, q3, q4, q5, q6⟩ := hcut
          have hRs2 := hRs.below q6
          have hs2 := q5.size
          clear hRs hRo hB hs e0 e2 e3 e4 e5 e6 e7 hc2 q6 hval hcan
          go_wp2_with (at_builtin; refine wpList_append_bits rfl _ _ rfl W.heap.size 0 _ _ [false] (List.replicate k false ++ x) rfl rfl (owns_one wc W.heap.size false hs2) (hRs2.below ?_) (by simp) (by simp; omega) (by simp; omega) ?_)
          · exact (Below.refl _ _).alloc (Nat.le_refl _) _
          intro v' w' hown hgrow
          have hg : Below wc.heap.size wc w' := ((Below.refl _ _).alloc (Nat.le_refl _) _).grown hgrow (by simp) (fun j hj => by simp [Value.ownBlock] at hj; omega)
          have hown2 : w'.ownsRow W.heap.size 4 1 v' (List.replicate (k + 1) false ++ x).length ((List.replicate (k + 1) false ++ x).map Value.bool) := by
            have e1 : (List.replicate (k + 1) false ++ x).map Value.bool = Value.bool false :: (List.replicate k (Value.bool false) ++ x.map Value.bool) := by simp [List.replicate_succ]
            have e2 : (List.replicate (k + 1) false ++ x).length = k + x.length + 1 := by simp; omega
            rw [e1, e2]; exact hown
          have hR9 := (reads_of_owns hown2).mono (Nat.zero_le W.heap.size)
          have hRo9 := q1.below hg
          have hB9 := q5.trans (hg.mono hs2)
          clear hown hgrow
          go_wp2_with fail
          go_roundw
          case rel => exact ⟨k + 1, lo', by simp, by omega, hRo9, q2, q3, q4, hR9, hB9⟩
          case measure => simp [intOf]; omega
      · have tk : ¬ (k : Int) < (y.length : Int) := by omega
        have hval2 : Hid (val lo = val x * val y) := by
          have := hval.out
          rw [take_all y k (by omega)] at this
          exact this
        obtain ⟨a5, c5, rfl, _⟩ := id hRo
        obtain ⟨ld, hld⟩ : ∃ ld, decide ((0 : Int) < (lo.length : Int)) = ld := ⟨_, rfl⟩
        have HD : Hid ((!decide (val x * val y = 0)) = ld) := by
          show _ = _
          rw [← hld, ← hval2.out]
          rcases Nat.eq_zero_or_pos lo.length with h | h
          · have := (canon_zero lo hcan).1 (List.eq_nil_of_length_eq_zero h)
            rw [h, this]; rfl
          · have : ¬ val lo = 0 := fun e => by have := (canon_zero lo hcan).2 e; rw [this] at h; simp at h
            simp [h, this]
        clear hval hcell
        cases hst : (s != t)
        · have hst' : (!(s == t)) = false := hst
          have HST : Hid ((s != t) = false) := hst
          clear hst
          go_wp2_with fail
          refine bodyPost_ret (v := .agg #[.bool false, .slice a5 lo.length c5]) (by simp [results, Tryz.results74, go_sem, e4, e5]) rfl ⟨_, by rw [HST.out, Bool.false_and], ?_, lo, ?_, hcan, hval2.out, by omega⟩
          · exact ((hWb.trans (hB.mono hWb.size)).setCell (by simp; omega) _).setCell (by simp; omega) _
          · exact ((hRo.setCell (by have := HWs.out; simp; omega) _).setCell (by have := HWs.out; simp; omega) _).mono hWb.size
        · have hst' : (!(s == t)) = true := hst
          have HST : Hid ((s != t) = true) := hst
          clear hst
          cases ld
          · have hnil : Hid (lo = []) := List.eq_nil_of_length_eq_zero (by simpa using hld)
            go_wp2_with fail
            refine bodyPost_ret (v := .agg #[.bool false, .slice a5 lo.length c5]) (by simp [results, Tryz.results74, go_sem, e4, e5]; exact hnil.out) rfl ⟨_, by rw [HST.out, Bool.true_and, HD.out], ?_, lo, ?_, hcan, hval2.out, by omega⟩
            · exact ((hWb.trans (hB.mono hWb.size)).setCell (by simp; omega) _).setCell (by simp; omega) _
            · exact ((hRo.setCell (by have := HWs.out; simp; omega) _).setCell (by have := HWs.out; simp; omega) _).mono hWb.size
          · have hnil : Hid (0 < lo.length) := by show 0 < lo.length; simpa using hld
            go_wp2_with fail
            refine bodyPost_ret (v := .agg #[.bool true, .slice a5 lo.length c5]) (by simp [results, Tryz.results74, go_sem, e4, e5]; exact hnil.out) rfl ⟨_, by rw [HST.out, Bool.true_and, HD.out], ?_, lo, ?_, hcan, hval2.out, by omega⟩
            · exact ((hWb.trans (hB.mono hWb.size)).setCell (by simp; omega) _).setCell (by simp; omega) _
            · exact ((hRo.setCell (by have := HWs.out; simp; omega) _).setCell (by have := HWs.out; simp; omega) _).mono hWb.size

theorem sign_mul (x y : Int) : ((decide (x < 0) != decide (y < 0)) && !decide ((x * y).natAbs = 0)) = decide (x * y < 0) := by
  by_cases cx : x < 0
  · by_cases cy : y < 0
    · have h := Int.mul_pos_of_neg_of_neg cx cy
      rw [decide_eq_true cx, decide_eq_true cy, decide_eq_false (show ¬ x * y < 0 by omega)]; rfl
    · by_cases c0 : y = 0
      · subst c0; simp
      · have h := Int.mul_neg_of_neg_of_pos cx (show 0 < y by omega)
        rw [decide_eq_true cx, decide_eq_false cy, decide_eq_true h, decide_eq_false (show ¬ (x * y).natAbs = 0 by omega)]; rfl
  · by_cases cy : y < 0
    · by_cases c0 : x = 0
      · subst c0; simp
      · have h := Int.mul_neg_of_pos_of_neg (show 0 < x by omega) cy
        rw [decide_eq_false cx, decide_eq_true cy, decide_eq_true h, decide_eq_false (show ¬ (x * y).natAbs = 0 by omega)]; rfl
    · have h := Int.mul_nonneg (show 0 ≤ x by omega) (show 0 ≤ y by omega)
      rw [decide_eq_false cx, decide_eq_false cy, decide_eq_false (show ¬ x * y < 0 by omega)]; rfl
theorem mulR_any {B C : Nat} (s t : Bool) (va vb : Value) (x y : Int) (n m : Nat) (w : World) (hv : IsNum B w s va x n) (hu : IsNum C w t vb y m) (hn : n ≤ 10000) (hm : m ≤ 10000) :
    Calls Tryz.prog 74 #[.agg #[.bool s, va], .agg #[.bool t, vb]] w fun e w' => ∃ r v', e = .returned (.agg #[.bool r, v']) ∧ Below w.heap.size w w' ∧ IsNum w.heap.size w' r v' (x * y) (n + m) := by
  obtain ⟨hs, l, h1, h2, h3, h4⟩ := hv
  obtain ⟨ht, k, k1, k2, k3, k4⟩ := hu
  refine (mulL_any s t va vb l k w h1 k1 (by omega) (by omega)).mono ?_
  rintro e w' ⟨v', rfl, hb, q, q1, q2, q3, q4⟩
  refine ⟨_, _, rfl, hb, ?_, q, q1, q2, ?_, by omega⟩
  · rw [h3, k3, hs, ht, ← Int.natAbs_mul]
    exact sign_mul x y
  · rw [q3, h3, k3, Int.natAbs_mul]
end Go.Proofs.YtdacfnodihannaaGreat
/-
  Contract of the reference's div: the quotient and the rest of two lists of bits, the second not nought.
-/
namespace Go.Proofs.YtdacfnodihannaaGreat
open Go.ChangeShapes Go.WideShapes Go.ChangeAt Go.RowKit Go.Deep

theorem canon_len (l : List Bool) (h : Canon l) (k : Nat) (hv : val l < 2 ^ k) : l.length ≤ k := by
  by_cases hn : l = []
  · subst hn; simp
  · have h1 := canon_ge l h hn
    have h2 : 2 ^ (l.length - 1) < 2 ^ k := by omega
    have := (Nat.pow_lt_pow_iff_right (by omega : 1 < 2)).1 h2
    omega
theorem bval_drop (l : List Bool) (j : Nat) (hj : j < l.length) : val (l.drop j) = (l.getD j false).toNat + 2 * val (l.drop (j + 1)) := by
  rw [List.drop_eq_getElem_cons hj]
  simp [val, hj]
/-- One digit of the division. -/
theorem div_yes (X R Q D b : Nat) (hq : X / D = Q) (hr : X % D = R) (h : D ≤ b + 2 * R) (hb : b ≤ 1) (hD : 0 < D) : (b + 2 * X) / D = 1 + 2 * Q ∧ (b + 2 * X) % D = b + 2 * R - D := by
  have e := Nat.div_add_mod X D
  have hlt := Nat.mod_lt X hD
  rw [hq, hr] at e
  rw [hr] at hlt
  have e2 : b + 2 * X = D * (1 + 2 * Q) + (b + 2 * R - D) := by
    rw [Nat.mul_add, ← Nat.mul_assoc, Nat.mul_comm D 2, Nat.mul_assoc]
    generalize D * Q = m at *
    omega
  rw [e2, Nat.mul_add_div hD, Nat.mul_add_mod, Nat.div_eq_of_lt (by omega), Nat.mod_eq_of_lt (by omega)]
  exact ⟨rfl, rfl⟩
theorem div_no (X R Q D b : Nat) (hq : X / D = Q) (hr : X % D = R) (h : b + 2 * R < D) (hD : 0 < D) : (b + 2 * X) / D = 2 * Q ∧ (b + 2 * X) % D = b + 2 * R := by
  have e := Nat.div_add_mod X D
  rw [hq, hr] at e
  have e2 : b + 2 * X = D * (2 * Q) + (b + 2 * R) := by
    rw [← Nat.mul_assoc, Nat.mul_comm D 2, Nat.mul_assoc]
    generalize D * Q = m at *
    omega
  rw [e2, Nat.mul_add_div hD, Nat.mul_add_mod, Nat.div_eq_of_lt h, Nat.mod_eq_of_lt h]
  exact ⟨rfl, rfl⟩
theorem drop_set (O : List Bool) (j : Nat) (b : Bool) : (O.set j b).drop (j + 1) = O.drop (j + 1) := by
  rw [List.drop_set]; simp
theorem getD_set_ne (O : List Bool) (i j : Nat) (b : Bool) (h : i ≠ j) : (O.set j b).getD i false = O.getD i false := by
  simp [Ne.symm h]
/-- Cells that hold bits. -/
def Cells (w : World) (G : Nat) (O : List Bool) : Prop := (∀ i, i < O.length → w.cell? ⟨G, i, none⟩ = some (.bool (O.getD i false))) ∧ (∀ i, w.frozen? ⟨G, i, none⟩ = false)
theorem Cells.below {w w' : World} {G : Nat} {O : List Bool} (h : Cells w G O) (hG : G < w.heap.size) (hb : Below w.heap.size w w') : Cells w' G O :=
  ⟨fun i hi => (hb.cell (p := ⟨G, i, none⟩) hG).trans (h.1 i hi), fun i => (hb.frozen (p := ⟨G, i, none⟩) hG).trans (h.2 i)⟩
theorem Cells.set {w : World} {G : Nat} {O : List Bool} (h : Cells w G O) (j : Nat) (b : Bool) : Cells (w.setCell ⟨G, j, none⟩ (.bool b)) G (O.set j b) := by
  refine ⟨fun i hi => ?_, fun i => by rw [World.frozen?_setCell]; exact h.2 i⟩
  have hi' : i < O.length := by simpa using hi
  by_cases e : i = j
  · subst e
    rw [World.cell?_setCell_same _ _ _ (h.1 i hi')]
    simp [hi']
  · rw [World.cell?_setCell_other _ _ _ _ (fun c => e (by cases c; rfl)), h.1 i hi']
    simp [Ne.symm e]
theorem Cells.reads {w : World} {G : Nat} {O : List Bool} (h : Cells w G O) (hn : O.length ≤ 1000000) : Reads G w (.slice (some ⟨G, 0, none⟩) O.length O.length) O :=
  ⟨_, _, rfl, Nat.le_refl _, by unfold maxLen; omega, fun i hi => ⟨G, 0, rfl, Nat.le_refl _, by rw [Nat.zero_add]; exact h.1 i hi⟩⟩
theorem made_cells (w : World) (n : Nat) : Cells (w.alloc (.cells (madeCells #[.bool false] n) 4)) w.heap.size (List.replicate n false) := by
  refine ⟨fun i hi => ?_, fun i => by go_simp⟩
  have hi' : i < n := by simpa using hi
  rw [World.cell?_alloc_at _ _ _ _ rfl]
  have : (madeCells #[Value.bool false] n)[i]? = (madeCells #[Value.bool false] n).toList[i]? := by simp
  rw [this, toList_madeCells_one]
  simp [hi']

set_option maxRecDepth 100000 in
set_option maxHeartbeats 4000000 in
theorem divR_any {B C : Nat} (x y : List Bool) (v u : Value) (w : World) (hv : Reads B w v x) (hu : Reads C w u y) (hx : x.length ≤ 1000) (hy : y.length ≤ 1000) (hy0 : 0 < val y) :
    Calls Tryz.prog 93 #[v, u] w fun e w' => ∃ q r, e = .returned (.tuple #[q, r]) ∧ Below w.heap.size w w' ∧ (∃ lq, Reads w.heap.size w' q lq ∧ Canon lq ∧ val lq = val x / val y ∧ lq.length ≤ x.length) ∧ ∃ lr, Reads w.heap.size w' r lr ∧ Canon lr ∧ val lr = val x % val y ∧ lr.length ≤ y.length := by
  obtain ⟨a, ca, rfl, h1, h2, hcell⟩ := id hv
  obtain ⟨D, hD⟩ : ∃ D, Hid (val y = D) := ⟨_, rfl⟩
  have hD0 : Hid (0 < D) := by show 0 < D; rw [← hD.out]; exact hy0
  clear hy0
  have hmk := run_make_row' (P := Tryz.prog) 89 4 (.bool false) 1 Tryz.underlying89 Tryz.infoBool rfl .i64 .i64 x.length (by omega) (by omega)
  obtain ⟨W, hW⟩ : ∃ W, Hid (W = w.alloc (.cells (madeCells #[.bool false] x.length) 4)) := ⟨_, rfl⟩
  have c0 : Cells W w.heap.size (List.replicate x.length false) := by rw [hW.out]; exact made_cells w x.length
  have hWb : Below w.heap.size w W := by rw [hW.out]; exact (Below.refl _ _).alloc (Nat.le_refl _) _
  have hWs : w.heap.size < W.heap.size := by rw [hW.out]; simp
  go_enter Tryz.func93, Tryz.ntmps93
  go_wp2_with fail
  rw [← hW.out]
  go_loopw [7, 8] (fun rv i wr => ∃ (k : Nat) (O rl : List Bool), i = .int .i64 ((k : Int) - 1) ∧ k ≤ x.length ∧ Hid (O.length = x.length) ∧ Hid (Cells wr w.heap.size O) ∧ Hid (∀ j, j < k → O.getD j false = false) ∧ Hid (val (O.drop k) = val (x.drop k) / D) ∧ Reads (w.heap.size + 1) wr rv rl ∧ Canon rl ∧ Hid (val rl = val (x.drop k) % D) ∧ w.heap.size < wr.heap.size ∧ Below w.heap.size w wr) (fun _ i _ => (intOf i + 1).toNat)
  case atStart => exact ⟨x.length, List.replicate x.length false, [], rfl, Nat.le_refl _, by show _ = _; simp, c0, fun j hj => by simp [hj], by show _ = _; simp [val], reads_nil _ _, canon_nil, by show _ = _; simp [val], hWs, hWb⟩
  case round =>
    clear c0 hWb hWs
    obtain ⟨k, O, rl, rfl, hk, hOl, hO, hOz, hOv, hR, hcan, hrv, hs, hB⟩ := hrel
    obtain ⟨a7, n7, c7, rfl⟩ : ∃ a n c, u7 = Value.slice a n c := by
      obtain ⟨a, c, e, _⟩ := hR
      exact ⟨a, _, c, e⟩
    rcases Nat.eq_zero_or_pos k with rfl | hp
    · have hOr := (hO.out.reads (by rw [hOl.out]; omega)).mono (Nat.le_refl w.heap.size)
      rw [hOl.out] at hOr
      have hqv : Hid (val O = val x / D) := by have := hOv.out; rw [List.drop_zero, List.drop_zero] at this; exact this
      have hrv2 : Hid (val rl = val x % D) := by have := hrv.out; rw [List.drop_zero] at this; exact this
      clear hcell
      go_wp2_with fail
      refine (trim_any O _ _ hOr).mono ?_
      rintro e w2 ⟨v', rfl, rfl, l', t1, t2, t3, t4⟩
      go_wp2_with fail
      go_ret2
      refine ⟨_, _, rfl, hB, ⟨l', t1, t2, ?_, by have := hOl.out; omega⟩, rl, hR.mono (by omega), hcan, ?_, ?_⟩
      · rw [hD.out, t3, hqv.out]
      · rw [hD.out, hrv2.out]
      · refine canon_len rl hcan y.length (Nat.lt_trans ?_ (val_lt y))
        rw [hD.out, hrv2.out]
        exact Nat.mod_lt _ hD0.out
    · obtain ⟨j, rfl⟩ : ∃ j, k = j + 1 := ⟨k - 1, by omega⟩
      have ej : ((j + 1 : Nat) : Int) - 1 = (j : Int) := by omega
      rw [ej]
      clear ej
      have tj : (0 : Int) ≤ (j : Int) := by omega
      have tl : (j : Int) < (x.length : Int) := by omega
      obtain ⟨bl, off, rfl, _, hc⟩ := hcell j (by omega)
      have hc1 := (hB.cell (World.block_lt_of_cell? _ _ hc)).trans hc
      have hxd := bval_drop x j (by omega)
      have hod : Hid (val (O.drop j) = 2 * val (O.drop (j + 1))) := by
        show _ = _
        rw [bval_drop O j (by have := hOl.out; omega), hOz.out j (by omega)]; simp
      have hrlen : rl.length ≤ y.length := by
        refine canon_len rl hcan y.length (Nat.lt_trans ?_ (val_lt y))
        rw [hD.out, hrv.out]
        exact Nat.mod_lt _ hD0.out
      obtain ⟨b, hb⟩ : ∃ b, Hid (x.getD j false = b) := ⟨_, rfl⟩
      rw [hb.out] at hc1 hxd
      have HX : Hid (val (x.drop j) = b.toNat + 2 * val (x.drop (j + 1))) := hxd
      clear hxd hcell hc
      have hb1 : b.toNat ≤ 1 := by cases b <;> simp
      have hB1 : Hid (b.toNat ≤ 1) := hb1
      clear hb1
      go_wp2_with (at_builtin; refine wpList_append_bits rfl _ _ rfl wr.heap.size (w.heap.size + 1) _ _ [b] rl rfl rfl (owns_one wr wr.heap.size b (Nat.le_refl _)) (hR.below ?_) (by simp) (by omega) (by simp) ?_)
      · exact (Below.refl _ _).alloc (Nat.le_refl _) _
      intro v3 w3 hown hgrow
      have hg : Below wr.heap.size wr w3 := ((Below.refl _ _).alloc (Nat.le_refl _) _).grown hgrow (by simp) (fun j hj => by simp [Value.ownBlock] at hj; omega)
      have hR3 : Reads wr.heap.size w3 v3 (b :: rl) := reads_of_owns (by simpa using hown)
      clear hown hgrow
      go_wp2_with fail
      refine (trim_any (b :: rl) _ _ hR3).mono ?_
      rintro e w4 ⟨v4, rfl, rfl, l4, t1, t2, t3, t4⟩
      have hl4 : l4.length ≤ 1001 := by simp at t4; omega
      have H4 : Hid (val l4 = b.toNat + 2 * val rl) := t3
      have hO3 := hO.out.below hs hg
      have hs3 := hg.size
      obtain ⟨a4, n4, c4, rfl⟩ : ∃ a n c, v4 = Value.slice a n c := by
        obtain ⟨a, c, e, _⟩ := t1
        exact ⟨a, _, c, e⟩
      clear t3 t4 hR3 hR hcan
      go_wp2_with fail
      refine (cmp_any l4 y _ _ _ t1 ((hu.below hB).below hg)).mono ?_
      rintro e w5 ⟨rfl, rfl⟩
      by_cases hge : D ≤ b.toNat + 2 * val rl
      · have hcm : decide ((0 : Int) ≤ cmpI (val l4) (val y)) = true := by
          rw [H4.out, hD.out]; unfold cmpI; rw [if_neg (by omega)]; split <;> rfl
        obtain ⟨n1, n2⟩ := div_yes (val (x.drop (j + 1))) (val rl) _ D b.toNat rfl hrv.out.symm hge hB1.out hD0.out
        have hle : Hid (val y ≤ val l4) := by show _ ≤ _; rw [H4.out, hD.out]; exact hge
        have HQ : Hid (val ((O.set j true).drop j) = val (x.drop j) / D) := by
          show _ = _
          rw [bval_drop _ j (by have := hOl.out; simp; omega), drop_set, HX.out, n1, hOv.out]
          have : (O.set j true).getD j false = true := by have := hOl.out; simp [show j < O.length by omega]
          rw [this]; rfl
        have HR : Hid (val l4 - val y = val (x.drop j) % D) := by show _ = _; rw [HX.out, n2, H4.out, hD.out]
        have hck := hO3.1 j (by have := hOl.out; omega)
        have hfk := hO3.2 j
        rw [hOz.out j (by omega)] at hck
        clear n1 n2 hge hOv hod hrv
        generalize cmpI (val l4) (val y) = cm at *
        go_wp2_with fail
        refine (minusR_any l4 y _ _ _ t1 ((hu.below hB).below hg) (by omega) hle.out).mono ?_
        rintro e w6 ⟨v6, rfl, hb6, l6, m1, m2, m3, m4⟩
        have hck6 := (hb6.cell (World.block_lt_of_cell? _ _ hck)).trans hck
        have hlt5 : w.heap.size < w5.heap.size := by omega
        have hfk6 := (hb6.frozen (p := ⟨w.heap.size, j, none⟩) hlt5).trans hfk
        have hO6 := hO3.below hlt5 hb6
        have hOs := hO6.set j true
        have hs6 := hb6.size
        have HO : Hid (Cells (w6.setCell ⟨w.heap.size, j, none⟩ (.bool true)) w.heap.size (O.set j true)) := hOs
        have H6 : Hid (val l6 = val (x.drop j) % D) := m3.trans HR.out
        clear hck hfk hO6 hO3 hOs m3 hO
        go_wp2_with fail
        go_roundw
        case rel => exact ⟨j, O.set j true, l6, rfl, by omega, by show _ = _; rw [List.length_set]; exact hOl.out, HO, fun i hi => (getD_set_ne O i j true (by omega)).trans (hOz.out i (by omega)), HQ, (m1.mono (by omega)).setCell (by simp) _, m2, H6, by simp; omega, ((hB.trans (hg.mono (by omega))).trans (hb6.mono (by omega))).setCell (by simp) _⟩
        case measure => simp [intOf]
      · have hcm : decide ((0 : Int) ≤ cmpI (val l4) (val y)) = false := by
          rw [H4.out, hD.out]; unfold cmpI; rw [if_pos (by omega)]; rfl
        obtain ⟨n1, n2⟩ := div_no (val (x.drop (j + 1))) (val rl) _ D b.toNat rfl hrv.out.symm (by omega) hD0.out
        have HQ : Hid (val (O.drop j) = val (x.drop j) / D) := by show _ = _; rw [hod.out, HX.out, n1, hOv.out]
        have HR : Hid (val l4 = val (x.drop j) % D) := by show _ = _; rw [HX.out, n2, H4.out]
        have HO : Hid (Cells w5 w.heap.size O) := hO3
        clear n1 n2 hge hOv hod hrv hO3 hO
        generalize cmpI (val l4) (val y) = cm at *
        go_wp2_with fail
        go_roundw
        case rel => exact ⟨j, O, l4, rfl, by omega, hOl, HO, fun i hi => hOz.out i (by omega), HQ, t1.mono (by omega), t2, HR, by omega, hB.trans (hg.mono (by omega))⟩
        case measure => simp [intOf]
end Go.Proofs.YtdacfnodihannaaGreat
/-
  Contracts of the reference's Int and Told and of the statements' told: a whole number is told as itself, or refused where it has no room.
-/
namespace Go.Proofs.YtdacfnodihannaaGreat
open Go.ChangeShapes Go.WideShapes Go.ChangeAt Go.RowKit

theorem val_drop (l : List Bool) (j : Nat) (hj : j < l.length) : val (l.drop j) = (l.getD j false).toNat + 2 * val (l.drop (j + 1)) := by
  rw [List.drop_eq_getElem_cons hj]
  simp [val, hj]
theorem val_drop_lt (l : List Bool) (j : Nat) (h : l.length ≤ 64) : val (l.drop j) < 18446744073709551616 := by
  have h1 := val_lt (l.drop j)
  have h2 : 2 ^ (l.drop j).length ≤ 2 ^ 64 := Nat.pow_le_pow_right (by omega) (by simp; omega)
  exact Nat.lt_of_lt_of_le h1 h2

set_option maxHeartbeats 1000000 in
theorem intR_long {B : Nat} (s : Bool) (va : Value) (l : List Bool) (w : World) (hv : Reads B w va l) (hl : 64 < l.length) :
    Calls Tryz.prog 77 #[.agg #[.bool s, va]] w fun e w' => e = .returned (.tuple #[.int .i64 0, .bool false]) ∧ Below w.heap.size w w' := by
  obtain ⟨a, ca, rfl, h1, h2, _⟩ := id hv
  unfold maxLen at h2
  have t : (64 : Int) < (l.length : Int) := by omega
  go_enter Tryz.func77, Tryz.ntmps77
  go_wp2
  go_ret2
  exact ⟨rfl, (Below.refl _ _).alloc (Nat.le_refl _) _⟩

set_option maxHeartbeats 1000000 in
theorem intR_pos {B : Nat} (va : Value) (l : List Bool) (w : World) (hv : Reads B w va l) (hl : l.length ≤ 64) :
    Calls Tryz.prog 77 #[.agg #[.bool false, va]] w fun e w' => e = .returned (.tuple #[.int .i64 (wrap64 (val l : Int)), .bool (decide ((val l : Int) < 9223372036854775808))]) ∧ Below w.heap.size w w' := by
  obtain ⟨a, ca, rfl, h1, h2, hcell⟩ := id hv
  have t : ¬ (64 : Int) < (l.length : Int) := by omega
  go_enter Tryz.func77, Tryz.ntmps77
  go_wp2_with fail
  go_loop [4, 5] (fun m i => ∃ k : Nat, i = .int .i64 ((k : Int) - 1) ∧ k ≤ l.length ∧ m = .int .u64 (val (l.drop k) : Int)) (fun _ i => (intOf i + 1).toNat)
  case atStart => exact ⟨l.length, rfl, Nat.le_refl _, by simp [val]⟩
  case round =>
    obtain ⟨k, rfl, hk, rfl⟩ := hrel
    rcases Nat.eq_zero_or_pos k with rfl | hp
    · have hb := val_drop_lt l 0 hl
      rw [List.drop_zero] at *
      go_wp2_with fail
      go_ret2
      exact ⟨rfl, (Below.refl _ _).alloc (Nat.le_refl _) _⟩
    · obtain ⟨j, rfl⟩ : ∃ j, k = j + 1 := ⟨k - 1, by omega⟩
      have ej : ((j + 1 : Nat) : Int) - 1 = (j : Int) := by omega
      rw [ej]
      clear ej
      have tj : (0 : Int) ≤ (j : Int) := by omega
      obtain ⟨b, off, rfl, _, hc⟩ := hcell j (by omega)
      have hblk := World.block_lt_of_cell? _ _ hc
      have hd := val_drop l j (by omega)
      have hb := val_drop_lt l j hl
      have tl : (j : Int) < (l.length : Int) := by omega
      have HD : Hid (val (l.drop j) = (l.getD j false).toNat + 2 * val (l.drop (j + 1))) := hd
      have hm : val (l.drop (j + 1)) ≤ 9223372036854775807 := by omega
      clear hd hb
      generalize val (l.drop (j + 1)) = m at *
      cases hbit : l.getD j false
      · rw [hbit] at hc
        have HD2 : Hid (val (l.drop j) = 2 * m) := by have := HD.out; rw [hbit] at this; show _ = _; simpa using this
        clear HD hbit
        go_wp2_with fail
        go_round
        case rel => exact ⟨j, rfl, by omega, congrArg (Value.int .u64) (by rw [HD2.out]; omega)⟩
        case measure => simp [intOf]
      · rw [hbit] at hc
        have HD2 : Hid (val (l.drop j) = 1 + 2 * m) := by have := HD.out; rw [hbit] at this; show _ = _; simpa using this
        clear HD hbit
        go_wp2_with fail
        go_round
        case rel => exact ⟨j, rfl, by omega, congrArg (Value.int .u64) (by rw [HD2.out]; omega)⟩
        case measure => simp [intOf]

set_option maxHeartbeats 1000000 in
theorem intR_neg {B : Nat} (va : Value) (l : List Bool) (w : World) (hv : Reads B w va l) (hl : l.length ≤ 64) :
    Calls Tryz.prog 77 #[.agg #[.bool true, va]] w fun e w' => e = .returned (.tuple #[.int .i64 (wrap64 (IntKind.u64.wrap (-(val l : Int)))), .bool (decide ((val l : Int) ≤ 9223372036854775808))]) ∧ Below w.heap.size w w' := by
  obtain ⟨a, ca, rfl, h1, h2, hcell⟩ := id hv
  have t : ¬ (64 : Int) < (l.length : Int) := by omega
  go_enter Tryz.func77, Tryz.ntmps77
  go_wp2_with fail
  go_loop [4, 5] (fun m i => ∃ k : Nat, i = .int .i64 ((k : Int) - 1) ∧ k ≤ l.length ∧ m = .int .u64 (val (l.drop k) : Int)) (fun _ i => (intOf i + 1).toNat)
  case atStart => exact ⟨l.length, rfl, Nat.le_refl _, by simp [val]⟩
  case round =>
    obtain ⟨k, rfl, hk, rfl⟩ := hrel
    rcases Nat.eq_zero_or_pos k with rfl | hp
    · have hb := val_drop_lt l 0 hl
      rw [List.drop_zero] at *
      go_wp2_with fail
      go_ret2
      exact ⟨rfl, (Below.refl _ _).alloc (Nat.le_refl _) _⟩
    · obtain ⟨j, rfl⟩ : ∃ j, k = j + 1 := ⟨k - 1, by omega⟩
      have ej : ((j + 1 : Nat) : Int) - 1 = (j : Int) := by omega
      rw [ej]
      clear ej
      have tj : (0 : Int) ≤ (j : Int) := by omega
      obtain ⟨b, off, rfl, _, hc⟩ := hcell j (by omega)
      have hblk := World.block_lt_of_cell? _ _ hc
      have hd := val_drop l j (by omega)
      have hb := val_drop_lt l j hl
      have tl : (j : Int) < (l.length : Int) := by omega
      have HD : Hid (val (l.drop j) = (l.getD j false).toNat + 2 * val (l.drop (j + 1))) := hd
      have hm : val (l.drop (j + 1)) ≤ 9223372036854775807 := by omega
      clear hd hb
      generalize val (l.drop (j + 1)) = m at *
      cases hbit : l.getD j false
      · rw [hbit] at hc
        have HD2 : Hid (val (l.drop j) = 2 * m) := by have := HD.out; rw [hbit] at this; show _ = _; simpa using this
        clear HD hbit
        go_wp2_with fail
        go_round
        case rel => exact ⟨j, rfl, by omega, congrArg (Value.int .u64) (by rw [HD2.out]; omega)⟩
        case measure => simp [intOf]
      · rw [hbit] at hc
        have HD2 : Hid (val (l.drop j) = 1 + 2 * m) := by have := HD.out; rw [hbit] at this; show _ = _; simpa using this
        clear HD hbit
        go_wp2_with fail
        go_round
        case rel => exact ⟨j, rfl, by omega, congrArg (Value.int .u64) (by rw [HD2.out]; omega)⟩
        case measure => simp [intOf]

theorem room_pos (z : Int) (l : List Bool) (hz : ¬ z < 0) (h : val l = z.natAbs) {x : Value} : Ending.returned (.tuple #[x, .bool (decide ((val l : Int) < 9223372036854775808))]) = .returned (.tuple #[x, .bool (decide (-9223372036854775808 ≤ z ∧ z ≤ 9223372036854775807))]) := by
  have e : decide ((val l : Int) < 9223372036854775808) = decide (-9223372036854775808 ≤ z ∧ z ≤ 9223372036854775807) := decide_eq_decide.2 (by omega)
  rw [e]
theorem room_neg (z : Int) (l : List Bool) (hz : z < 0) (h : val l = z.natAbs) {x : Value} : Ending.returned (.tuple #[x, .bool (decide ((val l : Int) ≤ 9223372036854775808))]) = .returned (.tuple #[x, .bool (decide (-9223372036854775808 ≤ z ∧ z ≤ 9223372036854775807))]) := by
  have e : decide ((val l : Int) ≤ 9223372036854775808) = decide (-9223372036854775808 ≤ z ∧ z ≤ 9223372036854775807) := decide_eq_decide.2 (by omega)
  rw [e]
/-- What Int answers, in all: the number and that it has room, or no room. -/
theorem intR_any {B : Nat} (s : Bool) (va : Value) (z : Int) (n : Nat) (w : World) (hv : IsNum B w s va z n) :
    Calls Tryz.prog 77 #[.agg #[.bool s, va]] w fun e w' => ∃ x, e = .returned (.tuple #[.int .i64 x, .bool (decide (-9223372036854775808 ≤ z ∧ z ≤ 9223372036854775807))]) ∧ Below w.heap.size w w' ∧ (-9223372036854775808 ≤ z ∧ z ≤ 9223372036854775807 → x = z) := by
  obtain ⟨hs, l, h1, h2, h3, h4⟩ := hv
  by_cases hl : l.length ≤ 64
  · have hlt := val_drop_lt l 0 hl
    rw [List.drop_zero] at hlt
    cases s
    · have hz : ¬ z < 0 := by simpa using hs.symm
      refine (intR_pos va l w h1 hl).mono ?_
      rintro e w' ⟨rfl, hb⟩
      exact ⟨_, room_pos z l hz h3, hb, fun h => by unfold wrap64; omega⟩
    · have hz : z < 0 := by simpa using hs.symm
      refine (intR_neg va l w h1 hl).mono ?_
      rintro e w' ⟨rfl, hb⟩
      exact ⟨_, room_neg z l hz h3, hb, fun h => by rw [IntKind.wrap_u64]; unfold wrap64; omega⟩
  · refine (intR_long s va l w h1 (by omega)).mono ?_
    rintro e w' ⟨rfl, hb⟩
    have hge := canon_ge l h2 (fun e => by rw [e] at hl; simp at hl)
    have hp : 2 ^ 64 ≤ 2 ^ (l.length - 1) := Nat.pow_le_pow_right (by omega) (by omega)
    have hbig : 18446744073709551616 ≤ z.natAbs := by omega
    refine ⟨0, ?_, hb, fun h => by omega⟩
    rw [show decide (-9223372036854775808 ≤ z ∧ z ≤ 9223372036854775807) = false by simp; omega]

set_option maxHeartbeats 400000 in
theorem toldR_any {B : Nat} (s : Bool) (va : Value) (z : Int) (n : Nat) (w : World) (hv : IsNum B w s va z n) :
    Calls Tryz.prog 80 #[.agg #[.bool s, va]] w fun e w' => e = .returned (.tuple #[.int .i64 (ansN z), .int .i64 (ansE z)]) ∧ Below w.heap.size w w' := by
  obtain ⟨a, N, ca, rfl⟩ : ∃ a N ca, va = .slice a N ca := by
    obtain ⟨_, l, ⟨a, ca, e, _⟩, _⟩ := hv
    exact ⟨a, _, ca, e⟩
  have hb0 : ∀ o : Obj, Below w.heap.size w (w.alloc o) := fun o => (Below.refl _ _).alloc (Nat.le_refl _) _
  by_cases hz : -9223372036854775808 ≤ z ∧ z ≤ 9223372036854775807
  · have e1 : Hid (ansN z = z) := by show _ = _; unfold ansN; exact if_pos hz
    have e2 : Hid (ansE z = 0) := by show _ = _; unfold ansE; exact if_pos hz
    have e3 : Hid (decide (-9223372036854775808 ≤ z ∧ z ≤ 9223372036854775807) = true) := by show _ = _; simp [hz]
    have HZ : Hid (-9223372036854775808 ≤ z ∧ z ≤ 9223372036854775807) := hz
    clear hz
    go_enter Tryz.func80, Tryz.ntmps80
    go_wp2_with fail
    refine (intR_any (B := B) s _ z n _ ?_).mono ?_
    · exact hv.below (hb0 _)
    rintro e w1 ⟨x, rfl, hb1, hx⟩
    rw [e3.out, hx HZ.out]
    clear hx
    go_wp2_with fail
    go_ret2
    exact ⟨by rw [e1.out, e2.out]; rfl, (hb0 _).trans (hb1.mono (by simp))⟩
  · have e1 : Hid (ansN z = 0) := by show _ = _; unfold ansN; exact if_neg hz
    have e2 : Hid (ansE z = 10) := by show _ = _; unfold ansE; exact if_neg hz
    have e3 : Hid (decide (-9223372036854775808 ≤ z ∧ z ≤ 9223372036854775807) = false) := by show _ = _; simpa using hz
    clear hz
    go_enter Tryz.func80, Tryz.ntmps80
    go_wp2_with fail
    refine (intR_any (B := B) s _ z n _ ?_).mono ?_
    · exact hv.below (hb0 _)
    rintro e w1 ⟨x, rfl, hb1, hx⟩
    rw [e3.out]
    clear hx
    go_wp2_with fail
    go_ret2
    exact ⟨by rw [e1.out, e2.out]; rfl, (hb0 _).trans (hb1.mono (by simp))⟩

end Go.Proofs.YtdacfnodihannaaGreat
/-
  Contracts of the reference's Part and Fraction: the whole number next below or next above a fraction.
-/
namespace Go.Proofs.YtdacfnodihannaaGreat
open Go.ChangeShapes Go.WideShapes Go.ChangeAt Go.RowKit

/-- The size of the fraction's whole number, and its sign. -/
theorem frac_size (p c : Int) (up : Bool) (q : Nat) (hq : q = p.natAbs / c.natAbs + (if (!decide (p.natAbs % c.natAbs = 0) && (up != (!(decide (p < 0) == decide (c < 0))))) = true then 1 else 0)) :
    q = (frac p c up).natAbs ∧ ((!(decide (p < 0) == decide (c < 0))) && decide (0 < q)) = decide (frac p c up < 0) := by
  have e1 : ((p.natAbs : Int) / (c.natAbs : Int)) = ((p.natAbs / c.natAbs : Nat) : Int) := (Int.natCast_ediv _ _).symm
  have e2 : ((p.natAbs : Int) % (c.natAbs : Int)) = ((p.natAbs % c.natAbs : Nat) : Int) := (Int.natCast_emod _ _).symm
  unfold frac
  rw [e1, e2]
  generalize p.natAbs / c.natAbs = Q at *
  generalize p.natAbs % c.natAbs = R at *
  generalize (!(decide (p < 0) == decide (c < 0))) = U at *
  subst hq
  cases U <;> cases up <;> refine ⟨?_, ?_⟩ <;> by_cases hR : R = 0 <;> simp [hR] <;> omega
theorem part_cells (w : World) (x0 x1 y0 y1 z0 z1 : Value) (T : TypeId) :
    let W := ((w.alloc (.cells #[x0, x1] T)).alloc (.cells #[y0, y1] T)).alloc (.cells #[z0, z1] T)
    W.cell? ⟨w.heap.size, 0, none⟩ = some x0 ∧ W.cell? ⟨w.heap.size, 1, none⟩ = some x1 ∧ W.cell? ⟨w.heap.size + 1, 0, none⟩ = some y0 ∧ W.cell? ⟨w.heap.size + 1, 1, none⟩ = some y1 ∧
      W.cell? ⟨w.heap.size + 1 + 1, 0, none⟩ = some z0 ∧ W.cell? ⟨w.heap.size + 1 + 1, 1, none⟩ = some z1 ∧ W.frozen? ⟨w.heap.size + 1 + 1, 0, none⟩ = false ∧ W.frozen? ⟨w.heap.size + 1 + 1, 1, none⟩ = false := three_cells w x0 x1 y0 y1 z0 z1 T

set_option maxRecDepth 100000 in
set_option maxHeartbeats 4000000 in
theorem partL_any {B C : Nat} (s t up U : Bool) (hU : (!(s == t)) = U) (va vb : Value) (x y : List Bool) (w : World) (hv : Reads B w va x) (hu : Reads C w vb y) (hx : x.length ≤ 1000) (hy : y.length ≤ 1000) (hy0 : 0 < val y) (q : Nat)
    (hq : Hid (q = val x / val y + (if (!decide (val x % val y = 0) && (up != U)) = true then 1 else 0))) :
    Calls Tryz.prog 78 #[.agg #[.bool s, va], .agg #[.bool t, vb], .bool up] w fun e w' => ∃ r v', e = .returned (.agg #[.bool r, v']) ∧ Below w.heap.size w w' ∧ r = (U && decide (0 < q)) ∧ ∃ l, Reads w.heap.size w' v' l ∧ Canon l ∧ val l = q ∧ l.length ≤ x.length + 2 := by
  obtain ⟨a, ca, rfl, _⟩ := id hv
  obtain ⟨b, cb, rfl, _⟩ := id hu
  have HY : Hid (0 < val y) := hy0
  clear hy0
  go_enter Tryz.func78, Tryz.ntmps78
  go_upto_region 1 with fail
  obtain ⟨W, hW⟩ : ∃ W, Hid (W = ((w.alloc (.cells #[.bool s, .slice a x.length ca] 91)).alloc (.cells #[.bool t, .slice b y.length cb] 91)).alloc (.cells #[.bool false, .slice none 0 0] 91)) := ⟨_, rfl⟩
  have HWs : Hid (W.heap.size = w.heap.size + 1 + 1 + 1) := by show _ = _; rw [hW.out]; simp
  have hWb : Below w.heap.size w W := by rw [hW.out]; exact three_new _ _ _ _
  obtain ⟨d0, d1, d2, d3, d4, d5, d6, d7⟩ := part_cells w (.bool s) (.slice a x.length ca) (.bool t) (.slice b y.length cb) (.bool false) (.slice none 0 0) 91
  rw [← hW.out] at d0 d1 d2 d3 d4 d5 d6 d7
  rw [← hW.out]
  go_wp2_with fail
  refine (divR_any x y _ _ _ (hv.below hWb) (hu.below hWb) hx hy HY.out).mono ?_
  rintro e w2 ⟨qv, rv, rfl, hb2, ⟨lq, p1, p2, p3, p4⟩, lr, r1, r2, r3, r4⟩
  have hws := HWs.out
  have f0 := (hb2.cell (p := ⟨w.heap.size, 0, none⟩) (by simp; omega)).trans d0
  have f2 := (hb2.cell (p := ⟨w.heap.size + 1, 0, none⟩) (by simp; omega)).trans d2
  clear hws d0 d1 d2 d3
  obtain ⟨ld, hld⟩ : ∃ ld, decide ((0 : Int) < (lr.length : Int)) = ld := ⟨_, rfl⟩
  have HD : Hid ((!decide (val x % val y = 0)) = ld) := by
    show _ = _
    rw [← hld, ← r3]
    rcases Nat.eq_zero_or_pos lr.length with h | h
    · have := (canon_zero lr r2).1 (List.eq_nil_of_length_eq_zero h)
      rw [h, this]; rfl
    · have : ¬ val lr = 0 := fun e => by have := (canon_zero lr r2).2 e; rw [this] at h; simp at h
      simp [h, this]
  obtain ⟨a8, c8, rfl, _⟩ := id r1
  obtain ⟨a7, m7, c7, rfl⟩ : ∃ a n c, qv = Value.slice a n c := by
    obtain ⟨a, c, e, _⟩ := p1
    exact ⟨a, _, c, e⟩
  have hq2 : Hid (q = val lq + (if (ld && (up != U)) = true then 1 else 0)) := by show _ = _; rw [hq.out, HD.out, p3]
  clear hq HD p3 r1 r2 r3 r4
  generalize lr.length = m8 at *
  go_upto_region 3 with fail
  go_cut [30] from 10 to 41 (fun z wx => z = .bool (ld && (up != U)) ∧ wx = w2)
  case first =>
    cases ld
    · have tz : ¬ (0 : Int) < (m8 : Int) := by simpa using hld
      have tz' : m8 = 0 := by omega
      subst tz'
      clear tz hld
      go_wp2_with fail
      go_meet
      case rel => exact ⟨by simp, rfl⟩
    · have tz : (0 : Int) < (m8 : Int) := by simpa using hld
      clear hld
      cases up <;> cases U
      all_goals
        go_wp2_with fail
        go_meet
        case rel => exact ⟨rfl, rfl⟩
  case rest =>
    obtain ⟨rfl, rfl⟩ := hcut
    obtain ⟨T, hT⟩ : ∃ T, Hid ((ld && (up != U)) = T) := ⟨_, rfl⟩
    rw [hT.out] at hq2
    rw [hT.out]
    go_upto_if 30 with fail
    go_cut [7] from 10 to 41 (fun z wx => ∃ lq', Reads W.heap.size wx z lq' ∧ Canon lq' ∧ Hid (val lq' = q) ∧ lq'.length ≤ x.length + 2 ∧ Below W.heap.size W wx)
    case first =>
      cases T
      · go_wp2_with fail
        go_meet
        case rel => exact ⟨lq, p1, p2, by have := hq2.out; show _ = _; rw [this]; simp, by omega, hb2⟩
      · go_wp2_with fail
        refine (plusR_any (C := 0) lq [true] _ _ _ (p1.below ?_) ?_ (by omega) (by simp)).mono ?_
        · exact (Below.refl _ _).alloc (Nat.le_refl _) _
        · exact (reads_of_owns (owns_one _ 0 true (Nat.zero_le _)))
        rintro e w4 ⟨v4, rfl, hb4, l4, m1, m2, m3, m4⟩
        have hs2 := hb2.size
        go_wp2_with fail
        go_meet
        case rel => exact ⟨l4, m1.mono (by simp; omega), m2, by have := hq2.out; show _ = _; rw [this, m3]; simp [val], by simp at m4; omega, hb2.trans (((Below.refl _ _).alloc (Nat.le_refl _) _).trans (hb4.mono (by simp)) |>.mono hs2)⟩
    case rest =>
      obtain ⟨lq', q1, q2, q3, q4, q5⟩ := hcut
      have hws := HWs.out
      have f4 := (q5.cell (p := ⟨w.heap.size + 1 + 1, 0, none⟩) (by simp; omega)).trans d4
      have f5 := (q5.cell (p := ⟨w.heap.size + 1 + 1, 1, none⟩) (by simp; omega)).trans d5
      have f6 := (q5.frozen (p := ⟨w.heap.size + 1 + 1, 0, none⟩) (by simp; omega)).trans d6
      have f7 := (q5.frozen (p := ⟨w.heap.size + 1 + 1, 1, none⟩) (by simp; omega)).trans d7
      clear hws d4 d5 d6 d7 p1 hb2
      obtain ⟨a9, c9, rfl, _⟩ := id q1
      obtain ⟨le, hle⟩ : ∃ le, decide ((0 : Int) < (lq'.length : Int)) = le := ⟨_, rfl⟩
      have HE : Hid (decide (0 < q) = le) := by
        show _ = _
        rw [← hle, ← q3.out]
        rcases Nat.eq_zero_or_pos lq'.length with h | h
        · have := (canon_zero lq' q2).1 (List.eq_nil_of_length_eq_zero h)
          rw [h, this]; rfl
        · have : ¬ val lq' = 0 := fun e => by have := (canon_zero lq' q2).2 e; rw [this] at h; simp at h
          simp [h]; omega
      cases U
      · go_wp2_with fail
        refine bodyPost_ret (v := .agg #[.bool false, .slice a9 lq'.length c9]) (by simp [results, Tryz.results78, go_sem, f4, f5]) rfl ⟨_, _, rfl, ?_, by rw [Bool.false_and], lq', ?_, q2, q3.out, q4⟩
        · exact ((hWb.trans (q5.mono hWb.size)).setCell (by simp; omega) _).setCell (by simp; omega) _
        · exact ((q1.setCell (by have := HWs.out; simp; omega) _).setCell (by have := HWs.out; simp; omega) _).mono hWb.size
      · cases le
        · have hnil : Hid (lq' = []) := List.eq_nil_of_length_eq_zero (by simpa using hle)
          go_wp2_with fail
          refine bodyPost_ret (v := .agg #[.bool false, .slice a9 lq'.length c9]) (by simp [results, Tryz.results78, go_sem, f4, f5]; exact hnil.out) rfl ⟨_, _, rfl, ?_, by rw [Bool.true_and, HE.out], lq', ?_, q2, q3.out, q4⟩
          · exact ((hWb.trans (q5.mono hWb.size)).setCell (by simp; omega) _).setCell (by simp; omega) _
          · exact ((q1.setCell (by have := HWs.out; simp; omega) _).setCell (by have := HWs.out; simp; omega) _).mono hWb.size
        · have hnil : Hid (0 < lq'.length) := by show 0 < lq'.length; simpa using hle
          go_wp2_with fail
          refine bodyPost_ret (v := .agg #[.bool true, .slice a9 lq'.length c9]) (by simp [results, Tryz.results78, go_sem, f4, f5]; exact hnil.out) rfl ⟨_, _, rfl, ?_, by rw [Bool.true_and, HE.out], lq', ?_, q2, q3.out, q4⟩
          · exact ((hWb.trans (q5.mono hWb.size)).setCell (by simp; omega) _).setCell (by simp; omega) _
          · exact ((q1.setCell (by have := HWs.out; simp; omega) _).setCell (by have := HWs.out; simp; omega) _).mono hWb.size
theorem partR_any {B C : Nat} (s t up : Bool) (va vb : Value) (p c : Int) (n m : Nat) (w : World) (hv : IsNum B w s va p n) (hu : IsNum C w t vb c m) (hn : n ≤ 1000) (hm : m ≤ 1000) (hc : c ≠ 0) :
    Calls Tryz.prog 78 #[.agg #[.bool s, va], .agg #[.bool t, vb], .bool up] w fun e w' => ∃ r v', e = .returned (.agg #[.bool r, v']) ∧ Below w.heap.size w w' ∧ IsNum w.heap.size w' r v' (frac p c up) (n + 2) := by
  obtain ⟨hs, l, h1, h2, h3, h4⟩ := hv
  obtain ⟨ht, k, k1, k2, k3, k4⟩ := hu
  refine (partL_any s t up _ rfl va vb l k w h1 k1 (by omega) (by omega) (by omega) _ rfl).mono ?_
  rintro e w' ⟨r, v', rfl, hb, hr, q, q1, q2, q3, q4⟩
  rw [h3, k3, hs, ht] at q3
  rw [h3, k3, hs, ht] at hr
  obtain ⟨e1, e2⟩ := frac_size p c up _ q3
  rw [← q3, e2] at hr
  exact ⟨r, v', rfl, hb, hr, q, q1, q2, e1, by omega⟩

set_option maxHeartbeats 1000000 in
theorem fractionR_zero (a b c : Int) (up : Bool) (w : World) (hc : (c == 0) = true) :
    Calls Tryz.prog 53 #[.int .i64 a, .int .i64 b, .int .i64 c, .bool up] w fun e w' => e = .returned (.tuple #[.int .i64 0, .int .i64 11]) ∧ w' = w := by
  go_enter Tryz.func53, Tryz.ntmps53
  go_wp2
  go_ret2
  exact ⟨rfl, rfl⟩
set_option maxHeartbeats 1000000 in
theorem fractionR_any (a b c : Int) (up : Bool) (w : World) (a1 : -9223372036854775808 ≤ a) (a2 : a ≤ 9223372036854775807) (b1 : -9223372036854775808 ≤ b) (b2 : b ≤ 9223372036854775807) (c1 : -9223372036854775808 ≤ c) (c2 : c ≤ 9223372036854775807) (hc : (c == 0) = false) :
    Calls Tryz.prog 53 #[.int .i64 a, .int .i64 b, .int .i64 c, .bool up] w fun e w' => e = .returned (.tuple #[.int .i64 (ansN (frac (a * b) c up)), .int .i64 (ansE (frac (a * b) c up))]) ∧ Below w.heap.size w w' := by
  have hc0 : Hid (c ≠ 0) := beq_eq_false_iff_ne.1 hc
  go_enter Tryz.func53, Tryz.ntmps53
  go_wp2_with fail
  refine (of_any a _ a1 a2).mono ?_
  rintro e w1 ⟨va, rfl, hb1, la, r1, r2, r3, r4⟩
  have na : IsNum w.heap.size w1 (decide (a < 0)) va a 64 := ⟨rfl, la, r1, r2, r3, r4⟩
  clear r1 r2 r3 r4
  go_wp2_with fail
  refine (of_any b _ b1 b2).mono ?_
  rintro e w2 ⟨vb, rfl, hb2, lb, r1, r2, r3, r4⟩
  have nb : IsNum w1.heap.size w2 (decide (b < 0)) vb b 64 := ⟨rfl, lb, r1, r2, r3, r4⟩
  clear r1 r2 r3 r4
  generalize decide (a < 0) = sa at *
  generalize decide (b < 0) = sb at *
  go_wp2_with fail
  refine (mulR_any sa sb _ _ a b 64 64 _ (na.below hb2) nb (by decide) (by decide)).mono ?_
  rintro e w3 ⟨r3, v3, rfl, hb3, n3⟩
  clear na nb
  go_wp2_with fail
  refine (of_any c _ c1 c2).mono ?_
  rintro e w4 ⟨vc, rfl, hb4, lc, k1, k2, k3, k4⟩
  have nc : IsNum w3.heap.size w4 (decide (c < 0)) vc c 64 := ⟨rfl, lc, k1, k2, k3, k4⟩
  have n34 := n3.below hb4
  clear k1 k2 k3 k4 n3
  generalize decide (c < 0) = sc at *
  go_wp2_with fail
  refine (partR_any r3 sc up _ _ (a * b) c _ 64 _ n34 nc (by decide) (by decide) hc0.out).mono ?_
  rintro e w5 ⟨r5, v5, rfl, hb5, n5⟩
  clear n34 nc
  go_wp2_with fail
  refine (toldR_any r5 v5 _ _ _ n5).mono ?_
  rintro e w6 ⟨rfl, hb6⟩
  have s1 := hb1.size
  have s2 := hb2.size
  have s3 := hb3.size
  have s4 := hb4.size
  have s5 := hb5.size
  go_wp2_with fail
  go_ret2
  exact ⟨rfl, ((((hb1.trans (hb2.mono s1)).trans (hb3.mono (by omega))).trans (hb4.mono (by omega))).trans (hb5.mono (by omega))).trans (hb6.mono (by omega))⟩
end Go.Proofs.YtdacfnodihannaaGreat
