/-
  Plain numbers, no program: a whole number z as two words of 64 bits in two's complement, and what sums, turned numbers and narrowing do to the words.
-/
import Derived.WalkKit
import Derived.WalkSpells
import Derived.WalkLawsBesides
import Derived.ProofKit
import Derived.OpenShut
import Derived.Outline
import Derived.Deep.RegionHeld3
import Derived.Deep.QuietTactic
import Derived.BigQuiet
import Derived.Deep.DeepCutAuto
import Derived.Lib.BitFns
import Derived.Deep.CutBlock
import Derived.Deep.Light
import Derived.Test.YtdacfnodihannaaGreatRows
namespace Go.Proofs.YtdacfnodihannaaGreat

def hi (z : Int) : Int := z / 18446744073709551616 % 18446744073709551616
def lo (z : Int) : Int := z % 18446744073709551616

theorem hi_bd (z : Int) : 0 ≤ hi z ∧ hi z ≤ 18446744073709551615 := by unfold hi; omega
theorem lo_bd (z : Int) : 0 ≤ lo z ∧ lo z ≤ 18446744073709551615 := by unfold lo; omega
theorem lo_add (x y : Int) : (lo x + lo y) % 18446744073709551616 = lo (x + y) := by unfold lo; omega
theorem hi_add (x y : Int) : (hi x + hi y + (lo x + lo y) / 18446744073709551616) % 18446744073709551616 = hi (x + y) := by unfold lo hi; omega
theorem lo_not (x : Int) : 18446744073709551615 - lo x = lo (-x - 1) := by unfold lo; omega
theorem hi_not (x : Int) : 18446744073709551615 - hi x = hi (-x - 1) := by unfold hi; omega
theorem lo_nat (n : Nat) (h : n < 18446744073709551616) : lo (n : Int) = n := by unfold lo; omega
/-- The number itself lies within 128 bits. -/
def Fits (z : Int) : Prop := -170141183460469231731687303715884105728 ≤ z ∧ z ≤ 170141183460469231731687303715884105727
theorem words_eq (x y : Int) (hx : Fits x) (hy : Fits y) (h : hi x = hi y) (l : lo x = lo y) : x = y := by
  unfold Fits hi lo at *; omega
theorem words_iff (x y : Int) (hx : Fits x) (hy : Fits y) : (hi x = hi y ∧ lo x = lo y) ↔ x = y :=
  ⟨fun ⟨h, l⟩ => words_eq x y hx hy h l, fun e => by rw [e]; exact ⟨rfl, rfl⟩⟩
end Go.Proofs.YtdacfnodihannaaGreat
/-
  Contracts of package checked's inner functions, for every input: widen, plus, minus, narrow, answer over the landed program; a number of 128 bits is told by the whole number that its two words stand for.
-/
namespace Go.Proofs.YtdacfnodihannaaGreat
open Go.ChangeShapes Go.WideShapes Go.ChangeAt Go.RowKit

theorem xor_ones (b : Nat) (h : b < 2 ^ 64) : (2 ^ 64 - 1) ^^^ b = 2 ^ 64 - (b + 1) := by
  apply Nat.eq_of_testBit_eq
  intro i
  rw [Nat.testBit_xor, Nat.testBit_two_pow_sub_succ h, Nat.testBit_two_pow_sub_one]
  by_cases hi : i < 64
  · simp [hi]
  · have : b.testBit i = false := Nat.testBit_lt_two_pow (Nat.lt_of_lt_of_le h (Nat.pow_le_pow_right (by omega) (by omega)))
    simp [hi, this]
theorem not_word (a : Int) (h0 : 0 ≤ a) (h1 : a ≤ 18446744073709551615) : bits .xor .u64 IntKind.u64.max a = 18446744073709551615 - a := by
  have e : IntKind.u64.max = ((18446744073709551615 : Nat) : Int) := by decide
  obtain ⟨n, rfl⟩ := Int.eq_ofNat_of_zero_le h0
  rw [e, u64_xor_nat _ _ (by omega) (by omega), xor_ones n (by omega)]
  omega
theorem not_hi (x : Int) : bits .xor .u64 IntKind.u64.max (hi x) = hi (-x - 1) := by
  rw [not_word _ (hi_bd x).1 (hi_bd x).2, hi_not]
theorem not_lo (x : Int) : bits .xor .u64 IntKind.u64.max (lo x) = lo (-x - 1) := by
  rw [not_word _ (lo_bd x).1 (lo_bd x).2, lo_not]

theorem bcell {W w1 : World} (hb : Below W.heap.size W w1) : (∀ b o, b < W.heap.size → w1.cell? ⟨b, o, none⟩ = W.cell? ⟨b, o, none⟩) ∧ (∀ b o, b < W.heap.size → w1.frozen? ⟨b, o, none⟩ = W.frozen? ⟨b, o, none⟩) :=
  ⟨fun b o h => hb.cell (p := ⟨b, o, none⟩) h, fun b o h => hb.frozen (p := ⟨b, o, none⟩) h⟩
theorem agg_eq {a b c d : Int} (h1 : a = c) (h2 : b = d) : Ending.returned (.agg #[.int .u64 a, .int .u64 b]) = .returned (.agg #[.int .u64 c, .int .u64 d]) := by rw [h1, h2]
theorem wrap_hi (n : Int) (h1 : -9223372036854775808 ≤ n) (h2 : n ≤ 9223372036854775807) : IntKind.u64.wrap (n / 9223372036854775808) = hi n := by
  rw [IntKind.wrap_u64]; unfold hi; omega
theorem wrap_lo (n : Int) : IntKind.u64.wrap n = lo n := by
  rw [IntKind.wrap_u64]; unfold lo; omega

set_option maxHeartbeats 400000 in
theorem widen_any (n : Int) (w : World) (h1 : -9223372036854775808 ≤ n) (h2 : n ≤ 9223372036854775807) :
    Calls Tryz.prog 104 #[.int .i64 n] w fun e w' => e = .returned (.agg #[.int .u64 (hi n), .int .u64 (lo n)]) ∧ Below w.heap.size w w' := by
  go_enter Tryz.func104, Tryz.ntmps104
  go_wp2
  refine bodyPost_ret (v := .agg #[.int .u64 (IntKind.u64.wrap (n / 9223372036854775808)), .int .u64 (IntKind.u64.wrap n)]) (by simp [results, Tryz.results104, go_sem]) rfl ⟨agg_eq (wrap_hi n h1 h2) (wrap_lo n), ?_⟩
  exact (Below.refl _ _).alloc (Nat.le_refl _) _

theorem add64_run (x y c : Int) (hx : 0 ≤ x) (hy : 0 ≤ y) (hc : 0 ≤ c) (hc1 : c ≤ 1) (w : World) :
    (callFunc 115 #[.int .u64 x, .int .u64 y, .int .u64 c]).run Tryz.prog w =
      .ok (.value (.tuple #[.int .u64 ((x + y + c) % 18446744073709551616), .int .u64 ((x + y + c) / 18446744073709551616)])) w := by
  rw [run_callFunc_extern Tryz.func115 (by kernel_rfl) (by kernel_rfl) (by kernel_rfl) (e := add64Entry) (by kernel_rfl), run_add64 x y c hx hy hc hc1]
  rfl
def cy (x y : Int) : Int := (lo x + lo y) / 18446744073709551616
def cz (x y : Int) : Int := (hi x + hi y + cy x y) / 18446744073709551616
theorem add64_lo (x y : Int) (w : World) : (callFunc 115 #[.int .u64 (lo x), .int .u64 (lo y), .int .u64 0]).run Tryz.prog w = .ok (.value (.tuple #[.int .u64 (lo (x + y)), .int .u64 (cy x y)])) w := by
  have a := lo_bd x
  have b := lo_bd y
  rw [add64_run _ _ _ a.1 b.1 (by omega) (by omega)]
  unfold cy
  rw [Int.add_zero, lo_add]
theorem add64_hi (x y : Int) (w : World) : (callFunc 115 #[.int .u64 (hi x), .int .u64 (hi y), .int .u64 (cy x y)]).run Tryz.prog w = .ok (.value (.tuple #[.int .u64 (hi (x + y)), .int .u64 (cz x y)])) w := by
  have a := lo_bd x
  have b := lo_bd y
  have c := hi_bd x
  have d := hi_bd y
  rw [add64_run _ _ _ c.1 d.1 (by unfold cy; omega) (by unfold cy; omega)]
  unfold cz
  have e := hi_add x y
  unfold cy
  rw [e]

set_option maxHeartbeats 400000 in
theorem plus_any (x y : Int) (w : World) :
    Calls Tryz.prog 103 #[.agg #[.int .u64 (hi x), .int .u64 (lo x)], .agg #[.int .u64 (hi y), .int .u64 (lo y)]] w fun e w' => e = .returned (.agg #[.int .u64 (hi (x + y)), .int .u64 (lo (x + y))]) ∧ Below w.heap.size w w' := by
  have r1 := add64_lo x y
  have r2 := add64_hi x y
  go_enter Tryz.func103, Tryz.ntmps103
  go_wp2
  refine bodyPost_ret (v := .agg #[.int .u64 (hi (x + y)), .int .u64 (lo (x + y))]) (by simp [results, Tryz.results103, go_sem]) rfl ⟨rfl, ?_⟩
  exact (((Below.refl _ _).alloc (Nat.le_refl _) _).alloc (by simp) _).alloc (by simp; omega) _

set_option maxHeartbeats 400000 in
theorem minus_any (x : Int) (w : World) :
    Calls Tryz.prog 100 #[.agg #[.int .u64 (hi x), .int .u64 (lo x)]] w fun e w' => e = .returned (.agg #[.int .u64 (hi (-x)), .int .u64 (lo (-x))]) ∧ Below w.heap.size w w' := by
  go_enter Tryz.func100, Tryz.ntmps100
  go_wp2
  go_region_held3 (fun w' => w'.cell? ⟨w.heap.size, 0, none⟩ = some (.int .u64 (hi x)) ∧ w'.cell? ⟨w.heap.size, 1, none⟩ = some (.int .u64 (lo x))) (go_keep) (first
   | (go_at_call 104; refine (widen_any 1 _ (by decide) (by decide)).mono ?_; rintro e w1 ⟨rfl, hb1⟩; obtain ⟨hc, hf⟩ := bcell hb1; have q0 := hc w.heap.size 0 (by simp; omega); have q1 := hc w.heap.size 1 (by simp; omega); have q2 := hf (w.heap.size + 1) 0 (by simp); have q3 := hf (w.heap.size + 1) 1 (by simp); have q4 := hc (w.heap.size + 1) 0 (by simp); have q5 := hc (w.heap.size + 1) 1 (by simp); have hz := hb1.size; simp at hz q0 q1 q2 q3 q4 q5)
   | (go_at_call 103; rw [not_hi, not_lo]; refine (plus_any _ _ _).mono ?_; rintro e w2 ⟨rfl, hb2⟩; obtain ⟨hd, hg⟩ := bcell hb2; have u0 := hd w.heap.size 0 (by omega); have u1 := hd w.heap.size 1 (by omega); have u2 := hg (w.heap.size + 1) 0 (by omega); have u3 := hg (w.heap.size + 1) 1 (by omega); have u4 := hd (w.heap.size + 1) 0 (by omega); have u5 := hd (w.heap.size + 1) 1 (by omega); have hy := hb2.size; rw [show -x - 1 + 1 = -x from by omega]; simp only [q0, q1, q2, q3, q4, q5] at u0 u1 u2 u3 u4 u5))
  go_wp2
  have hbel := ((((Below.refl _ _).alloc (Nat.le_refl _) _).alloc (by simp) _).drew.trans (hb1.mono (B' := w.heap.size) (by simp; omega))).trans (hb2.mono (B' := w.heap.size) (by omega))
  refine bodyPost_ret (v := .agg #[.int .u64 (hi (-x)), .int .u64 (lo (-x))]) (by simp [results, Tryz.results100, go_sem, u4, u5]) rfl ⟨rfl, ?_⟩
  exact (hbel.setCell (by simp) _).setCell (by simp) _

/-- narrow's answer: an int that holds the number, or the refusal that says there is no room. -/
def narrowed (z : Int) : Value := if -9223372036854775808 ≤ z ∧ z ≤ 9223372036854775807 then .iface 3 (.int .i64 z) else .iface 116 (.int .i64 10)
theorem narrow_eq (z : Int) (h : -9223372036854775808 ≤ z ∧ z ≤ 9223372036854775807) : wrap64 (lo z) = z := by
  unfold lo wrap64; omega
theorem narrow_bd (z : Int) : -9223372036854775808 ≤ wrap64 (lo z) ∧ wrap64 (lo z) ≤ 9223372036854775807 := by
  unfold wrap64; omega
theorem narrow_lo (z : Int) : lo (wrap64 (lo z)) = lo z := by
  unfold lo wrap64; omega
theorem narrow_hi (z : Int) (hz : Fits z) (h : ¬ (-9223372036854775808 ≤ z ∧ z ≤ 9223372036854775807)) : (hi (wrap64 (lo z)) == hi z) = false := by
  rw [beq_eq_false_iff_ne]
  unfold Fits at hz
  unfold hi lo wrap64; omega
/-- Two wide numbers are held against each other word by word. -/
theorem wide_eq (a b c d : Int) (w : World) : (Op.equalIn 10000 119 (.agg #[.int .u64 a, .int .u64 b]) (.agg #[.int .u64 c, .int .u64 d])).run Tryz.prog w = .ok (a == c && b == d) w := by
  obtain ⟨i, hi⟩ := Option.isSome_iff_exists.1 (show (Tryz.prog.info? 109).isSome = true by kernel_rfl)
  rw [show (10000 : Nat) = 9999 + 1 from rfl, run_equalIn_array (P := Tryz.prog) w 9999 _ _ Tryz.underlying119 hi]
  have e : Tryz.prog.cellsOf 109 = 1 := by kernel_rfl
  rw [e]
  simp [Op.eqItems, List.range_succ, go_sem]
  by_cases h1 : a = c <;> by_cases h2 : b = d <;> simp [h1, h2]
set_option maxHeartbeats 400000 in
theorem narrow_yes (z : Int) (w : World) (h : -9223372036854775808 ≤ z ∧ z ≤ 9223372036854775807) :
    Calls Tryz.prog 105 #[.agg #[.int .u64 (hi z), .int .u64 (lo z)]] w fun e w' => e = .returned (.iface 3 (.int .i64 z)) ∧ Below w.heap.size w w' := by
  have lb := lo_bd z
  have we := fun w => wide_eq (hi z) (lo z) (hi z) (lo z) w
  simp only [beq_self_eq_true, Bool.and_self] at we
  go_enter Tryz.func105, Tryz.ntmps105
  go_wp2
  rw [narrow_eq z h]
  go_region_held3 (fun w' => w'.cell? ⟨w.heap.size, 0, none⟩ = some (.int .u64 (hi z)) ∧ w'.cell? ⟨w.heap.size, 1, none⟩ = some (.int .u64 (lo z))) (go_keep) (first
   | (go_at_call 104; refine (widen_any _ _ h.1 h.2).mono ?_; rintro e w1 ⟨rfl, hb1⟩; obtain ⟨hc, hf⟩ := bcell hb1; have q0 := hc w.heap.size 0 (by simp); have q1 := hc w.heap.size 1 (by simp); simp at q0 q1))
  go_wp2
  go_ret
  exact ⟨rfl, ((Below.refl _ _).alloc (Nat.le_refl _) _).drew.trans (hb1.mono (B' := w.heap.size) (by simp))⟩
set_option maxHeartbeats 400000 in
theorem narrow_no (z : Int) (w : World) (hz : Fits z) (h : ¬ (-9223372036854775808 ≤ z ∧ z ≤ 9223372036854775807)) :
    Calls Tryz.prog 105 #[.agg #[.int .u64 (hi z), .int .u64 (lo z)]] w fun e w' => e = .returned (.iface 116 (.int .i64 10)) ∧ Below w.heap.size w w' := by
  have lb := lo_bd z
  have nb := narrow_bd z
  have we := fun w => wide_eq (hi (wrap64 (lo z))) (lo (wrap64 (lo z))) (hi z) (lo z) w
  simp only [narrow_hi z hz h, Bool.false_and] at we
  go_enter Tryz.func105, Tryz.ntmps105
  go_wp2
  go_region_held3 (fun w' => w'.cell? ⟨w.heap.size, 0, none⟩ = some (.int .u64 (hi z)) ∧ w'.cell? ⟨w.heap.size, 1, none⟩ = some (.int .u64 (lo z))) (go_keep) (first
   | (go_at_call 104; refine (widen_any _ _ nb.1 nb.2).mono ?_; rintro e w1 ⟨rfl, hb1⟩; obtain ⟨hc, hf⟩ := bcell hb1; have q0 := hc w.heap.size 0 (by simp); have q1 := hc w.heap.size 1 (by simp); simp at q0 q1))
  go_wp2
  go_ret
  exact ⟨rfl, ((Below.refl _ _).alloc (Nat.le_refl _) _).drew.trans (hb1.mono (B' := w.heap.size) (by simp))⟩

theorem narrow_any (z : Int) (w : World) (hz : Fits z) :
    Calls Tryz.prog 105 #[.agg #[.int .u64 (hi z), .int .u64 (lo z)]] w fun e w' => e = .returned (narrowed z) ∧ Below w.heap.size w w' := by
  unfold narrowed
  by_cases h : -9223372036854775808 ≤ z ∧ z ≤ 9223372036854775807
  · rw [if_pos h]; exact narrow_yes z w h
  · rw [if_neg h]; exact narrow_no z w hz h

/-- answer: the number, or why there is none. -/
theorem as_int_why (n : Int) (w : World) : (Instr.typeAssert (.iface 3 (.int .i64 n)) 20 116 true).run Tryz.prog w = .ok (.tuple #[.int .i64 0, .bool false]) w := by kernel_rfl
theorem as_int_int (n : Int) (w : World) : (Instr.typeAssert (.iface 3 (.int .i64 n)) 20 3 true).run Tryz.prog w = .ok (.tuple #[.int .i64 n, .bool true]) w := by kernel_rfl
theorem as_why_why (n : Int) (w : World) : (Instr.typeAssert (.iface 116 (.int .i64 n)) 20 116 true).run Tryz.prog w = .ok (.tuple #[.int .i64 n, .bool true]) w := by kernel_rfl
theorem answer_yes (n : Int) (w : World) :
    Calls Tryz.prog 85 #[.iface 3 (.int .i64 n)] w fun e w' => e = .returned (.tuple #[.int .i64 n, .int .i64 0]) ∧ w' = w := by
  have t1 := as_int_why n
  have t2 := as_int_int n
  go_enter Tryz.func85, Tryz.ntmps85
  go_wp2
  go_ret2
  exact ⟨rfl, rfl⟩
theorem answer_no (n : Int) (w : World) :
    Calls Tryz.prog 85 #[.iface 116 (.int .i64 n)] w fun e w' => e = .returned (.tuple #[.int .i64 0, .int .i64 n]) ∧ w' = w := by
  have t1 := as_why_why n
  go_enter Tryz.func85, Tryz.ntmps85
  go_wp2
  go_ret2
  exact ⟨rfl, rfl⟩
def ansN (z : Int) : Int := if -9223372036854775808 ≤ z ∧ z ≤ 9223372036854775807 then z else 0
def ansE (z : Int) : Int := if -9223372036854775808 ≤ z ∧ z ≤ 9223372036854775807 then 0 else 10
theorem answer_any (z : Int) (w : World) :
    Calls Tryz.prog 85 #[narrowed z] w fun e w' => e = .returned (.tuple #[.int .i64 (ansN z), .int .i64 (ansE z)]) ∧ w' = w := by
  unfold narrowed ansN ansE
  by_cases h : -9223372036854775808 ≤ z ∧ z ≤ 9223372036854775807
  · simp only [if_pos h]; exact answer_yes z w
  · simp only [if_neg h]; exact answer_no 10 w

set_option maxHeartbeats 400000 in
theorem add_any (a b : Int) (w : World) (a1 : -9223372036854775808 ≤ a) (a2 : a ≤ 9223372036854775807) (b1 : -9223372036854775808 ≤ b) (b2 : b ≤ 9223372036854775807) :
    Calls Tryz.prog 94 #[.int .i64 a, .int .i64 b] w fun e w' => e = .returned (.tuple #[.int .i64 (ansN (a + b)), .int .i64 (ansE (a + b))]) ∧ Below w.heap.size w w' := by
  have hz : Fits (a + b) := by unfold Fits; omega
  go_enter Tryz.func94, Tryz.ntmps94
  go_wp2_with fail
  refine (widen_any a _ a1 a2).mono ?_
  rintro e w1 ⟨rfl, hb1⟩
  go_wp2_with fail
  refine (widen_any b _ b1 b2).mono ?_
  rintro e w2 ⟨rfl, hb2⟩
  go_wp2_with fail
  refine (plus_any a b _).mono ?_
  rintro e w3 ⟨rfl, hb3⟩
  go_wp2_with fail
  refine (narrow_any (a + b) _ hz).mono ?_
  rintro e w4 ⟨rfl, hb4⟩
  go_wp2_with fail
  refine (answer_any (a + b) _).mono ?_
  rintro e w5 ⟨rfl, rfl⟩
  go_wp2
  go_ret2
  have s1 := hb1.size
  have s2 := hb2.size
  have s3 := hb3.size
  exact ⟨rfl, ((hb1.trans (hb2.mono s1)).trans (hb3.mono (by omega))).trans (hb4.mono (by omega))⟩
end Go.Proofs.YtdacfnodihannaaGreat
/-
  Contracts of package checked's size and times and of math/bits' Mul64, for every input.
-/
namespace Go.Proofs.YtdacfnodihannaaGreat
open Go.ChangeShapes Go.WideShapes Go.ChangeAt Go.RowKit

theorem size_neg (n : Int) (h : n < 0) (h1 : -9223372036854775808 ≤ n) : IntKind.u64.wrap (-IntKind.u64.wrap n) = (n.natAbs : Int) := by
  rw [IntKind.wrap_u64, IntKind.wrap_u64]; omega
theorem ret_int {k : IntKind} {a b : Int} (h : a = b) : Ending.returned (.int k a) = .returned (.int k b) := by rw [h]
theorem size_any (n : Int) (w : World) (h1 : -9223372036854775808 ≤ n) (h2 : n ≤ 9223372036854775807) :
    Calls Tryz.prog 102 #[.int .i64 n] w fun e w' => e = .returned (.int .u64 (n.natAbs : Int)) ∧ w' = w := by
  by_cases h : n < 0
  · go_enter Tryz.func102, Tryz.ntmps102
    go_wp2
    go_ret
    exact ⟨ret_int (size_neg n h h1), rfl⟩
  · go_enter Tryz.func102, Tryz.ntmps102
    go_wp2
    go_ret
    exact ⟨ret_int (by omega), rfl⟩

theorem words_prod (x y : Nat) (hx : x < 18446744073709551616) (hy : y < 18446744073709551616) : (x : Int) * (y : Int) / 18446744073709551616 = hi ((x : Int) * (y : Int)) := by
  have h := Nat.mul_le_mul (Nat.le_sub_one_of_lt hx) (Nat.le_sub_one_of_lt hy)
  rw [← Int.natCast_mul]
  unfold hi
  generalize x * y = p at *
  omega
set_option maxHeartbeats 1000000 in
theorem mul64_any (x y : Nat) (hx : x < 18446744073709551616) (hy : y < 18446744073709551616) (w : World) :
    Calls Tryz.prog 113 #[.int .u64 x, .int .u64 y] w fun e w' => e = .returned (.tuple #[.int .u64 (hi ((x : Int) * (y : Int))), .int .u64 (lo ((x : Int) * (y : Int)))]) ∧ w' = w := by
  have H : Hid (_ = hi ((x : Int) * (y : Int))) := (mul64_arith x y (by omega) (by omega) (by omega) (by omega)).trans (words_prod x y hx hy)
  go_enter Tryz.func113, Tryz.ntmps113
  go_wp2
  simp only [IntKind.wrap_u64, and_low32 (x : Int) (by omega) (by omega), and_low32 (y : Int) (by omega) (by omega), and_low32 (_ % 18446744073709551616) (Int.emod_nonneg _ (by decide)) (Int.emod_lt_of_pos _ (by decide))]
  rw [H.out]
  go_ret2
  exact ⟨rfl, rfl⟩
theorem abs_mul_same (a b : Int) (h : decide (a < 0) = decide (b < 0)) : (a.natAbs : Int) * (b.natAbs : Int) = a * b := by
  by_cases ha : a < 0
  · have hb : b < 0 := by simpa [ha] using h
    rw [show (a.natAbs : Int) = -a from by omega, show (b.natAbs : Int) = -b from by omega, Int.neg_mul_neg]
  · have hb : ¬ b < 0 := by simpa [ha] using h
    rw [show (a.natAbs : Int) = a from by omega, show (b.natAbs : Int) = b from by omega]
theorem abs_mul_apart (a b : Int) (h : decide (a < 0) = !decide (b < 0)) : -((a.natAbs : Int) * (b.natAbs : Int)) = a * b := by
  by_cases ha : a < 0
  · have hb : ¬ b < 0 := by simpa [ha] using h
    rw [show (a.natAbs : Int) = -a from by omega, show (b.natAbs : Int) = b from by omega, Int.neg_mul, Int.neg_neg]
  · have hb : b < 0 := by simpa [ha] using h
    rw [show (a.natAbs : Int) = a from by omega, show (b.natAbs : Int) = -b from by omega, Int.mul_neg, Int.neg_neg]
set_option maxHeartbeats 1000000 in
theorem times_same (a b : Int) (s : Bool) (ha : decide (a < 0) = s) (hb : decide (b < 0) = s) (w : World) (a1 : -9223372036854775808 ≤ a) (a2 : a ≤ 9223372036854775807) (b1 : -9223372036854775808 ≤ b) (b2 : b ≤ 9223372036854775807) :
    Calls Tryz.prog 98 #[.int .i64 a, .int .i64 b] w fun e w' => e = .returned (.agg #[.int .u64 (hi (a * b)), .int .u64 (lo (a * b))]) ∧ Below w.heap.size w w' := by
  have H : Hid ((a.natAbs : Int) * (b.natAbs : Int) = a * b) := abs_mul_same a b (ha.trans hb.symm)
  go_enter Tryz.func98, Tryz.ntmps98
  go_wp2_with fail
  refine (size_any a _ a1 a2).mono ?_
  rintro e w1 ⟨rfl, rfl⟩
  go_wp2_with fail
  refine (size_any b _ b1 b2).mono ?_
  rintro e w1 ⟨rfl, rfl⟩
  go_wp2_with fail
  refine (mul64_any a.natAbs b.natAbs (by omega) (by omega) _).mono ?_
  rintro e w1 ⟨rfl, rfl⟩
  rw [H.out]
  cases s
  all_goals
    go_wp2_with fail
    refine bodyPost_ret (v := .agg #[.int .u64 (hi (a * b)), .int .u64 (lo (a * b))]) (by simp [results, Tryz.results98, go_sem]) rfl ⟨rfl, ?_⟩
    exact (Below.refl _ _).alloc (Nat.le_refl _) _
set_option maxHeartbeats 1000000 in
theorem times_apart (a b : Int) (s : Bool) (ha : decide (a < 0) = s) (hb : decide (b < 0) = !s) (w : World) (a1 : -9223372036854775808 ≤ a) (a2 : a ≤ 9223372036854775807) (b1 : -9223372036854775808 ≤ b) (b2 : b ≤ 9223372036854775807) :
    Calls Tryz.prog 98 #[.int .i64 a, .int .i64 b] w fun e w' => e = .returned (.agg #[.int .u64 (hi (a * b)), .int .u64 (lo (a * b))]) ∧ Below w.heap.size w w' := by
  have H : Hid (-((a.natAbs : Int) * (b.natAbs : Int)) = a * b) := abs_mul_apart a b (by rw [ha, hb]; simp)
  go_enter Tryz.func98, Tryz.ntmps98
  go_wp2_with fail
  refine (size_any a _ a1 a2).mono ?_
  rintro e w1 ⟨rfl, rfl⟩
  go_wp2_with fail
  refine (size_any b _ b1 b2).mono ?_
  rintro e w1 ⟨rfl, rfl⟩
  go_wp2_with fail
  refine (mul64_any a.natAbs b.natAbs (by omega) (by omega) _).mono ?_
  rintro e w1 ⟨rfl, rfl⟩
  cases s
  all_goals
    go_wp2_with fail
    refine (minus_any _ _).mono ?_
    rintro e w2 ⟨rfl, hb2⟩
    rw [H.out]
    obtain ⟨hc, hf⟩ := bcell hb2
    have q0 := hc w.heap.size 0 (by simp)
    have q1 := hc w.heap.size 1 (by simp)
    have q2 := hf w.heap.size 0 (by simp)
    have q3 := hf w.heap.size 1 (by simp)
    have hz := hb2.size
    simp at q0 q1 q2 q3 hz
    go_wp2_with fail
    refine bodyPost_ret (v := .agg #[.int .u64 (hi (a * b)), .int .u64 (lo (a * b))]) (by simp [results, Tryz.results98, go_sem, q0, q1]) rfl ⟨rfl, ?_⟩
    exact ((((Below.refl _ _).alloc (Nat.le_refl _) _).trans (hb2.mono (B' := w.heap.size) (by simp))).setCell (by simp) _).setCell (by simp) _
theorem times_any (a b : Int) (w : World) (a1 : -9223372036854775808 ≤ a) (a2 : a ≤ 9223372036854775807) (b1 : -9223372036854775808 ≤ b) (b2 : b ≤ 9223372036854775807) :
    Calls Tryz.prog 98 #[.int .i64 a, .int .i64 b] w fun e w' => e = .returned (.agg #[.int .u64 (hi (a * b)), .int .u64 (lo (a * b))]) ∧ Below w.heap.size w w' := by
  by_cases h : decide (b < 0) = decide (a < 0)
  · exact times_same a b _ rfl h w a1 a2 b1 b2
  · exact times_apart a b _ rfl (by revert h; cases decide (b < 0) <;> cases decide (a < 0) <;> simp) w a1 a2 b1 b2

theorem fits_mul (a b : Int) (a1 : -9223372036854775808 ≤ a) (a2 : a ≤ 9223372036854775807) (b1 : -9223372036854775808 ≤ b) (b2 : b ≤ 9223372036854775807) : Fits (a * b) := by
  have h := Nat.mul_le_mul (show a.natAbs ≤ 9223372036854775808 by omega) (show b.natAbs ≤ 9223372036854775808 by omega)
  rw [← Int.natAbs_mul] at h
  unfold Fits; omega
end Go.Proofs.YtdacfnodihannaaGreat
/-
  Contracts of package checked's negative, divide, fraction, Down and Up, given what Div64 answers at the words that come up.
-/
namespace Go.Proofs.YtdacfnodihannaaGreat
open Go.ChangeShapes Go.WideShapes Go.ChangeAt Go.RowKit

theorem tmodN (h c : Nat) : (h : Int).tmod (c : Int) = ((h % c : Nat) : Int) := rfl
/-- What Div64 owes at the words h, l by c: the quotient and the rest of the whole number that the words stand for. -/
def DivOk (h l c : Nat) : Prop := ∀ w : World, Calls Tryz.prog 114 #[.int .u64 (h : Int), .int .u64 (l : Int), .int .u64 (c : Int)] w fun e w' =>
  e = .returned (.tuple #[.int .u64 (((h * 18446744073709551616 + l) / c : Nat) : Int), .int .u64 (((h * 18446744073709551616 + l) % c : Nat) : Int)]) ∧ Below w.heap.size w w'

theorem neg_word (z : Int) (hz : Fits z) : (wrap64 (hi z) < 0) ↔ z < 0 := by
  unfold Fits at hz; unfold wrap64 hi; omega
set_option maxHeartbeats 400000 in
theorem negative_any (z : Int) (w : World) (hz : Fits z) :
    Calls Tryz.prog 99 #[.agg #[.int .u64 (hi z), .int .u64 (lo z)]] w fun e w' => e = .returned (.bool (decide (z < 0))) ∧ Below w.heap.size w w' := by
  have hd : decide (wrap64 (hi z) < 0) = decide (z < 0) := by simp only [neg_word z hz]
  have H := hd
  go_enter Tryz.func99, Tryz.ntmps99
  go_wp2
  go_ret
  exact ⟨by first | rfl | rw [hd], (Below.refl _ _).alloc (Nat.le_refl _) _⟩

set_option maxHeartbeats 400000 in
theorem div64_small (l c : Nat) (hl : l < 18446744073709551616) (hc0 : 0 < c) (hc : c < 18446744073709551616) : DivOk 0 l c := by
  intro w
  have h1 : ((c : Int) == 0) = false := by simp; omega
  go_enter Tryz.func114, Tryz.ntmps114
  go_wp2
  go_quiet (fail)
  go_wp2
  go_ret2
  refine ⟨?_, below_drewN (Below.refl _ _) _⟩
  show Ending.returned (.tuple #[.int .u64 (IntKind.u64.wrap ((l : Int) / (c : Int))), .int .u64 ((l : Int) % (c : Int))]) = _
  have e1 : IntKind.u64.wrap ((l : Int) / (c : Int)) = (((0 * 18446744073709551616 + l) / c : Nat) : Int) := by
    have e0 : (l : Int) / (c : Int) = ((l / c : Nat) : Int) := (Int.natCast_ediv l c).symm
    have := Nat.div_le_self l c
    rw [e0, IntKind.wrap_u64, Nat.zero_mul, Nat.zero_add]
    generalize l / c = q at *
    omega
  have e2 : (l : Int) % (c : Int) = (((0 * 18446744073709551616 + l) % c : Nat) : Int) := by
    rw [Nat.zero_mul, Nat.zero_add]; exact (Int.natCast_emod l c).symm
  rw [e1, e2]

set_option maxHeartbeats 400000 in
theorem divide_words (h l c : Nat) (w : World) (hh : h < 18446744073709551616) (hc0 : 0 < c) (hc : c < 18446744073709551616) (D : Hid (DivOk (h % c) l c)) :
    Calls Tryz.prog 101 #[.agg #[.int .u64 (h : Int), .int .u64 (l : Int)], .int .u64 (c : Int)] w fun e w' =>
      e = .returned (.tuple #[.agg #[.int .u64 ((h / c : Nat) : Int), .int .u64 (((h % c * 18446744073709551616 + l) / c : Nat) : Int)], .int .u64 (((h % c * 18446744073709551616 + l) % c : Nat) : Int)]) ∧ Below w.heap.size w w' := by
  have h1 : ((c : Int) == 0) = false := by simp; omega
  have h7 : ¬ c = 0 := by omega
  go_enter Tryz.func101, Tryz.ntmps101
  go_wp2
  go_region_held3 (fun w' => w'.cell? ⟨w.heap.size, 0, none⟩ = some (.int .u64 (h : Int)) ∧ w'.cell? ⟨w.heap.size, 1, none⟩ = some (.int .u64 (l : Int))) (go_keep) (first
   | (go_at_call 114; rw [tmodN h c]; refine (D.out _).mono ?_; rintro e w1 ⟨rfl, hb1⟩; obtain ⟨hd, hf⟩ := bcell hb1; have q0 := hd w.heap.size 0 (by simp; omega); have q1 := hd w.heap.size 1 (by simp; omega); have q2 := hd (w.heap.size + 1) 0 (by simp); have q3 := hd (w.heap.size + 1) 1 (by simp); have q4 := hf (w.heap.size + 1) 0 (by simp); have q5 := hf (w.heap.size + 1) 1 (by simp); simp at q0 q1 q2 q3 q4 q5))
  go_wp2
  have e1 : IntKind.u64.wrap ((h : Int) / (c : Int)) = ((h / c : Nat) : Int) := by
    have e0 : (h : Int) / (c : Int) = ((h / c : Nat) : Int) := (Int.natCast_ediv h c).symm
    have := Nat.div_le_self h c
    rw [e0, IntKind.wrap_u64]
    generalize h / c = q at *
    omega
  have e2 : ((h : Int) % (c : Int) * 18446744073709551616 + (l : Int)) / (c : Int) = (((h % c * 18446744073709551616 + l) / c : Nat) : Int) := by simp
  have e3 : ((h : Int) % (c : Int) * 18446744073709551616 + (l : Int)) % (c : Int) = (((h % c * 18446744073709551616 + l) % c : Nat) : Int) := by simp
  rw [e1, e2, e3]
  refine bodyPost_ret (v := .tuple #[.agg #[.int .u64 ((h / c : Nat) : Int), .int .u64 (((h % c * 18446744073709551616 + l) / c : Nat) : Int)], .int .u64 (((h % c * 18446744073709551616 + l) % c : Nat) : Int)]) (by simp [results, Tryz.results101, go_sem, q2, q3]) rfl ⟨rfl, ?_⟩
  exact (((((((Below.refl _ _).alloc (Nat.le_refl _) _).alloc (by simp) _).drew).trans (hb1.mono (B' := w.heap.size) (by simp; omega))).setCell (by simp) _).setCell (by simp) _)

theorem div_split (h l c : Nat) (hc0 : 0 < c) : (h * 18446744073709551616 + l) / c = h / c * 18446744073709551616 + (h % c * 18446744073709551616 + l) / c ∧ (h * 18446744073709551616 + l) % c = (h % c * 18446744073709551616 + l) % c := by
  have e : h * 18446744073709551616 + l = c * (h / c * 18446744073709551616) + (h % c * 18446744073709551616 + l) := by
    have := Nat.div_add_mod h c
    rw [← Nat.mul_assoc, ← Nat.add_assoc, ← Nat.add_mul, this]
  rw [e]
  exact ⟨Nat.mul_add_div hc0 _ _, Nat.mul_add_mod _ _ _⟩
theorem div_low (h l c : Nat) (hl : l < 18446744073709551616) (hc0 : 0 < c) : (h % c * 18446744073709551616 + l) / c < 18446744073709551616 := by
  rw [Nat.div_lt_iff_lt_mul hc0]
  have := Nat.mod_lt h hc0
  have h2 : (h % c + 1) * 18446744073709551616 ≤ c * 18446744073709551616 := Nat.mul_le_mul_right _ this
  rw [Nat.mul_comm 18446744073709551616 c]
  omega
/-- The words of a number that is not below 0. -/
def hiN (z : Int) : Nat := (hi z).toNat
def loN (z : Int) : Nat := (lo z).toNat
theorem hiN_eq (z : Int) : hi z = (hiN z : Int) := by have := hi_bd z; unfold hiN; omega
theorem loN_eq (z : Int) : lo z = (loN z : Int) := by have := lo_bd z; unfold loN; omega
theorem words_nat (z : Int) (hz : Fits z) (h0 : 0 ≤ z) : z = ((hiN z * 18446744073709551616 + loN z : Nat) : Int) := by
  have a := hiN_eq z
  have b := loN_eq z
  unfold Fits at hz
  unfold hi at a
  unfold lo at b
  omega
theorem hi_words (A B : Nat) (hA : A < 18446744073709551616) (hB : B < 18446744073709551616) : hi ((A * 18446744073709551616 + B : Nat) : Int) = (A : Int) := by unfold hi; omega
theorem lo_words (A B : Nat) (hB : B < 18446744073709551616) : lo ((A * 18446744073709551616 + B : Nat) : Int) = (B : Int) := by unfold lo; omega
theorem divide_any (z : Int) (c : Nat) (w : World) (hz : Fits z) (h0 : 0 ≤ z) (hc0 : 0 < c) (hc : c < 18446744073709551616) (D : DivOk (hiN z % c) (loN z) c) :
    Calls Tryz.prog 101 #[.agg #[.int .u64 (hi z), .int .u64 (lo z)], .int .u64 (c : Int)] w fun e w' =>
      e = .returned (.tuple #[.agg #[.int .u64 (hi (z / (c : Int))), .int .u64 (lo (z / (c : Int)))], .int .u64 (z % (c : Int))]) ∧ Below w.heap.size w w' := by
  have hh : hiN z < 18446744073709551616 := by have := hi_bd z; unfold hiN; omega
  have hl : loN z < 18446744073709551616 := by have := lo_bd z; unfold loN; omega
  have key := divide_words (hiN z) (loN z) c w hh hc0 hc D
  rw [hiN_eq z, loN_eq z]
  obtain ⟨d1, d2⟩ := div_split (hiN z) (loN z) c hc0
  have d3 := div_low (hiN z) (loN z) c hl hc0
  have d4 := Nat.div_le_self (hiN z) c
  have e0 := words_nat z hz h0
  have e1 : z / (c : Int) = ((hiN z / c * 18446744073709551616 + (hiN z % c * 18446744073709551616 + loN z) / c : Nat) : Int) := by
    rw [← d1]
    exact (congrArg (· / (c : Int)) e0).trans (Int.natCast_ediv _ _).symm
  have e2 : z % (c : Int) = (((hiN z % c * 18446744073709551616 + loN z) % c : Nat) : Int) := by
    rw [← d2]
    exact (congrArg (· % (c : Int)) e0).trans (Int.natCast_emod _ _).symm
  have e3 : hi (z / (c : Int)) = ((hiN z / c : Nat) : Int) := by
    rw [e1]; exact hi_words _ _ (by omega) d3
  have e4 : lo (z / (c : Int)) = (((hiN z % c * 18446744073709551616 + loN z) / c : Nat) : Int) := by
    rw [e1]; exact lo_words _ _ d3
  rw [e3, e4, e2]
  exact key

/-- What fraction brings before narrowing: the quotient of the sizes, turned, and one farther from 0 where something was cut off and that is the way to go. -/
def frac (p c : Int) (up : Bool) : Int :=
  if (!(decide (p < 0) == decide (c < 0))) = true then
    (if (p.natAbs : Int) % (c.natAbs : Int) ≠ 0 ∧ up = false then -((p.natAbs : Int) / (c.natAbs : Int)) + -1 else -((p.natAbs : Int) / (c.natAbs : Int)))
  else
    (if (p.natAbs : Int) % (c.natAbs : Int) ≠ 0 ∧ up = true then (p.natAbs : Int) / (c.natAbs : Int) + 1 else (p.natAbs : Int) / (c.natAbs : Int))

/-- A size that leaves room for one step more, either way. -/
def Small (z : Int) : Prop := 0 ≤ z ∧ z ≤ 170141183460469231731687303715884105726
theorem abs_prod (a b p : Int) (hpe : Hid (a * b = p)) (a1 : -9223372036854775808 ≤ a) (a2 : a ≤ 9223372036854775807) (b1 : -9223372036854775808 ≤ b) (b2 : b ≤ 9223372036854775807) : Small (p.natAbs : Int) := by
  have h := Nat.mul_le_mul (show a.natAbs ≤ 9223372036854775808 by omega) (show b.natAbs ≤ 9223372036854775808 by omega)
  rw [← Int.natAbs_mul, hpe.out] at h
  unfold Small
  omega
theorem Small.quo {p c : Int} (h : Small p) (hc : 0 ≤ c) : Small (p / c) := by
  unfold Small at *
  exact ⟨Int.ediv_nonneg h.1 hc, Int.le_trans (Int.ediv_le_self _ h.1) h.2⟩
theorem Small.fits {z : Int} (h : Small z) : Fits z := by unfold Small at h; unfold Fits; omega
theorem Small.fits1 {z : Int} (h : Small z) : Fits (z + 1) := by unfold Small at h; unfold Fits; omega
theorem Small.neg {z : Int} (h : Small z) : Fits (-z) := by unfold Small at h; unfold Fits; omega
theorem Small.neg1 {z : Int} (h : Small z) : Fits (-z + -1) := by unfold Small at h; unfold Fits; omega
theorem fits_prod (a b p : Int) (hpe : Hid (a * b = p)) (a1 : -9223372036854775808 ≤ a) (a2 : a ≤ 9223372036854775807) (b1 : -9223372036854775808 ≤ b) (b2 : b ≤ 9223372036854775807) : Fits p := by
  have := fits_mul a b a1 a2 b1 b2; rw [hpe.out] at this; exact this

set_option maxRecDepth 100000 in
set_option maxHeartbeats 1000000 in
theorem fraction_any (a b c p : Int) (hpe : Hid (a * b = p)) (up : Bool) (w : World) (a1 : -9223372036854775808 ≤ a) (a2 : a ≤ 9223372036854775807) (b1 : -9223372036854775808 ≤ b) (b2 : b ≤ 9223372036854775807)
    (c1 : -9223372036854775808 ≤ c) (c2 : c ≤ 9223372036854775807) (hc : (c == 0) = false) (D : Hid (DivOk (hiN (p.natAbs : Int) % c.natAbs) (loN (p.natAbs : Int)) c.natAbs)) :
    Calls Tryz.prog 86 #[.int .i64 a, .int .i64 b, .int .i64 c, .bool up] w fun e w' => e = .returned (narrowed (frac p c up)) ∧ Below w.heap.size w w' := by
  have hp : Fits p := fits_prod a b p hpe a1 a2 b1 b2
  have hps : Small (p.natAbs : Int) := abs_prod a b p hpe a1 a2 b1 b2
  have hpn : Fits (p.natAbs : Int) := hps.fits
  have hq : Small ((p.natAbs : Int) / (c.natAbs : Int)) := hps.quo (by omega)
  go_enter Tryz.func86, Tryz.ntmps86
  go_wp2_with fail
  refine (times_any a b _ a1 a2 b1 b2).mono ?_
  rintro e w1 ⟨rfl, hb1⟩
  rw [hpe.out]
  have s1 := hb1.size
  go_wp2_with fail
  refine (negative_any p _ hp).mono ?_
  rintro e w2 ⟨rfl, hb2⟩
  obtain ⟨hc2, hf2⟩ := bcell hb2
  have z2 := hb2.size
  have q20 := hc2 w1.heap.size 0 (by simp)
  have q21 := hc2 w1.heap.size 1 (by simp)
  have f20 := hf2 w1.heap.size 0 (by simp)
  have f21 := hf2 w1.heap.size 1 (by simp)
  simp at z2 q20 q21 f20 f21
  go_wp2_with fail
  refine (negative_any p _ hp).mono ?_
  rintro e w3 ⟨rfl, hb3⟩
  obtain ⟨hc3, hf3⟩ := bcell hb3
  have z3 := hb3.size
  have q30 := (hc3 w1.heap.size 0 (by omega)).trans q20
  have q31 := (hc3 w1.heap.size 1 (by omega)).trans q21
  have f30 := (hf3 w1.heap.size 0 (by omega)).trans f20
  have f31 := (hf3 w1.heap.size 1 (by omega)).trans f21
  have hB3 : Below w.heap.size w w3 := ((hb1.alloc hb1.size _).trans (hb2.mono (B' := w.heap.size) (by simp; omega))).trans (hb3.mono (by omega))
  clear hc2 hf2 hb2 hc3 hf3 hb3 q20 q21 f20 f21
  generalize hU : (!(decide (p < 0) == decide (c < 0))) = U
  have HU : Hid ((!(decide (p < 0) == decide (c < 0))) = U) := hU
  clear hU
  go_upto_if 26 with fail
  go_cut [10] (fun u wx => u = .bool U ∧ wx.cell? ⟨w1.heap.size, 0, none⟩ = some (.int .u64 (hi (p.natAbs : Int))) ∧ wx.cell? ⟨w1.heap.size, 1, none⟩ = some (.int .u64 (lo (p.natAbs : Int))) ∧ w1.heap.size < wx.heap.size ∧ Below w.heap.size w wx)
  case first =>
    by_cases hn : p < 0
    · go_wp2_with fail
      refine (minus_any p _).mono ?_
      rintro e w4 ⟨rfl, hb4⟩
      rw [show -p = (p.natAbs : Int) from by omega]
      obtain ⟨hc4, hf4⟩ := bcell hb4
      have z4 := hb4.size
      have q40 := (hc4 w1.heap.size 0 (by omega)).trans q30
      have q41 := (hc4 w1.heap.size 1 (by omega)).trans q31
      have f40 := (hf4 w1.heap.size 0 (by omega)).trans f30
      have f41 := (hf4 w1.heap.size 1 (by omega)).trans f31
      go_wp2_with fail
      go_meet
      case rel => exact ⟨rfl, by simp [q40, go_sem], by simp [q41, go_sem], by simp; omega, ((hB3.trans (hb4.mono (by omega))).setCell (by simp; omega) _).setCell (by simp; omega) _⟩
    · have hn' : (p.natAbs : Int) = p := by omega
      go_wp2_with fail
      go_meet
      case rel => exact ⟨rfl, by rw [hn']; exact q30, by rw [hn']; exact q31, by omega, hB3⟩
  case rest =>
    obtain ⟨rfl, r0, r1, rz, hB⟩ := hcut
    clear q30 q31 f30 f31 hB3 z2 z3
    go_upto_region 7 with fail
    go_cut [11, 12] (fun t r wx => ∃ g, t = .pointer (some ⟨g, 0, none⟩) ∧ r = .int .u64 ((p.natAbs : Int) % (c.natAbs : Int)) ∧ wx.cell? ⟨g, 0, none⟩ = some (.int .u64 (hi ((p.natAbs : Int) / (c.natAbs : Int)))) ∧ wx.cell? ⟨g, 1, none⟩ = some (.int .u64 (lo ((p.natAbs : Int) / (c.natAbs : Int)))) ∧ wx.frozen? ⟨g, 0, none⟩ = false ∧ wx.frozen? ⟨g, 1, none⟩ = false ∧ g < wx.heap.size ∧ w.heap.size ≤ g ∧ Below w.heap.size w wx)
    case first =>
      have hc0 : 0 < c.natAbs := by have := beq_eq_false_iff_ne.1 hc; omega
      have hw0 := World.new_ne wc _ r0
      have hw1 := World.new_ne wc _ r1
      go_region_held3 (fun w' => w'.cell? ⟨w1.heap.size, 0, none⟩ = some (.int .u64 (hi (p.natAbs : Int))) ∧ w'.cell? ⟨w1.heap.size, 1, none⟩ = some (.int .u64 (lo (p.natAbs : Int)))) (go_keep) (first
        | (go_at_call 102; refine (size_any c _ c1 c2).mono ?_; rintro e w5 ⟨rfl, rfl⟩)
        | (go_at_call 101; refine (divide_any _ _ _ hpn (by omega) hc0 (by omega) D.out).mono ?_; rintro e w6 ⟨rfl, hb6⟩; obtain ⟨hc6, hf6⟩ := bcell hb6; have z6 := hb6.size; have s60 := hc6 w1.heap.size 0 (by simp; omega); have s61 := hc6 w1.heap.size 1 (by simp; omega); simp at z6; simp [r0, r1] at s60 s61))
      · go_wp2_with fail
        go_meet
        case rel => exact ⟨w6.heap.size, rfl, rfl, by simp [go_sem], by simp [go_sem], by simp [go_sem], by simp [go_sem], by simp, by omega, (hB.drew.trans (hb6.mono (B' := w.heap.size) (by simp; omega))).alloc (by omega) _⟩
      all_goals
        have v0 := hc6 wc.heap.size 0 (by simp)
        have v1 := hc6 wc.heap.size 1 (by simp)
        have g0 := hf6 wc.heap.size 0 (by simp)
        have g1 := hf6 wc.heap.size 1 (by simp)
        simp at v0 v1 g0 g1
        go_wp2_with fail
        go_meet
        case rel => exact ⟨wc.heap.size, rfl, rfl, by simp [v0, go_sem], by simp [v1, go_sem], by simp [g0, go_sem], by simp [g1, go_sem], by simp; omega, by omega, ((((hB.drew.alloc (by simp; omega) _)).trans (hb6.mono (B' := w.heap.size) (by simp; omega))).setCell (by simp; omega) _).setCell (by simp; omega) _⟩
    case rest =>
      obtain ⟨g, rfl, rfl, k0, k1, kf0, kf1, kz, kw, kB⟩ := hcut
      clear r0 r1 rz hB
      have HF : Hid (frac p c up = if U = true then (if (p.natAbs : Int) % (c.natAbs : Int) ≠ 0 ∧ up = false then -((p.natAbs : Int) / (c.natAbs : Int)) + -1 else -((p.natAbs : Int) / (c.natAbs : Int))) else (if (p.natAbs : Int) % (c.natAbs : Int) ≠ 0 ∧ up = true then (p.natAbs : Int) / (c.natAbs : Int) + 1 else (p.natAbs : Int) / (c.natAbs : Int))) := by
        show _ = _
        unfold frac
        rw [HU.out]
      generalize (p.natAbs : Int) % (c.natAbs : Int) = R at *
      generalize (p.natAbs : Int) / (c.natAbs : Int) = Q at *
      go_upto_if 36 with fail
      go_cut [10, 13] (fun u t wx => ∃ T Q1 : Int, u = .bool U ∧ t = .int .i64 T ∧ Hid (T = if U = true then -1 else 1) ∧ Hid (Q1 = if U = true then -Q else Q) ∧ wx.cell? ⟨g, 0, none⟩ = some (.int .u64 (hi Q1)) ∧ wx.cell? ⟨g, 1, none⟩ = some (.int .u64 (lo Q1)) ∧ wx.frozen? ⟨g, 0, none⟩ = false ∧ wx.frozen? ⟨g, 1, none⟩ = false ∧ g < wx.heap.size ∧ Below w.heap.size w wx)
      case first =>
        cases U
        · go_wp2_with fail
          go_meet
          case rel => exact ⟨1, Q, rfl, rfl, rfl, rfl, k0, k1, kf0, kf1, kz, kB⟩
        · go_wp2_with fail
          refine (minus_any Q _).mono ?_
          rintro e w4 ⟨rfl, hb4⟩
          obtain ⟨hc4, hf4⟩ := bcell hb4
          have z4 := hb4.size
          have q40 := (hc4 g 0 (by omega)).trans k0
          have q41 := (hc4 g 1 (by omega)).trans k1
          have f40 := (hf4 g 0 (by omega)).trans kf0
          have f41 := (hf4 g 1 (by omega)).trans kf1
          go_wp2_with fail
          go_meet
          case rel => exact ⟨-1, -Q, rfl, rfl, rfl, rfl, by simp [q40, go_sem], by simp [q41, go_sem], by simp [f40, go_sem], by simp [f41, go_sem], by simp; omega, ((kB.trans (hb4.mono (by omega))).setCell (by simp; omega) _).setCell (by simp; omega) _⟩
      case rest =>
        obtain ⟨T, Q1, rfl, rfl, hT, hQ1, m0, m1, mf0, mf1, mz, mB⟩ := hcut
        clear k0 k1 kf0 kf1 kz kB
        go_upto_region 11 with fail
        go_cut [45] (fun t wx => t = .bool (decide (R ≠ 0 ∧ U ≠ up)) ∧ wx = wc)
        case first =>
          by_cases hr : R = 0
          · subst hr
            go_wp2_with fail
            go_meet
            case rel => exact ⟨by simp, rfl⟩
          · have hrb : (R != 0) = true := by simp [hr]
            go_wp2_with fail
            go_meet
            case rel => exact ⟨by simp [hr]; cases U <;> cases up <;> rfl, rfl⟩
        case rest =>
          obtain ⟨rfl, rfl⟩ := hcut
          have hB : ∃ B, decide (R ≠ 0 ∧ U ≠ up) = B := ⟨_, rfl⟩
          obtain ⟨B, hB⟩ := hB
          rw [hB]
          have HB : Hid (decide (R ≠ 0 ∧ U ≠ up) = B) := hB
          clear hB
          have t1 : -9223372036854775808 ≤ T := by rw [hT.out]; split <;> decide
          have t2 : T ≤ 9223372036854775807 := by rw [hT.out]; split <;> decide
          have hend : Hid ((if B = true then Q1 + T else Q1) = frac p c up) := by
            show _ = _
            rw [HF.out, hQ1.out, hT.out, ← HB.out]
            cases U <;> cases up <;> by_cases hr : R = 0 <;> simp [hr]
          have hfit : Fits (if B = true then Q1 + T else Q1) := by
            rw [hQ1.out, hT.out]
            cases U <;> cases B
            · exact hq.fits
            · exact hq.fits1
            · exact hq.neg
            · exact hq.neg1
          clear HF HU D
          obtain ⟨F, hF⟩ : ∃ F, Hid (F = if B = true then Q1 + T else Q1) := ⟨_, rfl⟩
          rw [← hF.out] at hfit
          have hend2 : Hid (F = frac p c up) := by
            show _ = _
            rw [hF.out, hend.out]
          clear hend
          go_upto_if 45 with fail
          go_cut [13] (fun t wx => t = .int .i64 T ∧ wx.cell? ⟨g, 0, none⟩ = some (.int .u64 (hi F)) ∧ wx.cell? ⟨g, 1, none⟩ = some (.int .u64 (lo F)) ∧ g < wx.heap.size ∧ Below w.heap.size w wx)
          case first =>
            cases B
            · have hF1 : F = Q1 := hF.out.trans (by simp)
              subst hF1
              go_wp2_with fail
              go_meet
              case rel => exact ⟨rfl, m0, m1, mz, mB⟩
            · have hF1 : F = Q1 + T := hF.out.trans (by simp)
              subst hF1
              go_wp2_with fail
              go_region_with (first
                | (go_at_call 104; refine (widen_any T _ t1 t2).mono ?_; rintro e w7 ⟨rfl, hb7⟩; obtain ⟨hc7, hf7⟩ := bcell hb7; have z7 := hb7.size; simp at z7; have v70 := hc7 g 0 (by simp; omega); have v71 := hc7 g 1 (by simp; omega); have g70 := hf7 g 0 (by simp; omega); have g71 := hf7 g 1 (by simp; omega); simp [m0, m1, mf0, mf1] at v70 v71 g70 g71)
                | (go_at_call 103; refine (plus_any _ _ _).mono ?_; rintro e w8 ⟨rfl, hb8⟩; obtain ⟨hc8, hf8⟩ := bcell hb8; have z8 := hb8.size; have v80 := (hc8 g 0 (by omega)).trans v70; have v81 := (hc8 g 1 (by omega)).trans v71; have g80 := (hf8 g 0 (by omega)).trans g70; have g81 := (hf8 g 1 (by omega)).trans g71))
              all_goals
                go_wp2_with fail
                go_meet
                case rel => exact ⟨rfl, by simp [v80, go_sem], by simp [v81, go_sem], by simp; omega, (((mB.drew.trans (hb7.mono (B' := w.heap.size) (by simp; omega))).trans (hb8.mono (B' := w.heap.size) (by omega))).setCell (by simp; omega) _).setCell (by simp; omega) _⟩
          case rest =>
            obtain ⟨rfl, n0, n1, nz, nB⟩ := hcut
            go_wp2_with fail
            refine (narrow_any F _ hfit).mono ?_
            rintro e w9 ⟨rfl, hb9⟩
            rw [hend2.out]
            go_wp2_with fail
            go_ret
            exact ⟨rfl, nB.trans (hb9.mono nB.size)⟩
end Go.Proofs.YtdacfnodihannaaGreat
/-
  Contracts of package checked's Down and Up, given what Div64 answers at the words that come up, and of the statements' own 'awake'.
-/
namespace Go.Proofs.YtdacfnodihannaaGreat
open Go.ChangeShapes Go.WideShapes Go.ChangeAt Go.RowKit

theorem fraction_zero (a b c : Int) (up : Bool) (w : World) (hc : (c == 0) = true) :
    Calls Tryz.prog 86 #[.int .i64 a, .int .i64 b, .int .i64 c, .bool up] w fun e w' => e = .returned (.iface 116 (.int .i64 11)) ∧ w' = w := by
  go_enter Tryz.func86, Tryz.ntmps86
  go_wp2
  go_ret
  exact ⟨rfl, rfl⟩
theorem down_zero (a b c : Int) (w : World) (hc : (c == 0) = true) :
    Calls Tryz.prog 63 #[.int .i64 a, .int .i64 b, .int .i64 c] w fun e w' => e = .returned (.tuple #[.int .i64 0, .int .i64 11]) ∧ w' = w := by
  go_enter Tryz.func63, Tryz.ntmps63
  go_wp2_with fail
  refine (fraction_zero a b c false _ hc).mono ?_
  rintro e w1 ⟨rfl, rfl⟩
  go_wp2_with fail
  refine (answer_no 11 _).mono ?_
  rintro e w2 ⟨rfl, rfl⟩
  go_wp2
  go_ret2
  exact ⟨rfl, rfl⟩
set_option maxHeartbeats 400000 in
theorem down_any (a b c p : Int) (hpe : Hid (a * b = p)) (w : World) (a1 : -9223372036854775808 ≤ a) (a2 : a ≤ 9223372036854775807) (b1 : -9223372036854775808 ≤ b) (b2 : b ≤ 9223372036854775807)
    (c1 : -9223372036854775808 ≤ c) (c2 : c ≤ 9223372036854775807) (hc : (c == 0) = false) (D : Hid (DivOk (hiN (p.natAbs : Int) % c.natAbs) (loN (p.natAbs : Int)) c.natAbs)) :
    Calls Tryz.prog 63 #[.int .i64 a, .int .i64 b, .int .i64 c] w fun e w' => e = .returned (.tuple #[.int .i64 (ansN (frac p c false)), .int .i64 (ansE (frac p c false))]) ∧ Below w.heap.size w w' := by
  go_enter Tryz.func63, Tryz.ntmps63
  go_wp2_with fail
  refine (fraction_any a b c p hpe false _ a1 a2 b1 b2 c1 c2 hc D).mono ?_
  rintro e w1 ⟨rfl, hb1⟩
  go_wp2_with fail
  refine (answer_any _ _).mono ?_
  rintro e w2 ⟨rfl, rfl⟩
  go_wp2
  go_ret2
  exact ⟨rfl, hb1⟩

end Go.Proofs.YtdacfnodihannaaGreat
/-
  Contracts of math/bits' Len64, LeadingZeros64 and Div64, for every input that Div64 does not refuse: the quotient and the rest of the number of 128 bits.
-/
namespace Go.Proofs.YtdacfnodihannaaGreat
open Go.ChangeShapes Go.WideShapes Go.ChangeAt Go.RowKit

set_option maxRecDepth 100000 in
theorem tab_size : (Lib.len8tab.size : Int) = 256 := by
  have h : Lib.len8tab.size = 256 := by decide
  omega
theorem tab_get (y : Int) (h : y.toNat < Lib.len8tab.size) : ((Lib.len8tab[y.toNat]'h).toNat : Int) = Lib.len8 y := by
  unfold Lib.len8
  rw [getElem?_pos Lib.len8tab y.toNat h]
  rfl
theorem wrap_sum (k a b : Nat) (hk : k ≤ 56) (ha : a ≤ 8) (hb : b = k + a) : wrap64 ((k : Int) + wrap64 (a : Int)) = (b : Int) := by
  unfold wrap64; omega
/-- The table's entry at the number shifted down by k bits, and k: the number's own length. -/
theorem tab_len (X k : Nat) (y : Int) (hk : k ≤ 56) (hX : X < 18446744073709551616) (hy : y.toNat = X / 2 ^ k) (hy0 : 0 ≤ y) (hy1 : y ≤ 255) (hx : k = 0 ∨ 2 ^ k ≤ X) (h : y.toNat < Lib.len8tab.size) :
    wrap64 ((k : Int) + wrap64 ((Lib.len8tab[y.toNat]'h).toNat : Int)) = (Lib.bitLen X : Int) := by
  rw [tab_get y h, Lib.len8_of y hy0 hy1]
  clear h
  have l := Lib.bitLen_le8' y hy0 hy1
  have s : Lib.bitLen X = k + Lib.bitLen y.toNat := by
    rw [hy]
    rcases hx with rfl | hx
    · simp
    · exact Lib.bitLen_shift k X hx hX
  exact wrap_sum k _ _ hk l s
theorem tab_len0 (X : Nat) (y : Int) (hy : y.toNat = X) (hy0 : 0 ≤ y) (hy1 : y ≤ 255) (h : y.toNat < Lib.len8tab.size) :
    wrap64 (wrap64 ((Lib.len8tab[y.toNat]'h).toNat : Int)) = (Lib.bitLen X : Int) := by
  rw [tab_get y h, Lib.len8_of y hy0 hy1]
  clear h
  have l := Lib.bitLen_le8' y hy0 hy1
  rw [hy] at l ⊢
  unfold wrap64; omega

set_option maxHeartbeats 4000000 in
set_option maxRecDepth 100000 in
theorem len64_any (x : Int) (w : World) (h0 : 0 ≤ x) (h1 : x ≤ 18446744073709551615) :
    Calls Tryz.prog 117 #[.int .u64 x] w fun e w' => e = .returned (.int .i64 (Lib.bitLen x.toNat)) ∧ w' = w := by
  have hs := tab_size
  go_enter Tryz.func117, Tryz.ntmps117
  go_wp2
  all_goals (go_ret; refine ⟨congrArg Ending.returned (congrArg (Value.int IntKind.i64) ?_), rfl⟩; go_light)
  · exact tab_len x.toNat 56 _ (by decide) (by omega) (by show _ = x.toNat / 72057594037927936; omega) (by omega) (by omega) (.inr (by show 72057594037927936 ≤ _; omega)) _
  · exact tab_len x.toNat 48 _ (by decide) (by omega) (by show _ = x.toNat / 281474976710656; omega) (by omega) (by omega) (.inr (by show 281474976710656 ≤ _; omega)) _
  · exact tab_len x.toNat 40 _ (by decide) (by omega) (by show _ = x.toNat / 1099511627776; omega) (by omega) (by omega) (.inr (by show 1099511627776 ≤ _; omega)) _
  · exact tab_len x.toNat 32 _ (by decide) (by omega) (by show _ = x.toNat / 4294967296; omega) (by omega) (by omega) (.inr (by show 4294967296 ≤ _; omega)) _
  · exact tab_len x.toNat 24 _ (by decide) (by omega) (by show _ = x.toNat / 16777216; omega) (by omega) (by omega) (.inr (by show 16777216 ≤ _; omega)) _
  · exact tab_len x.toNat 16 _ (by decide) (by omega) (by show _ = x.toNat / 65536; omega) (by omega) (by omega) (.inr (by show 65536 ≤ _; omega)) _
  · exact tab_len x.toNat 8 _ (by decide) (by omega) (by show _ = x.toNat / 256; omega) (by omega) (by omega) (.inr (by show 256 ≤ _; omega)) _
  · exact tab_len0 x.toNat _ rfl (by omega) (by omega) _

theorem lead_any (x : Int) (w : World) (h0 : 0 ≤ x) (h1 : x ≤ 18446744073709551615) :
    Calls Tryz.prog 116 #[.int .u64 x] w fun e w' => e = .returned (.int .i64 (64 - (Lib.bitLen x.toNat : Int))) ∧ w' = w := by
  have hl := Lib.bitLen_le x.toNat 64 (by decide) (by show x.toNat < 18446744073709551616; omega)
  go_enter Tryz.func116, Tryz.ntmps116
  go_wp2_with fail
  refine (len64_any x _ h0 h1).mono ?_
  rintro e w1 ⟨rfl, rfl⟩
  go_wp2
  go_ret
  exact ⟨rfl, rfl⟩
end Go.Proofs.YtdacfnodihannaaGreat
/-
  Plain numbers, no program: division of a number of two words by one word, as the school has it on halves of a word: what the trial digit is, when it is right, and how two digits make the quotient.
-/
namespace Go.Proofs.YtdacfnodihannaaGreat

/-- The trial digit q with its rest r, against the dividend's words u, d and the divisor y of halves v1, v0. -/
theorem trial_start (u d v1 v0 y : Nat) (hy : y = v1 * 4294967296 + v0) (h1 : 2147483648 ≤ v1) (h0 : v0 < 4294967296) (hu : u < y) (hd : d < 4294967296) :
    (u * 4294967296 + d) / y ≤ u / v1 ∧ u / v1 ≤ 4294967297 := by
  have e := Nat.div_add_mod u v1
  have hm := Nat.mod_lt u (show 0 < v1 by omega)
  generalize u / v1 = q at *
  generalize u % v1 = r at *
  constructor
  · apply Nat.le_of_lt_succ
    rw [Nat.div_lt_iff_lt_mul (by omega)]
    have e1 : (q + 1) * y = (v1 * q + v1) * 4294967296 + (q + 1) * v0 := by
      rw [hy, Nat.mul_add, ← Nat.mul_assoc, Nat.mul_comm (q + 1) v1, Nat.mul_add, Nat.mul_one]
    rw [show q.succ = q + 1 from rfl, e1]
    generalize v1 * q = m at *
    generalize (q + 1) * v0 = n at *
    omega
  · apply Nat.le_of_lt_succ
    apply Nat.lt_of_mul_lt_mul_left (a := v1)
    rw [show v1 * Nat.succ 4294967297 = v1 * 4294967296 + v1 + v1 by omega]
    generalize v1 * q = m at *
    omega
theorem digit_small (u d y : Nat) (hu : u < y) (hd : d < 4294967296) : (u * 4294967296 + d) / y < 4294967296 := by
  rw [Nat.div_lt_iff_lt_mul (by omega)]
  have : (u + 1) * 4294967296 ≤ y * 4294967296 := Nat.mul_le_mul_right _ hu
  rw [Nat.mul_comm 4294967296 y]
  omega
theorem trial_prod (u v1 v0 y q r : Nat) (hy : y = v1 * 4294967296 + v0) (hq : q * v1 + r = u) : q * y = (u - r) * 4294967296 + q * v0 ∧ r ≤ u := by
  have : u - r = q * v1 := by omega
  rw [this, hy, Nat.mul_add, ← Nat.mul_assoc]
  exact ⟨rfl, by omega⟩
theorem trial_step (u d v1 v0 y q r : Nat) (hy : y = v1 * 4294967296 + v0) (hu : u < y) (hd : d < 4294967296) (hq : q * v1 + r = u) (hle : (u * 4294967296 + d) / y ≤ q)
    (ht : 4294967296 ≤ q ∨ 4294967296 * r + d < q * v0) : 1 ≤ q ∧ (u * 4294967296 + d) / y ≤ q - 1 ∧ (q - 1) * v1 + (r + v1) = u := by
  have hs := digit_small u d y hu hd
  have hlt : (u * 4294967296 + d) / y < q := by
    rcases ht with ht | ht
    · omega
    · obtain ⟨e, hr⟩ := trial_prod u v1 v0 y q r hy hq
      rw [Nat.div_lt_iff_lt_mul (by omega), e]
      generalize q * v0 = m at *
      omega
  have h1 : 1 ≤ q := Nat.lt_of_le_of_lt (Nat.zero_le _) hlt
  refine ⟨h1, Nat.le_sub_one_of_lt hlt, ?_⟩
  obtain ⟨k, rfl⟩ : ∃ k, q = k + 1 := ⟨q - 1, by omega⟩
  rw [Nat.add_mul] at hq
  rw [Nat.add_sub_cancel]
  omega
theorem trial_end (u d v1 v0 y q r : Nat) (hy : y = v1 * 4294967296 + v0) (hu : u < y) (hq : q * v1 + r = u) (hle : (u * 4294967296 + d) / y ≤ q)
    (ht : q * v0 ≤ 4294967296 * r + d) : (u * 4294967296 + d) / y = q := by
  obtain ⟨e, hr⟩ := trial_prod u v1 v0 y q r hy hq
  have : q ≤ (u * 4294967296 + d) / y := by
    rw [Nat.le_div_iff_mul_le (by omega), e]
    generalize q * v0 = m at *
    omega
  omega
theorem trial_break (v0 q r d : Nat) (h0 : v0 < 4294967296) (hq : q ≤ 4294967296) (hr : 4294967296 ≤ r) : q * v0 ≤ 4294967296 * r + d := by
  have := Nat.mul_le_mul hq (show v0 ≤ 4294967295 by omega)
  omega
/-- Two digits make the quotient. -/
theorem two_digits (u d1 d0 y : Nat) (hu : u < y) : (u * 18446744073709551616 + (d1 * 4294967296 + d0)) / y = (u * 4294967296 + d1) / y * 4294967296 + ((u * 4294967296 + d1) % y * 4294967296 + d0) / y ∧
    (u * 18446744073709551616 + (d1 * 4294967296 + d0)) % y = ((u * 4294967296 + d1) % y * 4294967296 + d0) % y := by
  have e := Nat.div_add_mod (u * 4294967296 + d1) y
  have e2 : u * 18446744073709551616 + (d1 * 4294967296 + d0) = y * ((u * 4294967296 + d1) / y * 4294967296) + ((u * 4294967296 + d1) % y * 4294967296 + d0) := by
    rw [← Nat.mul_assoc]
    generalize y * ((u * 4294967296 + d1) / y) = m at *
    generalize (u * 4294967296 + d1) % y = n at *
    omega
  rw [e2]
  exact ⟨Nat.mul_add_div (by omega) _ _, Nat.mul_add_mod _ _ _⟩

/-! ### How far to shift -/
theorem len_lt (x : Nat) (hx : x < 18446744073709551616) : x < 2 ^ Lib.bitLen x := by
  apply Nat.lt_of_not_le
  intro h
  have s := Lib.bitLen_shift (Lib.bitLen x) x h hx
  have h1 : x / 2 ^ Lib.bitLen x ≠ 0 := by
    have := (Nat.le_div_iff_mul_le (Nat.two_pow_pos (Lib.bitLen x))).2 (show 1 * 2 ^ Lib.bitLen x ≤ x by omega)
    omega
  have h2 := Lib.bitLen_half (x / 2 ^ Lib.bitLen x) h1 (Nat.lt_of_le_of_lt (Nat.div_le_self _ _) hx)
  omega
theorem len_ge (x : Nat) (h0 : 0 < x) (hx : x < 18446744073709551616) : 1 ≤ Lib.bitLen x ∧ 2 ^ (Lib.bitLen x - 1) ≤ x := by
  have h2 := Lib.bitLen_half x (by omega) hx
  have h64 := Lib.bitLen_le x 64 (by decide) hx
  refine ⟨by omega, ?_⟩
  apply Nat.le_of_not_lt
  intro h
  have := Lib.bitLen_le x (Lib.bitLen x - 1) (by omega) h
  omega
theorem shift_of (c S : Nat) (h0 : 0 < c) (hc : c < 18446744073709551616) (hS : (64 : Int) - (Lib.bitLen c : Int) = (S : Int)) :
    S ≤ 63 ∧ c * 2 ^ S < 18446744073709551616 ∧ 9223372036854775808 ≤ c * 2 ^ S ∧ 2 ^ S * 2 ^ (64 - S) = 18446744073709551616 := by
  have h64 := Lib.bitLen_le c 64 (by decide) hc
  obtain ⟨h1, h2⟩ := len_ge c h0 hc
  have h3 := len_lt c hc
  have hp := Nat.two_pow_pos S
  refine ⟨by omega, ?_, ?_, ?_⟩
  · have := (Nat.mul_lt_mul_right hp).2 h3
    rw [← Nat.pow_add, show Lib.bitLen c + S = 64 by omega] at this
    exact this
  · have := Nat.mul_le_mul_right (2 ^ S) h2
    rw [← Nat.pow_add, show Lib.bitLen c - 1 + S = 63 by omega] at this
    exact this
  · rw [← Nat.pow_add, show S + (64 - S) = 64 by omega]
/-- The shifted dividend. -/
theorem shifted (h l c K J : Nat) (hl : l < 18446744073709551616) (hlt : h < c) (hKJ : K * J = 18446744073709551616) :
    l / J < K ∧ h * K + l / J < c * K ∧ (h * K + l / J) * 18446744073709551616 + l * K % 18446744073709551616 = (h * 18446744073709551616 + l) * K := by
  have hJ : 0 < J := by
    rcases Nat.eq_zero_or_pos J with h | h
    · rw [h] at hKJ; omega
    · exact h
  have hK : 0 < K := by
    rcases Nat.eq_zero_or_pos K with h | h
    · rw [h] at hKJ; omega
    · exact h
  have h1 : l / J < K := by rw [Nat.div_lt_iff_lt_mul hJ, hKJ]; exact hl
  have h2 : (h + 1) * K ≤ c * K := Nat.mul_le_mul_right _ hlt
  rw [Nat.add_mul, Nat.one_mul] at h2
  have h3 : l * K / 18446744073709551616 = l / J := by
    rw [← hKJ, Nat.mul_comm l K, Nat.mul_div_mul_left _ _ hK]
  have h4 := Nat.div_add_mod (l * K) 18446744073709551616
  rw [h3] at h4
  refine ⟨h1, by omega, ?_⟩
  rw [Nat.add_mul (h * 18446744073709551616) l K, Nat.mul_right_comm h 18446744073709551616 K]
  generalize h * K = m at *
  omega
theorem unshift (M c K : Nat) (hK : 0 < K) : M * K / (c * K) = M / c ∧ M * K % (c * K) / K = M % c := by
  rw [Nat.mul_div_mul_right _ _ hK, Nat.mul_mod_mul_right, Nat.mul_div_cancel _ hK]
  exact ⟨rfl, rfl⟩
theorem or_low (S h r : Nat) (hr : r < 2 ^ S) : h * 2 ^ S ||| r = h * 2 ^ S + r := by
  rw [Nat.mul_comm, Nat.two_pow_add_eq_or_of_lt hr]
end Go.Proofs.YtdacfnodihannaaGreat
/-
  Contract of math/bits Div64 for every divisor above the high word: the quotient and the rest of the number of 128 bits, proved of the library text itself (two trial digits, each made right by its loop).
-/
namespace Go.Proofs.YtdacfnodihannaaGreat
open Go.ChangeShapes Go.WideShapes Go.ChangeAt Go.RowKit
theorem wrap_nat (n : Nat) (h : n < 18446744073709551616) : IntKind.u64.wrap (n : Int) = (n : Int) := by rw [IntKind.wrap_u64]; omega
theorem wrap_mod (n : Nat) : IntKind.u64.wrap (n : Int) = ((n % 18446744073709551616 : Nat) : Int) := by rw [IntKind.wrap_u64]; omega
theorem low_half (n : Nat) (h : n < 18446744073709551616) : bits .and .u64 (n : Int) 4294967295 = ((n % 4294967296 : Nat) : Int) := by
  rw [and_low32 _ (by omega) (by omega)]; omega
theorem shl_nat (a S : Nat) : (a : Int) * 2 ^ S = ((a * 2 ^ S : Nat) : Int) := by simp
theorem shr_nat (a S : Nat) : (a : Int) / 2 ^ S = ((a / 2 ^ S : Nat) : Int) := by simp
theorem int_eq {k : IntKind} {a b : Int} (h : a = b) : Value.int k a = .int k b := by rw [h]
theorem sub_rest (U D Y q : Nat) (hY : Y < 18446744073709551616) (h0 : 0 < Y) (hq : (U * 4294967296 + D) / Y = q) :
    IntKind.u64.wrap (IntKind.u64.wrap (IntKind.u64.wrap ((U : Int) * 4294967296) + (D : Int)) - IntKind.u64.wrap ((q : Int) * (Y : Int))) = (((U * 4294967296 + D) % Y : Nat) : Int) := by
  have e := Nat.div_add_mod (U * 4294967296 + D) Y
  have hm := Nat.mod_lt (U * 4294967296 + D) h0
  rw [hq, Nat.mul_comm Y q] at e
  rw [← Int.natCast_mul]
  generalize (U * 4294967296 + D) % Y = n at *
  generalize q * Y = m at *
  simp only [IntKind.wrap_u64]
  omega
theorem tup_eq {a b c d : Int} (h1 : a = c) (h2 : b = d) : Ending.returned (.tuple #[.int .u64 a, .int .u64 b]) = .returned (.tuple #[.int .u64 c, .int .u64 d]) := by rw [h1, h2]
set_option maxRecDepth 100000 in
set_option maxHeartbeats 4000000 in
theorem div64_big (h l c : Nat) (hl : l < 18446744073709551616) (hc : c < 18446744073709551616) (h0 : 0 < h) (hlt : h < c) (w : World) :
    Calls Tryz.prog 114 #[.int .u64 (h : Int), .int .u64 (l : Int), .int .u64 (c : Int)] w fun e w' =>
  e = .returned (.tuple #[.int .u64 (((h * 18446744073709551616 + l) / c : Nat) : Int), .int .u64 (((h * 18446744073709551616 + l) % c : Nat) : Int)]) ∧ Below w.heap.size w w' := by
  have t1 : ((c : Int) == 0) = false := by simp; omega
  have t2 : ((h : Int) == 0) = false := by simp; omega
  have t3 : decide ((c : Int) ≤ (h : Int)) = false := by simp; omega
  obtain ⟨S, hS⟩ : ∃ S : Nat, (64 : Int) - (Lib.bitLen c : Int) = (S : Int) := ⟨64 - Lib.bitLen c, by have := Lib.bitLen_le c 64 (by decide) hc; omega⟩
  obtain ⟨s1, s2, s3, s4⟩ := shift_of c S (by omega) hc hS
  obtain ⟨p1, p2, p3⟩ := shifted h l c (2 ^ S) (2 ^ (64 - S)) hl hlt s4
  have HS : Hid ((64 : Int) - (Lib.bitLen c : Int) = (S : Int)) := hS
  obtain ⟨Y, hY⟩ : ∃ Y : Nat, Hid (c * 2 ^ S = Y) := ⟨_, rfl⟩
  obtain ⟨U, hU⟩ : ∃ U : Nat, Hid (h * 2 ^ S + l / 2 ^ (64 - S) = U) := ⟨_, rfl⟩
  obtain ⟨L, hL⟩ : ∃ L : Nat, Hid (l * 2 ^ S % 18446744073709551616 = L) := ⟨_, rfl⟩
  rw [hY.out] at s2 s3 p2
  rw [hU.out] at p2 p3
  rw [hL.out] at p3
  have hLb : L < 18446744073709551616 := by rw [← hL.out]; exact Nat.mod_lt _ (by decide)
  have P3 : Hid (U * 18446744073709551616 + L = (h * 18446744073709551616 + l) * 2 ^ S) := p3
  obtain ⟨V1, hV1⟩ : ∃ V1 : Nat, Hid (Y / 4294967296 = V1) := ⟨_, rfl⟩
  obtain ⟨V0, hV0⟩ : ∃ V0 : Nat, Hid (Y % 4294967296 = V0) := ⟨_, rfl⟩
  obtain ⟨D1, hD1⟩ : ∃ D1 : Nat, Hid (L / 4294967296 = D1) := ⟨_, rfl⟩
  obtain ⟨D0, hD0⟩ : ∃ D0 : Nat, Hid (L % 4294967296 = D0) := ⟨_, rfl⟩
  have v1 : 2147483648 ≤ V1 ∧ V1 < 4294967296 := by have := hV1.out; omega
  have v0 : V0 < 4294967296 := by have := hV0.out; omega
  have d1 : D1 < 4294967296 := by have := hD1.out; omega
  have d0 : D0 < 4294967296 := by have := hD0.out; omega
  have HY : Hid (Y = V1 * 4294967296 + V0) := by have a := hV1.out; have b := hV0.out; show Y = _; omega
  have HL : Hid (L = D1 * 4294967296 + D0) := by have a := hD1.out; have b := hD0.out; show L = _; omega
  have hor : Hid (bits .or .u64 (IntKind.u64.wrap ((h : Int) * 2 ^ S)) ((l : Int) / 2 ^ (64 - S)) = (U : Int)) := by
    have hb : h * 2 ^ S < 18446744073709551616 := Nat.lt_of_le_of_lt (Nat.le_trans (Nat.le_add_right _ _) (Nat.le_of_eq hU.out)) (Nat.lt_trans p2 s2)
    show _ = _
    rw [shl_nat, shr_nat, wrap_nat _ hb, u64_or_nat _ _ hb (Nat.lt_of_le_of_lt (Nat.div_le_self _ _) hl), or_low S h _ p1, hU.out]
  clear hS p3 s4 p1
  go_enter Tryz.func114, Tryz.ntmps114
  go_wp2_with fail
  refine (lead_any _ _ (by omega) (by omega)).mono ?_
  rintro e w1 ⟨rfl, rfl⟩
  rw [show (c : Int).toNat = c from by omega, HS.out]
  go_upto_region 14 with fail
  go_cut [2, 9, 10, 11, 12, 13, 14] (fun y v1 v0 u t d1 d0 wx => y = .int .u64 (Y : Int) ∧ v1 = .int .u64 (V1 : Int) ∧ v0 = .int .u64 (V0 : Int) ∧ u = .int .u64 (U : Int) ∧ d1 = .int .u64 (D1 : Int) ∧ d0 = .int .u64 (D0 : Int) ∧ wx = w1)
  case first =>
    go_wp2_with fail
    go_meet
    case rel =>
      have eY : IntKind.u64.wrap ((c : Int) * 2 ^ S) = (Y : Int) := by rw [shl_nat, hY.out, wrap_nat _ s2]
      have eL : IntKind.u64.wrap ((l : Int) * 2 ^ S) = (L : Int) := by rw [shl_nat, wrap_mod, hL.out]
      rw [eY, eL, hor.out]
      have a1 := hV1.out
      have a2 := hD1.out
      exact ⟨rfl, int_eq (by omega), int_eq (by rw [low_half Y s2, hV0.out]), rfl, int_eq (by omega), int_eq (by rw [low_half L hLb, hD0.out]), rfl⟩
  case rest =>
    obtain ⟨rfl, rfl, rfl, rfl, rfl, rfl, rfl⟩ := hcut
    go_upto_block 0 with fail
    go_cut [15, 16] from 19 to 134 (fun q r wx => ∃ Q : Nat, q = .int .u64 (Q : Int) ∧ Hid ((U * 4294967296 + D1) / Y = Q) ∧ wx = wc)
    case first =>
      go_wp2_with fail
      obtain ⟨g1, g2⟩ := trial_start U D1 V1 V0 Y HY.out v1.1 v0 p2 d1
      have g3 := Nat.div_add_mod U V1
      have g4 := Nat.mod_lt U (show 0 < V1 by omega)
      have e1 : IntKind.u64.wrap ((U : Int) / (V1 : Int)) = ((U / V1 : Nat) : Int) := by
        rw [← Int.natCast_ediv]; exact wrap_nat _ (by omega)
      have e2 : IntKind.u64.wrap ((U : Int) - IntKind.u64.wrap (((U / V1 : Nat) : Int) * (V1 : Int))) = ((U % V1 : Nat) : Int) := by
        rw [← Int.natCast_mul, Nat.mul_comm (U / V1) V1]
        generalize V1 * (U / V1) = m at *
        generalize U % V1 = n at *
        rw [wrap_nat m (by omega), IntKind.wrap_u64]
        omega
      rw [e1, e2]
      clear e1 e2
      have G : Hid (U / V1 * V1 + U % V1 = U) := by rw [Nat.mul_comm]; exact g3
      have G1 : Hid ((U * 4294967296 + D1) / Y ≤ U / V1) := g1
      have g5 : U % V1 < 4294967296 := by omega
      clear g1 g3 g4
      generalize U / V1 = Q0 at *
      generalize U % V1 = R0 at *
      go_loop [15, 16] (fun q r => ∃ Q R : Nat, q = .int .u64 (Q : Int) ∧ r = .int .u64 (R : Int) ∧ Hid (Q * V1 + R = U) ∧ Hid ((U * 4294967296 + D1) / Y ≤ Q) ∧ Q ≤ 4294967297 ∧ R < 4294967296) (fun q _ => (intOf q).toNat)
      case atStart => exact ⟨Q0, R0, rfl, rfl, G, G1, g2, g5⟩
      case round =>
        clear G G1 g2 g5
        obtain ⟨Q, R, rfl, rfl, k1, k2, k3, k4⟩ := hrel
        by_cases hq : 4294967296 ≤ Q
        · have b1 : decide ((4294967296 : Int) ≤ (Q : Int)) = true := by simp; omega
          have HQ : Hid (4294967296 ≤ Q) := hq
          clear hq
          obtain ⟨j1, j2, j3⟩ := trial_step U D1 V1 V0 Y Q R HY.out p2 d1 k1.out k2.out (.inl HQ.out)
          have J2 : Hid ((U * 4294967296 + D1) / Y ≤ Q - 1) := j2
          have J3 : Hid ((Q - 1) * V1 + (R + V1) = U) := j3
          clear j2 j3
          have K3 : Hid (Q ≤ 4294967297) := k3
          have k5 : (Q : Int) ≤ 18446744073709551615 := by omega
          have k6 : (R : Int) ≤ 4294967295 := by omega
          have k7 : (V1 : Int) ≤ 4294967295 := by omega
          have k8 : (1 : Int) ≤ (Q : Int) := by omega
          clear k3 k4
          by_cases hr : 4294967296 ≤ R + V1
          · have b2 : decide ((4294967296 : Int) ≤ (R : Int) + (V1 : Int)) = true := by simp; omega
            have HR : Hid (4294967296 ≤ R + V1) := hr
            clear hr
            go_wp2_with fail
            go_meet
            case rel => exact ⟨Q - 1, int_eq (by omega), trial_end U D1 V1 V0 Y (Q - 1) (R + V1) HY.out p2 J3.out J2.out (trial_break V0 (Q - 1) (R + V1) D1 v0 (by have := K3.out; omega) HR.out), rfl⟩
          · have b2 : decide ((4294967296 : Int) ≤ (R : Int) + (V1 : Int)) = false := by simp; omega
            have HR : Hid (¬ 4294967296 ≤ R + V1) := hr
            clear hr
            go_wp2_with fail
            go_round
            case rel => exact ⟨Q - 1, R + V1, int_eq (by omega), int_eq (by omega), J3, J2, by have := K3.out; omega, by have := HR.out; omega⟩
            case measure => simp [intOf]; omega
        · obtain ⟨P, hP⟩ : ∃ P : Nat, Hid (Q * V0 = P) := ⟨_, rfl⟩
          have hPi : (Q : Int) * (V0 : Int) = (P : Int) := by rw [← hP.out]; simp
          have hPb : P ≤ 18446744065119617025 := by rw [← hP.out]; exact Nat.mul_le_mul (show Q ≤ 4294967295 by omega) (show V0 ≤ 4294967295 by omega)
          have b1 : decide ((4294967296 : Int) ≤ (Q : Int)) = false := by simp; omega
          by_cases ht : 4294967296 * R + D1 < P
          · have b3 : decide ((4294967296 : Int) * (R : Int) + (D1 : Int) < (P : Int)) = true := by simp; omega
            have HT : Hid (4294967296 * R + D1 < Q * V0) := by rw [hP.out]; exact ht
            clear ht hq
            obtain ⟨j1, j2, j3⟩ := trial_step U D1 V1 V0 Y Q R HY.out p2 d1 k1.out k2.out (.inr HT.out)
            have J2 : Hid ((U * 4294967296 + D1) / Y ≤ Q - 1) := j2
            have J3 : Hid ((Q - 1) * V1 + (R + V1) = U) := j3
            clear j2 j3
            have K3 : Hid (Q ≤ 4294967297) := k3
            have k5 : (Q : Int) ≤ 18446744073709551615 := by omega
            have k6 : (R : Int) ≤ 4294967295 := by omega
            have k7 : (V1 : Int) ≤ 4294967295 := by omega
            have k8 : (1 : Int) ≤ (Q : Int) := by omega
            clear k3 k4
            by_cases hr : 4294967296 ≤ R + V1
            · have b2 : decide ((4294967296 : Int) ≤ (R : Int) + (V1 : Int)) = true := by simp; omega
              have HR : Hid (4294967296 ≤ R + V1) := hr
              clear hr
              go_wp2_with fail
              go_meet
              case rel => exact ⟨Q - 1, int_eq (by omega), trial_end U D1 V1 V0 Y (Q - 1) (R + V1) HY.out p2 J3.out J2.out (trial_break V0 (Q - 1) (R + V1) D1 v0 (by have := K3.out; omega) HR.out), rfl⟩
            · have b2 : decide ((4294967296 : Int) ≤ (R : Int) + (V1 : Int)) = false := by simp; omega
              have HR : Hid (¬ 4294967296 ≤ R + V1) := hr
              clear hr
              go_wp2_with fail
              go_round
              case rel => exact ⟨Q - 1, R + V1, int_eq (by omega), int_eq (by omega), J3, J2, by have := K3.out; omega, by have := HR.out; omega⟩
              case measure => simp [intOf]; omega
          · have b3 : decide ((4294967296 : Int) * (R : Int) + (D1 : Int) < (P : Int)) = false := by simp; omega
            have HT : Hid (Q * V0 ≤ 4294967296 * R + D1) := by show Q * V0 ≤ _; rw [hP.out]; exact Nat.le_of_not_lt ht
            clear ht
            go_wp2_with fail
            go_meet
            case rel => exact ⟨Q, rfl, trial_end U D1 V1 V0 Y Q R HY.out p2 k1.out k2.out HT.out, rfl⟩
    case rest =>
      obtain ⟨Q1, rfl, hQ1, rfl⟩ := hcut
      have q1b : Q1 < 4294967296 := by rw [← hQ1.out]; exact digit_small U D1 Y p2 d1
      obtain ⟨W, hW⟩ : ∃ W : Nat, Hid ((U * 4294967296 + D1) % Y = W) := ⟨_, rfl⟩
      have hWlt : W < Y := by rw [← hW.out]; exact Nat.mod_lt _ (by omega)
      go_upto_region 21 with fail
      go_cut [17] from 19 to 134 (fun t wx => t = .int .u64 (W : Int) ∧ wx = wc)
      case first =>
        go_wp2_with fail
        go_meet
        case rel => exact ⟨int_eq ((sub_rest U D1 Y Q1 s2 (by omega) hQ1.out).trans (congrArg _ hW.out)), rfl⟩
      case rest =>
        obtain ⟨rfl, rfl⟩ := hcut
        go_upto_block 2 with fail
        go_cut [18, 16] from 19 to 134 (fun q r wx => ∃ Q : Nat, q = .int .u64 (Q : Int) ∧ Hid ((W * 4294967296 + D0) / Y = Q) ∧ wx = wc)
        case first =>
          go_wp2_with fail
          obtain ⟨g1, g2⟩ := trial_start W D0 V1 V0 Y HY.out v1.1 v0 hWlt d0
          have g3 := Nat.div_add_mod W V1
          have g4 := Nat.mod_lt W (show 0 < V1 by omega)
          have e1 : IntKind.u64.wrap ((W : Int) / (V1 : Int)) = ((W / V1 : Nat) : Int) := by
            rw [← Int.natCast_ediv]; exact wrap_nat _ (by omega)
          have e2 : IntKind.u64.wrap ((W : Int) - IntKind.u64.wrap (((W / V1 : Nat) : Int) * (V1 : Int))) = ((W % V1 : Nat) : Int) := by
            rw [← Int.natCast_mul, Nat.mul_comm (W / V1) V1]
            generalize V1 * (W / V1) = m at *
            generalize W % V1 = n at *
            rw [wrap_nat m (by omega), IntKind.wrap_u64]
            omega
          rw [e1, e2]
          clear e1 e2
          have G : Hid (W / V1 * V1 + W % V1 = W) := by rw [Nat.mul_comm]; exact g3
          have G1 : Hid ((W * 4294967296 + D0) / Y ≤ W / V1) := g1
          have g5 : W % V1 < 4294967296 := by omega
          clear g1 g3 g4
          generalize W / V1 = Q0 at *
          generalize W % V1 = R0 at *
          go_loop [18, 16] (fun q r => ∃ Q R : Nat, q = .int .u64 (Q : Int) ∧ r = .int .u64 (R : Int) ∧ Hid (Q * V1 + R = W) ∧ Hid ((W * 4294967296 + D0) / Y ≤ Q) ∧ Q ≤ 4294967297 ∧ R < 4294967296) (fun q _ => (intOf q).toNat)
          case atStart => exact ⟨Q0, R0, rfl, rfl, G, G1, g2, g5⟩
          case round =>
            clear G G1 g2 g5
            obtain ⟨Q, R, rfl, rfl, k1, k2, k3, k4⟩ := hrel
            by_cases hq : 4294967296 ≤ Q
            · have b1 : decide ((4294967296 : Int) ≤ (Q : Int)) = true := by simp; omega
              have HQ : Hid (4294967296 ≤ Q) := hq
              clear hq
              obtain ⟨j1, j2, j3⟩ := trial_step W D0 V1 V0 Y Q R HY.out hWlt d0 k1.out k2.out (.inl HQ.out)
              have J2 : Hid ((W * 4294967296 + D0) / Y ≤ Q - 1) := j2
              have J3 : Hid ((Q - 1) * V1 + (R + V1) = W) := j3
              clear j2 j3
              have K3 : Hid (Q ≤ 4294967297) := k3
              have k5 : (Q : Int) ≤ 18446744073709551615 := by omega
              have k6 : (R : Int) ≤ 4294967295 := by omega
              have k7 : (V1 : Int) ≤ 4294967295 := by omega
              have k8 : (1 : Int) ≤ (Q : Int) := by omega
              clear k3 k4
              by_cases hr : 4294967296 ≤ R + V1
              · have b2 : decide ((4294967296 : Int) ≤ (R : Int) + (V1 : Int)) = true := by simp; omega
                have HR : Hid (4294967296 ≤ R + V1) := hr
                clear hr
                go_wp2_with fail
                go_meet
                case rel => exact ⟨Q - 1, int_eq (by omega), trial_end W D0 V1 V0 Y (Q - 1) (R + V1) HY.out hWlt J3.out J2.out (trial_break V0 (Q - 1) (R + V1) D0 v0 (by have := K3.out; omega) HR.out), rfl⟩
              · have b2 : decide ((4294967296 : Int) ≤ (R : Int) + (V1 : Int)) = false := by simp; omega
                have HR : Hid (¬ 4294967296 ≤ R + V1) := hr
                clear hr
                go_wp2_with fail
                go_round
                case rel => exact ⟨Q - 1, R + V1, int_eq (by omega), int_eq (by omega), J3, J2, by have := K3.out; omega, by have := HR.out; omega⟩
                case measure => simp [intOf]; omega
            · obtain ⟨P, hP⟩ : ∃ P : Nat, Hid (Q * V0 = P) := ⟨_, rfl⟩
              have hPi : (Q : Int) * (V0 : Int) = (P : Int) := by rw [← hP.out]; simp
              have hPb : P ≤ 18446744065119617025 := by rw [← hP.out]; exact Nat.mul_le_mul (show Q ≤ 4294967295 by omega) (show V0 ≤ 4294967295 by omega)
              have b1 : decide ((4294967296 : Int) ≤ (Q : Int)) = false := by simp; omega
              by_cases ht : 4294967296 * R + D0 < P
              · have b3 : decide ((4294967296 : Int) * (R : Int) + (D0 : Int) < (P : Int)) = true := by simp; omega
                have HT : Hid (4294967296 * R + D0 < Q * V0) := by rw [hP.out]; exact ht
                clear ht hq
                obtain ⟨j1, j2, j3⟩ := trial_step W D0 V1 V0 Y Q R HY.out hWlt d0 k1.out k2.out (.inr HT.out)
                have J2 : Hid ((W * 4294967296 + D0) / Y ≤ Q - 1) := j2
                have J3 : Hid ((Q - 1) * V1 + (R + V1) = W) := j3
                clear j2 j3
                have K3 : Hid (Q ≤ 4294967297) := k3
                have k5 : (Q : Int) ≤ 18446744073709551615 := by omega
                have k6 : (R : Int) ≤ 4294967295 := by omega
                have k7 : (V1 : Int) ≤ 4294967295 := by omega
                have k8 : (1 : Int) ≤ (Q : Int) := by omega
                clear k3 k4
                by_cases hr : 4294967296 ≤ R + V1
                · have b2 : decide ((4294967296 : Int) ≤ (R : Int) + (V1 : Int)) = true := by simp; omega
                  have HR : Hid (4294967296 ≤ R + V1) := hr
                  clear hr
                  go_wp2_with fail
                  go_meet
                  case rel => exact ⟨Q - 1, int_eq (by omega), trial_end W D0 V1 V0 Y (Q - 1) (R + V1) HY.out hWlt J3.out J2.out (trial_break V0 (Q - 1) (R + V1) D0 v0 (by have := K3.out; omega) HR.out), rfl⟩
                · have b2 : decide ((4294967296 : Int) ≤ (R : Int) + (V1 : Int)) = false := by simp; omega
                  have HR : Hid (¬ 4294967296 ≤ R + V1) := hr
                  clear hr
                  go_wp2_with fail
                  go_round
                  case rel => exact ⟨Q - 1, R + V1, int_eq (by omega), int_eq (by omega), J3, J2, by have := K3.out; omega, by have := HR.out; omega⟩
                  case measure => simp [intOf]; omega
              · have b3 : decide ((4294967296 : Int) * (R : Int) + (D0 : Int) < (P : Int)) = false := by simp; omega
                have HT : Hid (Q * V0 ≤ 4294967296 * R + D0) := by show Q * V0 ≤ _; rw [hP.out]; exact Nat.le_of_not_lt ht
                clear ht
                go_wp2_with fail
                go_meet
                case rel => exact ⟨Q, rfl, trial_end W D0 V1 V0 Y Q R HY.out hWlt k1.out k2.out HT.out, rfl⟩
        case rest =>
          obtain ⟨Q2, rfl, hQ2, rfl⟩ := hcut
          have q2b : Q2 < 4294967296 := by rw [← hQ2.out]; exact digit_small W D0 Y hWlt d0
          have fin1 : Hid (Q1 * 4294967296 + Q2 = (h * 18446744073709551616 + l) / c) := by
            show _ = _
            have t := (two_digits U D1 D0 Y p2).1
            rw [← HL.out, P3.out, hW.out, hQ1.out, hQ2.out, ← hY.out, (unshift _ c _ (Nat.two_pow_pos S)).1] at t
            exact t.symm
          have fin2 : Hid ((W * 4294967296 + D0) % Y / 2 ^ S = (h * 18446744073709551616 + l) % c) := by
            show _ = _
            have t := (two_digits U D1 D0 Y p2).2
            rw [← HL.out, P3.out, hW.out] at t
            rw [← t, ← hY.out, (unshift _ c _ (Nat.two_pow_pos S)).2]
          go_wp2_with fail
          go_ret2
          refine ⟨tup_eq ?_ ?_, Below.refl _ _⟩
          · rw [← fin1.out]; omega
          · rw [← fin2.out, sub_rest W D0 Y Q2 s2 (by omega) hQ2.out]; exact shr_nat _ S
theorem div64_any (h l c : Nat) (hl : l < 18446744073709551616) (hc : c < 18446744073709551616) (hlt : h < c) : DivOk h l c := by
  rcases Nat.eq_zero_or_pos h with rfl | h0
  · exact div64_small l c hl (by omega) hc
  · exact fun w => div64_big h l c hl hc h0 hlt w
end Go.Proofs.YtdacfnodihannaaGreat
/-
  Contracts of package checked's Down and Up for every input, with nothing left open; small facts on the answers.
-/
namespace Go.Proofs.YtdacfnodihannaaGreat
open Go.ChangeShapes Go.WideShapes Go.ChangeAt Go.RowKit

theorem ansE_ok (z : Int) (h : ansE z = 0) : (-9223372036854775808 ≤ z ∧ z ≤ 9223372036854775807) ∧ ansN z = z := by
  unfold ansE at h
  unfold ansN
  by_cases k : -9223372036854775808 ≤ z ∧ z ≤ 9223372036854775807
  · exact ⟨k, if_pos k⟩
  · rw [if_neg k] at h; exact absurd h (by decide)
theorem ans_in (z : Int) (k : -9223372036854775808 ≤ z ∧ z ≤ 9223372036854775807) : ansN z = z ∧ ansE z = 0 := by
  unfold ansN ansE; exact ⟨if_pos k, if_pos k⟩
theorem ansE_one (z : Int) : ansE z = 0 ∨ ansE z = 10 := by unfold ansE; split <;> simp
/-- What Div64 owes wherever a fraction is made. -/
theorem div_all (p c : Int) (c1 : -9223372036854775808 ≤ c) (c2 : c ≤ 9223372036854775807) (hc : (c == 0) = false) : DivOk (hiN (p.natAbs : Int) % c.natAbs) (loN (p.natAbs : Int)) c.natAbs := by
  have hc' := beq_eq_false_iff_ne.1 hc
  have h0 : 0 < c.natAbs := by omega
  exact div64_any _ _ _ (by have := lo_bd (p.natAbs : Int); unfold loN; omega) (by omega) (Nat.mod_lt _ h0)
theorem downs (a b c p : Int) (hpe : Hid (a * b = p)) (w : World) (a1 : -9223372036854775808 ≤ a) (a2 : a ≤ 9223372036854775807) (b1 : -9223372036854775808 ≤ b) (b2 : b ≤ 9223372036854775807)
    (c1 : -9223372036854775808 ≤ c) (c2 : c ≤ 9223372036854775807) (hc : (c == 0) = false) :
    Calls Tryz.prog 63 #[.int .i64 a, .int .i64 b, .int .i64 c] w fun e w' => e = .returned (.tuple #[.int .i64 (ansN (frac p c false)), .int .i64 (ansE (frac p c false))]) ∧ Below w.heap.size w w' :=
  down_any a b c p hpe w a1 a2 b1 b2 c1 c2 hc (div_all p c c1 c2 hc)
/-- Up is down, or one more. -/
theorem frac_next (p c : Int) : frac p c true = frac p c false ∨ frac p c true - 1 = frac p c false := by
  unfold frac
  split
  · by_cases h : (p.natAbs : Int) % (c.natAbs : Int) = 0
    · left; simp [h]
    · right; simp [h]; omega
  · by_cases h : (p.natAbs : Int) % (c.natAbs : Int) = 0
    · left; simp [h]
    · right; simp [h]
/-- A number times another one, by that one. -/
theorem frac_same (a c : Int) (hc : c ≠ 0) (up : Bool) : frac (a * c) c up = a := by
  have h0 : (c.natAbs : Int) ≠ 0 := by omega
  have e : ((a * c).natAbs : Int) = (a.natAbs : Int) * (c.natAbs : Int) := by rw [Int.natAbs_mul, Int.natCast_mul]
  have q : ((a * c).natAbs : Int) / (c.natAbs : Int) = (a.natAbs : Int) := by rw [e, Int.mul_ediv_cancel _ h0]
  have r : ((a * c).natAbs : Int) % (c.natAbs : Int) = 0 := by rw [e, Int.mul_emod_left]
  unfold frac
  rw [q, r]
  simp only [ne_eq, not_true_eq_false, false_and, if_false]
  by_cases ha : a = 0
  · subst ha; simp
  · by_cases hn : a < 0
    · by_cases hcn : c < 0
      · have : 0 < a * c := Int.mul_pos_of_neg_of_neg hn hcn
        rw [show decide (a * c < 0) = false by simp; omega, show decide (c < 0) = true by simp; omega]; simp; omega
      · have : a * c < 0 := Int.mul_neg_of_neg_of_pos hn (by omega)
        rw [show decide (a * c < 0) = true by simp; omega, show decide (c < 0) = false by simp; omega]; simp; omega
    · by_cases hcn : c < 0
      · have : a * c < 0 := Int.mul_neg_of_pos_of_neg (by omega) hcn
        rw [show decide (a * c < 0) = true by simp; omega, show decide (c < 0) = true by simp; omega]; simp; omega
      · have : 0 < a * c := Int.mul_pos (by omega) (by omega)
        rw [show decide (a * c < 0) = false by simp; omega, show decide (c < 0) = false by simp; omega]; simp; omega
/-- Of numbers that are not below 0, down is the plain quotient. -/
theorem frac_plain (p c : Int) (hp : 0 ≤ p) (hc : 0 < c) : frac p c false = p / c := by
  unfold frac
  rw [show decide (p < 0) = false by simp; omega, show decide (c < 0) = false by simp; omega, show (p.natAbs : Int) = p by omega, show (c.natAbs : Int) = c by omega]
  simp
end Go.Proofs.YtdacfnodihannaaGreat
/-
  Contracts of package checked's Sub, Neg and Mul, for every input.
-/
namespace Go.Proofs.YtdacfnodihannaaGreat
open Go.ChangeShapes Go.WideShapes Go.ChangeAt Go.RowKit

end Go.Proofs.YtdacfnodihannaaGreat
