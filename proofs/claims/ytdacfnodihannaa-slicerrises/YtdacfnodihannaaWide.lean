/-
  Contracts of package checked's inner functions, for every input: widen, plus, minus, narrow, answer over the landed program; a number of 128 bits is told by the whole number that its two words stand for.
-/
import Derived.Test.YtdacfnodihannaaRows
import Derived.Test.YtdacfnodihannaaNum
import Derived.WalkKit
import Derived.WalkSpells
import Derived.WalkLawsBesides
import Derived.ProofKit
import Derived.OpenShut
import Derived.Outline
import Derived.Deep.RegionHeld3
import Derived.Deep.QuietTactic
import Derived.BigQuiet
namespace Go.Proofs.Ytdacfnodihannaa
open Go.ChangeShapes Go.WideShapes Go.ChangeAt Go.RowKit

theorem xor_ones (b : Nat) (h : b < 2 ^ 64) : (2 ^ 64 - 1) ^^^ b = 2 ^ 64 - (b + 1) := by
  apply Nat.eq_of_testBit_eq
  intro i
  rw [Nat.testBit_xor, Nat.testBit_two_pow_sub_succ h, Nat.testBit_two_pow_sub_one]
  by_cases hi : i < 64
  · simp [hi]
  · have : b.testBit i = false := Nat.testBit_lt_two_pow (Nat.lt_of_lt_of_le h (Nat.pow_le_pow_right (by omega) (by omega)))
    simp [hi, this]
theorem not_word (a : Int) (h0 : 0 ≤ a) (h1 : a ≤ 18446744073709551615) : bits .xor .u64 IntKind.u64.max a = 18446744073709551615 - a := by
  have e : IntKind.u64.max = ((18446744073709551615 : Nat) : Int) := by decide
  obtain ⟨n, rfl⟩ := Int.eq_ofNat_of_zero_le h0
  rw [e, u64_xor_nat _ _ (by omega) (by omega), xor_ones n (by omega)]
  omega
theorem not_hi (x : Int) : bits .xor .u64 IntKind.u64.max (hi x) = hi (-x - 1) := by
  rw [not_word _ (hi_bd x).1 (hi_bd x).2, hi_not]
theorem not_lo (x : Int) : bits .xor .u64 IntKind.u64.max (lo x) = lo (-x - 1) := by
  rw [not_word _ (lo_bd x).1 (lo_bd x).2, lo_not]

theorem bcell {W w1 : World} (hb : Below W.heap.size W w1) : (∀ b o, b < W.heap.size → w1.cell? ⟨b, o, none⟩ = W.cell? ⟨b, o, none⟩) ∧ (∀ b o, b < W.heap.size → w1.frozen? ⟨b, o, none⟩ = W.frozen? ⟨b, o, none⟩) :=
  ⟨fun b o h => hb.cell (p := ⟨b, o, none⟩) h, fun b o h => hb.frozen (p := ⟨b, o, none⟩) h⟩
theorem agg_eq {a b c d : Int} (h1 : a = c) (h2 : b = d) : Ending.returned (.agg #[.int .u64 a, .int .u64 b]) = .returned (.agg #[.int .u64 c, .int .u64 d]) := by rw [h1, h2]
theorem wrap_hi (n : Int) (h1 : -9223372036854775808 ≤ n) (h2 : n ≤ 9223372036854775807) : IntKind.u64.wrap (n / 9223372036854775808) = hi n := by
  rw [IntKind.wrap_u64]; unfold hi; omega
theorem wrap_lo (n : Int) : IntKind.u64.wrap n = lo n := by
  rw [IntKind.wrap_u64]; unfold lo; omega

set_option maxHeartbeats 400000 in
theorem widen_any (n : Int) (w : World) (h1 : -9223372036854775808 ≤ n) (h2 : n ≤ 9223372036854775807) :
    Calls Try.prog 70 #[.int .i64 n] w fun e w' => e = .returned (.agg #[.int .u64 (hi n), .int .u64 (lo n)]) ∧ Below w.heap.size w w' := by
  go_enter Try.func70, Try.ntmps70
  go_wp2
  refine bodyPost_ret (v := .agg #[.int .u64 (IntKind.u64.wrap (n / 9223372036854775808)), .int .u64 (IntKind.u64.wrap n)]) (by simp [results, Try.results70, go_sem]) rfl ⟨agg_eq (wrap_hi n h1 h2) (wrap_lo n), ?_⟩
  exact (Below.refl _ _).alloc (Nat.le_refl _) _

theorem add64_run (x y c : Int) (hx : 0 ≤ x) (hy : 0 ≤ y) (hc : 0 ≤ c) (hc1 : c ≤ 1) (w : World) :
    (callFunc 78 #[.int .u64 x, .int .u64 y, .int .u64 c]).run Try.prog w =
      .ok (.value (.tuple #[.int .u64 ((x + y + c) % 18446744073709551616), .int .u64 ((x + y + c) / 18446744073709551616)])) w := by
  rw [run_callFunc_extern Try.func78 (by kernel_rfl) (by kernel_rfl) (by kernel_rfl) (e := add64Entry) (by kernel_rfl), run_add64 x y c hx hy hc hc1]
  rfl
def cy (x y : Int) : Int := (lo x + lo y) / 18446744073709551616
def cz (x y : Int) : Int := (hi x + hi y + cy x y) / 18446744073709551616
theorem add64_lo (x y : Int) (w : World) : (callFunc 78 #[.int .u64 (lo x), .int .u64 (lo y), .int .u64 0]).run Try.prog w = .ok (.value (.tuple #[.int .u64 (lo (x + y)), .int .u64 (cy x y)])) w := by
  have a := lo_bd x
  have b := lo_bd y
  rw [add64_run _ _ _ a.1 b.1 (by omega) (by omega)]
  unfold cy
  rw [Int.add_zero, lo_add]
theorem add64_hi (x y : Int) (w : World) : (callFunc 78 #[.int .u64 (hi x), .int .u64 (hi y), .int .u64 (cy x y)]).run Try.prog w = .ok (.value (.tuple #[.int .u64 (hi (x + y)), .int .u64 (cz x y)])) w := by
  have a := lo_bd x
  have b := lo_bd y
  have c := hi_bd x
  have d := hi_bd y
  rw [add64_run _ _ _ c.1 d.1 (by unfold cy; omega) (by unfold cy; omega)]
  unfold cz
  have e := hi_add x y
  unfold cy
  rw [e]

set_option maxHeartbeats 400000 in
theorem plus_any (x y : Int) (w : World) :
    Calls Try.prog 69 #[.agg #[.int .u64 (hi x), .int .u64 (lo x)], .agg #[.int .u64 (hi y), .int .u64 (lo y)]] w fun e w' => e = .returned (.agg #[.int .u64 (hi (x + y)), .int .u64 (lo (x + y))]) ∧ Below w.heap.size w w' := by
  have r1 := add64_lo x y
  have r2 := add64_hi x y
  go_enter Try.func69, Try.ntmps69
  go_wp2
  refine bodyPost_ret (v := .agg #[.int .u64 (hi (x + y)), .int .u64 (lo (x + y))]) (by simp [results, Try.results69, go_sem]) rfl ⟨rfl, ?_⟩
  exact (((Below.refl _ _).alloc (Nat.le_refl _) _).alloc (by simp) _).alloc (by simp; omega) _

set_option maxHeartbeats 400000 in
theorem minus_any (x : Int) (w : World) :
    Calls Try.prog 66 #[.agg #[.int .u64 (hi x), .int .u64 (lo x)]] w fun e w' => e = .returned (.agg #[.int .u64 (hi (-x)), .int .u64 (lo (-x))]) ∧ Below w.heap.size w w' := by
  go_enter Try.func66, Try.ntmps66
  go_wp2
  go_region_held3 (fun w' => w'.cell? ⟨w.heap.size, 0, none⟩ = some (.int .u64 (hi x)) ∧ w'.cell? ⟨w.heap.size, 1, none⟩ = some (.int .u64 (lo x))) (go_keep) (first
   | (go_at_call 70; refine (widen_any 1 _ (by decide) (by decide)).mono ?_; rintro e w1 ⟨rfl, hb1⟩; obtain ⟨hc, hf⟩ := bcell hb1; have q0 := hc w.heap.size 0 (by simp; omega); have q1 := hc w.heap.size 1 (by simp; omega); have q2 := hf (w.heap.size + 1) 0 (by simp); have q3 := hf (w.heap.size + 1) 1 (by simp); have q4 := hc (w.heap.size + 1) 0 (by simp); have q5 := hc (w.heap.size + 1) 1 (by simp); have hz := hb1.size; simp at hz q0 q1 q2 q3 q4 q5)
   | (go_at_call 69; rw [not_hi, not_lo]; refine (plus_any _ _ _).mono ?_; rintro e w2 ⟨rfl, hb2⟩; obtain ⟨hd, hg⟩ := bcell hb2; have u0 := hd w.heap.size 0 (by omega); have u1 := hd w.heap.size 1 (by omega); have u2 := hg (w.heap.size + 1) 0 (by omega); have u3 := hg (w.heap.size + 1) 1 (by omega); have u4 := hd (w.heap.size + 1) 0 (by omega); have u5 := hd (w.heap.size + 1) 1 (by omega); have hy := hb2.size; rw [show -x - 1 + 1 = -x from by omega]; simp only [q0, q1, q2, q3, q4, q5] at u0 u1 u2 u3 u4 u5))
  go_wp2
  have hbel := ((((Below.refl _ _).alloc (Nat.le_refl _) _).alloc (by simp) _).drew.trans (hb1.mono (B' := w.heap.size) (by simp; omega))).trans (hb2.mono (B' := w.heap.size) (by omega))
  refine bodyPost_ret (v := .agg #[.int .u64 (hi (-x)), .int .u64 (lo (-x))]) (by simp [results, Try.results66, go_sem, u4, u5]) rfl ⟨rfl, ?_⟩
  exact (hbel.setCell (by simp) _).setCell (by simp) _

/-- narrow's answer: an int that holds the number, or the refusal that says there is no room. -/
def narrowed (z : Int) : Value := if -9223372036854775808 ≤ z ∧ z ≤ 9223372036854775807 then .iface 3 (.int .i64 z) else .iface 84 (.int .i64 10)
theorem narrow_eq (z : Int) (h : -9223372036854775808 ≤ z ∧ z ≤ 9223372036854775807) : wrap64 (lo z) = z := by
  unfold lo wrap64; omega
theorem narrow_bd (z : Int) : -9223372036854775808 ≤ wrap64 (lo z) ∧ wrap64 (lo z) ≤ 9223372036854775807 := by
  unfold wrap64; omega
theorem narrow_lo (z : Int) : lo (wrap64 (lo z)) = lo z := by
  unfold lo wrap64; omega
theorem narrow_hi (z : Int) (hz : Fits z) (h : ¬ (-9223372036854775808 ≤ z ∧ z ≤ 9223372036854775807)) : (hi (wrap64 (lo z)) == hi z) = false := by
  rw [beq_eq_false_iff_ne]
  unfold Fits at hz
  unfold hi lo wrap64; omega
/-- Two wide numbers are held against each other word by word. -/
theorem wide_eq (a b c d : Int) (w : World) : (Op.equalIn 10000 89 (.agg #[.int .u64 a, .int .u64 b]) (.agg #[.int .u64 c, .int .u64 d])).run Try.prog w = .ok (a == c && b == d) w := by
  obtain ⟨i, hi⟩ := Option.isSome_iff_exists.1 (show (Try.prog.info? 87).isSome = true by kernel_rfl)
  rw [show (10000 : Nat) = 9999 + 1 from rfl, run_equalIn_array (P := Try.prog) w 9999 _ _ Try.underlying89 hi]
  have e : Try.prog.cellsOf 87 = 1 := by kernel_rfl
  rw [e]
  simp [Op.eqItems, List.range_succ, go_sem]
  by_cases h1 : a = c <;> by_cases h2 : b = d <;> simp [h1, h2]
set_option maxHeartbeats 400000 in
theorem narrow_yes (z : Int) (w : World) (h : -9223372036854775808 ≤ z ∧ z ≤ 9223372036854775807) :
    Calls Try.prog 71 #[.agg #[.int .u64 (hi z), .int .u64 (lo z)]] w fun e w' => e = .returned (.iface 3 (.int .i64 z)) ∧ Below w.heap.size w w' := by
  have lb := lo_bd z
  have we := fun w => wide_eq (hi z) (lo z) (hi z) (lo z) w
  simp only [beq_self_eq_true, Bool.and_self] at we
  go_enter Try.func71, Try.ntmps71
  go_wp2
  rw [narrow_eq z h]
  go_region_held3 (fun w' => w'.cell? ⟨w.heap.size, 0, none⟩ = some (.int .u64 (hi z)) ∧ w'.cell? ⟨w.heap.size, 1, none⟩ = some (.int .u64 (lo z))) (go_keep) (first
   | (go_at_call 70; refine (widen_any _ _ h.1 h.2).mono ?_; rintro e w1 ⟨rfl, hb1⟩; obtain ⟨hc, hf⟩ := bcell hb1; have q0 := hc w.heap.size 0 (by simp); have q1 := hc w.heap.size 1 (by simp); simp at q0 q1))
  go_wp2
  go_ret
  exact ⟨rfl, ((Below.refl _ _).alloc (Nat.le_refl _) _).drew.trans (hb1.mono (B' := w.heap.size) (by simp))⟩
set_option maxHeartbeats 400000 in
theorem narrow_no (z : Int) (w : World) (hz : Fits z) (h : ¬ (-9223372036854775808 ≤ z ∧ z ≤ 9223372036854775807)) :
    Calls Try.prog 71 #[.agg #[.int .u64 (hi z), .int .u64 (lo z)]] w fun e w' => e = .returned (.iface 84 (.int .i64 10)) ∧ Below w.heap.size w w' := by
  have lb := lo_bd z
  have nb := narrow_bd z
  have we := fun w => wide_eq (hi (wrap64 (lo z))) (lo (wrap64 (lo z))) (hi z) (lo z) w
  simp only [narrow_hi z hz h, Bool.false_and] at we
  go_enter Try.func71, Try.ntmps71
  go_wp2
  go_region_held3 (fun w' => w'.cell? ⟨w.heap.size, 0, none⟩ = some (.int .u64 (hi z)) ∧ w'.cell? ⟨w.heap.size, 1, none⟩ = some (.int .u64 (lo z))) (go_keep) (first
   | (go_at_call 70; refine (widen_any _ _ nb.1 nb.2).mono ?_; rintro e w1 ⟨rfl, hb1⟩; obtain ⟨hc, hf⟩ := bcell hb1; have q0 := hc w.heap.size 0 (by simp); have q1 := hc w.heap.size 1 (by simp); simp at q0 q1))
  go_wp2
  go_ret
  exact ⟨rfl, ((Below.refl _ _).alloc (Nat.le_refl _) _).drew.trans (hb1.mono (B' := w.heap.size) (by simp))⟩

theorem narrow_any (z : Int) (w : World) (hz : Fits z) :
    Calls Try.prog 71 #[.agg #[.int .u64 (hi z), .int .u64 (lo z)]] w fun e w' => e = .returned (narrowed z) ∧ Below w.heap.size w w' := by
  unfold narrowed
  by_cases h : -9223372036854775808 ≤ z ∧ z ≤ 9223372036854775807
  · rw [if_pos h]; exact narrow_yes z w h
  · rw [if_neg h]; exact narrow_no z w hz h

/-- answer: the number, or why there is none. -/
theorem as_int_why (n : Int) (w : World) : (Instr.typeAssert (.iface 3 (.int .i64 n)) 20 84 true).run Try.prog w = .ok (.tuple #[.int .i64 0, .bool false]) w := by kernel_rfl
theorem as_int_int (n : Int) (w : World) : (Instr.typeAssert (.iface 3 (.int .i64 n)) 20 3 true).run Try.prog w = .ok (.tuple #[.int .i64 n, .bool true]) w := by kernel_rfl
theorem as_why_why (n : Int) (w : World) : (Instr.typeAssert (.iface 84 (.int .i64 n)) 20 84 true).run Try.prog w = .ok (.tuple #[.int .i64 n, .bool true]) w := by kernel_rfl
theorem answer_yes (n : Int) (w : World) :
    Calls Try.prog 55 #[.iface 3 (.int .i64 n)] w fun e w' => e = .returned (.tuple #[.int .i64 n, .int .i64 0]) ∧ w' = w := by
  have t1 := as_int_why n
  have t2 := as_int_int n
  go_enter Try.func55, Try.ntmps55
  go_wp2
  go_ret2
  exact ⟨rfl, rfl⟩
theorem answer_no (n : Int) (w : World) :
    Calls Try.prog 55 #[.iface 84 (.int .i64 n)] w fun e w' => e = .returned (.tuple #[.int .i64 0, .int .i64 n]) ∧ w' = w := by
  have t1 := as_why_why n
  go_enter Try.func55, Try.ntmps55
  go_wp2
  go_ret2
  exact ⟨rfl, rfl⟩
def ansN (z : Int) : Int := if -9223372036854775808 ≤ z ∧ z ≤ 9223372036854775807 then z else 0
def ansE (z : Int) : Int := if -9223372036854775808 ≤ z ∧ z ≤ 9223372036854775807 then 0 else 10
theorem answer_any (z : Int) (w : World) :
    Calls Try.prog 55 #[narrowed z] w fun e w' => e = .returned (.tuple #[.int .i64 (ansN z), .int .i64 (ansE z)]) ∧ w' = w := by
  unfold narrowed ansN ansE
  by_cases h : -9223372036854775808 ≤ z ∧ z ≤ 9223372036854775807
  · simp only [if_pos h]; exact answer_yes z w
  · simp only [if_neg h]; exact answer_no 10 w

set_option maxHeartbeats 400000 in
theorem add_any (a b : Int) (w : World) (a1 : -9223372036854775808 ≤ a) (a2 : a ≤ 9223372036854775807) (b1 : -9223372036854775808 ≤ b) (b2 : b ≤ 9223372036854775807) :
    Calls Try.prog 63 #[.int .i64 a, .int .i64 b] w fun e w' => e = .returned (.tuple #[.int .i64 (ansN (a + b)), .int .i64 (ansE (a + b))]) ∧ Below w.heap.size w w' := by
  have hz : Fits (a + b) := by unfold Fits; omega
  go_enter Try.func63, Try.ntmps63
  go_wp2_with fail
  refine (widen_any a _ a1 a2).mono ?_
  rintro e w1 ⟨rfl, hb1⟩
  go_wp2_with fail
  refine (widen_any b _ b1 b2).mono ?_
  rintro e w2 ⟨rfl, hb2⟩
  go_wp2_with fail
  refine (plus_any a b _).mono ?_
  rintro e w3 ⟨rfl, hb3⟩
  go_wp2_with fail
  refine (narrow_any (a + b) _ hz).mono ?_
  rintro e w4 ⟨rfl, hb4⟩
  go_wp2_with fail
  refine (answer_any (a + b) _).mono ?_
  rintro e w5 ⟨rfl, rfl⟩
  go_wp2
  go_ret2
  have s1 := hb1.size
  have s2 := hb2.size
  have s3 := hb3.size
  exact ⟨rfl, ((hb1.trans (hb2.mono s1)).trans (hb3.mono (by omega))).trans (hb4.mono (by omega))⟩
end Go.Proofs.Ytdacfnodihannaa
