/-
  Contracts of package checked's negative, divide, fraction, Down and Up, given what Div64 answers at the words that come up.
-/
import Derived.Test.YtdacfnodihannaaTimes
import Derived.Deep.DeepCutAuto
namespace Go.Proofs.Ytdacfnodihannaa
open Go.ChangeShapes Go.WideShapes Go.ChangeAt Go.RowKit

theorem tmodN (h c : Nat) : (h : Int).tmod (c : Int) = ((h % c : Nat) : Int) := rfl
/-- What Div64 owes at the words h, l by c: the quotient and the rest of the whole number that the words stand for. -/
def DivOk (h l c : Nat) : Prop := ∀ w : World, Calls Try.prog 77 #[.int .u64 (h : Int), .int .u64 (l : Int), .int .u64 (c : Int)] w fun e w' =>
  e = .returned (.tuple #[.int .u64 (((h * 18446744073709551616 + l) / c : Nat) : Int), .int .u64 (((h * 18446744073709551616 + l) % c : Nat) : Int)]) ∧ Below w.heap.size w w'

theorem neg_word (z : Int) (hz : Fits z) : (wrap64 (hi z) < 0) ↔ z < 0 := by
  unfold Fits at hz; unfold wrap64 hi; omega
set_option maxHeartbeats 400000 in
theorem negative_any (z : Int) (w : World) (hz : Fits z) :
    Calls Try.prog 65 #[.agg #[.int .u64 (hi z), .int .u64 (lo z)]] w fun e w' => e = .returned (.bool (decide (z < 0))) ∧ Below w.heap.size w w' := by
  have hd : decide (wrap64 (hi z) < 0) = decide (z < 0) := by simp only [neg_word z hz]
  have H := hd
  go_enter Try.func65, Try.ntmps65
  go_wp2
  go_ret
  exact ⟨by first | rfl | rw [hd], (Below.refl _ _).alloc (Nat.le_refl _) _⟩

set_option maxHeartbeats 400000 in
theorem div64_small (l c : Nat) (hl : l < 18446744073709551616) (hc0 : 0 < c) (hc : c < 18446744073709551616) : DivOk 0 l c := by
  intro w
  have h1 : ((c : Int) == 0) = false := by simp; omega
  go_enter Try.func77, Try.ntmps77
  go_wp2
  go_quiet (fail)
  go_wp2
  go_ret2
  refine ⟨?_, below_drewN (Below.refl _ _) _⟩
  show Ending.returned (.tuple #[.int .u64 (IntKind.u64.wrap ((l : Int) / (c : Int))), .int .u64 ((l : Int) % (c : Int))]) = _
  have e1 : IntKind.u64.wrap ((l : Int) / (c : Int)) = (((0 * 18446744073709551616 + l) / c : Nat) : Int) := by
    have e0 : (l : Int) / (c : Int) = ((l / c : Nat) : Int) := (Int.natCast_ediv l c).symm
    have := Nat.div_le_self l c
    rw [e0, IntKind.wrap_u64, Nat.zero_mul, Nat.zero_add]
    generalize l / c = q at *
    omega
  have e2 : (l : Int) % (c : Int) = (((0 * 18446744073709551616 + l) % c : Nat) : Int) := by
    rw [Nat.zero_mul, Nat.zero_add]; exact (Int.natCast_emod l c).symm
  rw [e1, e2]

set_option maxHeartbeats 400000 in
theorem divide_words (h l c : Nat) (w : World) (hh : h < 18446744073709551616) (hc0 : 0 < c) (hc : c < 18446744073709551616) (D : Hid (DivOk (h % c) l c)) :
    Calls Try.prog 67 #[.agg #[.int .u64 (h : Int), .int .u64 (l : Int)], .int .u64 (c : Int)] w fun e w' =>
      e = .returned (.tuple #[.agg #[.int .u64 ((h / c : Nat) : Int), .int .u64 (((h % c * 18446744073709551616 + l) / c : Nat) : Int)], .int .u64 (((h % c * 18446744073709551616 + l) % c : Nat) : Int)]) ∧ Below w.heap.size w w' := by
  have h1 : ((c : Int) == 0) = false := by simp; omega
  have h7 : ¬ c = 0 := by omega
  go_enter Try.func67, Try.ntmps67
  go_wp2
  go_region_held3 (fun w' => w'.cell? ⟨w.heap.size, 0, none⟩ = some (.int .u64 (h : Int)) ∧ w'.cell? ⟨w.heap.size, 1, none⟩ = some (.int .u64 (l : Int))) (go_keep) (first
   | (go_at_call 77; rw [tmodN h c]; refine (D.out _).mono ?_; rintro e w1 ⟨rfl, hb1⟩; obtain ⟨hd, hf⟩ := bcell hb1; have q0 := hd w.heap.size 0 (by simp; omega); have q1 := hd w.heap.size 1 (by simp; omega); have q2 := hd (w.heap.size + 1) 0 (by simp); have q3 := hd (w.heap.size + 1) 1 (by simp); have q4 := hf (w.heap.size + 1) 0 (by simp); have q5 := hf (w.heap.size + 1) 1 (by simp); simp at q0 q1 q2 q3 q4 q5))
  go_wp2
  have e1 : IntKind.u64.wrap ((h : Int) / (c : Int)) = ((h / c : Nat) : Int) := by
    have e0 : (h : Int) / (c : Int) = ((h / c : Nat) : Int) := (Int.natCast_ediv h c).symm
    have := Nat.div_le_self h c
    rw [e0, IntKind.wrap_u64]
    generalize h / c = q at *
    omega
  have e2 : ((h : Int) % (c : Int) * 18446744073709551616 + (l : Int)) / (c : Int) = (((h % c * 18446744073709551616 + l) / c : Nat) : Int) := by simp
  have e3 : ((h : Int) % (c : Int) * 18446744073709551616 + (l : Int)) % (c : Int) = (((h % c * 18446744073709551616 + l) % c : Nat) : Int) := by simp
  rw [e1, e2, e3]
  refine bodyPost_ret (v := .tuple #[.agg #[.int .u64 ((h / c : Nat) : Int), .int .u64 (((h % c * 18446744073709551616 + l) / c : Nat) : Int)], .int .u64 (((h % c * 18446744073709551616 + l) % c : Nat) : Int)]) (by simp [results, Try.results67, go_sem, q2, q3]) rfl ⟨rfl, ?_⟩
  exact (((((((Below.refl _ _).alloc (Nat.le_refl _) _).alloc (by simp) _).drew).trans (hb1.mono (B' := w.heap.size) (by simp; omega))).setCell (by simp) _).setCell (by simp) _)

theorem div_split (h l c : Nat) (hc0 : 0 < c) : (h * 18446744073709551616 + l) / c = h / c * 18446744073709551616 + (h % c * 18446744073709551616 + l) / c ∧ (h * 18446744073709551616 + l) % c = (h % c * 18446744073709551616 + l) % c := by
  have e : h * 18446744073709551616 + l = c * (h / c * 18446744073709551616) + (h % c * 18446744073709551616 + l) := by
    have := Nat.div_add_mod h c
    rw [← Nat.mul_assoc, ← Nat.add_assoc, ← Nat.add_mul, this]
  rw [e]
  exact ⟨Nat.mul_add_div hc0 _ _, Nat.mul_add_mod _ _ _⟩
theorem div_low (h l c : Nat) (hl : l < 18446744073709551616) (hc0 : 0 < c) : (h % c * 18446744073709551616 + l) / c < 18446744073709551616 := by
  rw [Nat.div_lt_iff_lt_mul hc0]
  have := Nat.mod_lt h hc0
  have h2 : (h % c + 1) * 18446744073709551616 ≤ c * 18446744073709551616 := Nat.mul_le_mul_right _ this
  rw [Nat.mul_comm 18446744073709551616 c]
  omega
/-- The words of a number that is not below 0. -/
def hiN (z : Int) : Nat := (hi z).toNat
def loN (z : Int) : Nat := (lo z).toNat
theorem hiN_eq (z : Int) : hi z = (hiN z : Int) := by have := hi_bd z; unfold hiN; omega
theorem loN_eq (z : Int) : lo z = (loN z : Int) := by have := lo_bd z; unfold loN; omega
theorem words_nat (z : Int) (hz : Fits z) (h0 : 0 ≤ z) : z = ((hiN z * 18446744073709551616 + loN z : Nat) : Int) := by
  have a := hiN_eq z
  have b := loN_eq z
  unfold Fits at hz
  unfold hi at a
  unfold lo at b
  omega
theorem hi_words (A B : Nat) (hA : A < 18446744073709551616) (hB : B < 18446744073709551616) : hi ((A * 18446744073709551616 + B : Nat) : Int) = (A : Int) := by unfold hi; omega
theorem lo_words (A B : Nat) (hB : B < 18446744073709551616) : lo ((A * 18446744073709551616 + B : Nat) : Int) = (B : Int) := by unfold lo; omega
theorem divide_any (z : Int) (c : Nat) (w : World) (hz : Fits z) (h0 : 0 ≤ z) (hc0 : 0 < c) (hc : c < 18446744073709551616) (D : DivOk (hiN z % c) (loN z) c) :
    Calls Try.prog 67 #[.agg #[.int .u64 (hi z), .int .u64 (lo z)], .int .u64 (c : Int)] w fun e w' =>
      e = .returned (.tuple #[.agg #[.int .u64 (hi (z / (c : Int))), .int .u64 (lo (z / (c : Int)))], .int .u64 (z % (c : Int))]) ∧ Below w.heap.size w w' := by
  have hh : hiN z < 18446744073709551616 := by have := hi_bd z; unfold hiN; omega
  have hl : loN z < 18446744073709551616 := by have := lo_bd z; unfold loN; omega
  have key := divide_words (hiN z) (loN z) c w hh hc0 hc D
  rw [hiN_eq z, loN_eq z]
  obtain ⟨d1, d2⟩ := div_split (hiN z) (loN z) c hc0
  have d3 := div_low (hiN z) (loN z) c hl hc0
  have d4 := Nat.div_le_self (hiN z) c
  have e0 := words_nat z hz h0
  have e1 : z / (c : Int) = ((hiN z / c * 18446744073709551616 + (hiN z % c * 18446744073709551616 + loN z) / c : Nat) : Int) := by
    rw [← d1]
    exact (congrArg (· / (c : Int)) e0).trans (Int.natCast_ediv _ _).symm
  have e2 : z % (c : Int) = (((hiN z % c * 18446744073709551616 + loN z) % c : Nat) : Int) := by
    rw [← d2]
    exact (congrArg (· % (c : Int)) e0).trans (Int.natCast_emod _ _).symm
  have e3 : hi (z / (c : Int)) = ((hiN z / c : Nat) : Int) := by
    rw [e1]; exact hi_words _ _ (by omega) d3
  have e4 : lo (z / (c : Int)) = (((hiN z % c * 18446744073709551616 + loN z) / c : Nat) : Int) := by
    rw [e1]; exact lo_words _ _ d3
  rw [e3, e4, e2]
  exact key

/-- What fraction brings before narrowing: the quotient of the sizes, turned, and one farther from 0 where something was cut off and that is the way to go. -/
def frac (p c : Int) (up : Bool) : Int :=
  if (!(decide (p < 0) == decide (c < 0))) = true then
    (if (p.natAbs : Int) % (c.natAbs : Int) ≠ 0 ∧ up = false then -((p.natAbs : Int) / (c.natAbs : Int)) + -1 else -((p.natAbs : Int) / (c.natAbs : Int)))
  else
    (if (p.natAbs : Int) % (c.natAbs : Int) ≠ 0 ∧ up = true then (p.natAbs : Int) / (c.natAbs : Int) + 1 else (p.natAbs : Int) / (c.natAbs : Int))

/-- A size that leaves room for one step more, either way. -/
def Small (z : Int) : Prop := 0 ≤ z ∧ z ≤ 170141183460469231731687303715884105726
theorem abs_prod (a b p : Int) (hpe : Hid (a * b = p)) (a1 : -9223372036854775808 ≤ a) (a2 : a ≤ 9223372036854775807) (b1 : -9223372036854775808 ≤ b) (b2 : b ≤ 9223372036854775807) : Small (p.natAbs : Int) := by
  have h := Nat.mul_le_mul (show a.natAbs ≤ 9223372036854775808 by omega) (show b.natAbs ≤ 9223372036854775808 by omega)
  rw [← Int.natAbs_mul, hpe.out] at h
  unfold Small
  omega
theorem Small.quo {p c : Int} (h : Small p) (hc : 0 ≤ c) : Small (p / c) := by
  unfold Small at *
  exact ⟨Int.ediv_nonneg h.1 hc, Int.le_trans (Int.ediv_le_self _ h.1) h.2⟩
theorem Small.fits {z : Int} (h : Small z) : Fits z := by unfold Small at h; unfold Fits; omega
theorem Small.fits1 {z : Int} (h : Small z) : Fits (z + 1) := by unfold Small at h; unfold Fits; omega
theorem Small.neg {z : Int} (h : Small z) : Fits (-z) := by unfold Small at h; unfold Fits; omega
theorem Small.neg1 {z : Int} (h : Small z) : Fits (-z + -1) := by unfold Small at h; unfold Fits; omega
theorem fits_prod (a b p : Int) (hpe : Hid (a * b = p)) (a1 : -9223372036854775808 ≤ a) (a2 : a ≤ 9223372036854775807) (b1 : -9223372036854775808 ≤ b) (b2 : b ≤ 9223372036854775807) : Fits p := by
  have := fits_mul a b a1 a2 b1 b2; rw [hpe.out] at this; exact this

set_option maxRecDepth 100000 in
set_option maxHeartbeats 1000000 in
theorem fraction_any (a b c p : Int) (hpe : Hid (a * b = p)) (up : Bool) (w : World) (a1 : -9223372036854775808 ≤ a) (a2 : a ≤ 9223372036854775807) (b1 : -9223372036854775808 ≤ b) (b2 : b ≤ 9223372036854775807)
    (c1 : -9223372036854775808 ≤ c) (c2 : c ≤ 9223372036854775807) (hc : (c == 0) = false) (D : Hid (DivOk (hiN (p.natAbs : Int) % c.natAbs) (loN (p.natAbs : Int)) c.natAbs)) :
    Calls Try.prog 56 #[.int .i64 a, .int .i64 b, .int .i64 c, .bool up] w fun e w' => e = .returned (narrowed (frac p c up)) ∧ Below w.heap.size w w' := by
  have hp : Fits p := fits_prod a b p hpe a1 a2 b1 b2
  have hps : Small (p.natAbs : Int) := abs_prod a b p hpe a1 a2 b1 b2
  have hpn : Fits (p.natAbs : Int) := hps.fits
  have hq : Small ((p.natAbs : Int) / (c.natAbs : Int)) := hps.quo (by omega)
  go_enter Try.func56, Try.ntmps56
  go_wp2_with fail
  refine (times_any a b _ a1 a2 b1 b2).mono ?_
  rintro e w1 ⟨rfl, hb1⟩
  rw [hpe.out]
  have s1 := hb1.size
  go_wp2_with fail
  refine (negative_any p _ hp).mono ?_
  rintro e w2 ⟨rfl, hb2⟩
  obtain ⟨hc2, hf2⟩ := bcell hb2
  have z2 := hb2.size
  have q20 := hc2 w1.heap.size 0 (by simp)
  have q21 := hc2 w1.heap.size 1 (by simp)
  have f20 := hf2 w1.heap.size 0 (by simp)
  have f21 := hf2 w1.heap.size 1 (by simp)
  simp at z2 q20 q21 f20 f21
  go_wp2_with fail
  refine (negative_any p _ hp).mono ?_
  rintro e w3 ⟨rfl, hb3⟩
  obtain ⟨hc3, hf3⟩ := bcell hb3
  have z3 := hb3.size
  have q30 := (hc3 w1.heap.size 0 (by omega)).trans q20
  have q31 := (hc3 w1.heap.size 1 (by omega)).trans q21
  have f30 := (hf3 w1.heap.size 0 (by omega)).trans f20
  have f31 := (hf3 w1.heap.size 1 (by omega)).trans f21
  have hB3 : Below w.heap.size w w3 := ((hb1.alloc hb1.size _).trans (hb2.mono (B' := w.heap.size) (by simp; omega))).trans (hb3.mono (by omega))
  clear hc2 hf2 hb2 hc3 hf3 hb3 q20 q21 f20 f21
  generalize hU : (!(decide (p < 0) == decide (c < 0))) = U
  have HU : Hid ((!(decide (p < 0) == decide (c < 0))) = U) := hU
  clear hU
  go_upto_if 26 with fail
  go_cut [10] (fun u wx => u = .bool U ∧ wx.cell? ⟨w1.heap.size, 0, none⟩ = some (.int .u64 (hi (p.natAbs : Int))) ∧ wx.cell? ⟨w1.heap.size, 1, none⟩ = some (.int .u64 (lo (p.natAbs : Int))) ∧ w1.heap.size < wx.heap.size ∧ Below w.heap.size w wx)
  case first =>
    by_cases hn : p < 0
    · go_wp2_with fail
      refine (minus_any p _).mono ?_
      rintro e w4 ⟨rfl, hb4⟩
      rw [show -p = (p.natAbs : Int) from by omega]
      obtain ⟨hc4, hf4⟩ := bcell hb4
      have z4 := hb4.size
      have q40 := (hc4 w1.heap.size 0 (by omega)).trans q30
      have q41 := (hc4 w1.heap.size 1 (by omega)).trans q31
      have f40 := (hf4 w1.heap.size 0 (by omega)).trans f30
      have f41 := (hf4 w1.heap.size 1 (by omega)).trans f31
      go_wp2_with fail
      go_meet
      case rel => exact ⟨rfl, by simp [q40, go_sem], by simp [q41, go_sem], by simp; omega, ((hB3.trans (hb4.mono (by omega))).setCell (by simp; omega) _).setCell (by simp; omega) _⟩
    · have hn' : (p.natAbs : Int) = p := by omega
      go_wp2_with fail
      go_meet
      case rel => exact ⟨rfl, by rw [hn']; exact q30, by rw [hn']; exact q31, by omega, hB3⟩
  case rest =>
    obtain ⟨rfl, r0, r1, rz, hB⟩ := hcut
    clear q30 q31 f30 f31 hB3 z2 z3
    go_upto_region 7 with fail
    go_cut [11, 12] (fun t r wx => ∃ g, t = .pointer (some ⟨g, 0, none⟩) ∧ r = .int .u64 ((p.natAbs : Int) % (c.natAbs : Int)) ∧ wx.cell? ⟨g, 0, none⟩ = some (.int .u64 (hi ((p.natAbs : Int) / (c.natAbs : Int)))) ∧ wx.cell? ⟨g, 1, none⟩ = some (.int .u64 (lo ((p.natAbs : Int) / (c.natAbs : Int)))) ∧ wx.frozen? ⟨g, 0, none⟩ = false ∧ wx.frozen? ⟨g, 1, none⟩ = false ∧ g < wx.heap.size ∧ w.heap.size ≤ g ∧ Below w.heap.size w wx)
    case first =>
      have hc0 : 0 < c.natAbs := by have := beq_eq_false_iff_ne.1 hc; omega
      have hw0 := World.new_ne wc _ r0
      have hw1 := World.new_ne wc _ r1
      go_region_held3 (fun w' => w'.cell? ⟨w1.heap.size, 0, none⟩ = some (.int .u64 (hi (p.natAbs : Int))) ∧ w'.cell? ⟨w1.heap.size, 1, none⟩ = some (.int .u64 (lo (p.natAbs : Int)))) (go_keep) (first
        | (go_at_call 68; refine (size_any c _ c1 c2).mono ?_; rintro e w5 ⟨rfl, rfl⟩)
        | (go_at_call 67; refine (divide_any _ _ _ hpn (by omega) hc0 (by omega) D.out).mono ?_; rintro e w6 ⟨rfl, hb6⟩; obtain ⟨hc6, hf6⟩ := bcell hb6; have z6 := hb6.size; have s60 := hc6 w1.heap.size 0 (by simp; omega); have s61 := hc6 w1.heap.size 1 (by simp; omega); simp at z6; simp [r0, r1] at s60 s61))
      · go_wp2_with fail
        go_meet
        case rel => exact ⟨w6.heap.size, rfl, rfl, by simp [go_sem], by simp [go_sem], by simp [go_sem], by simp [go_sem], by simp, by omega, (hB.drew.trans (hb6.mono (B' := w.heap.size) (by simp; omega))).alloc (by omega) _⟩
      all_goals
        have v0 := hc6 wc.heap.size 0 (by simp)
        have v1 := hc6 wc.heap.size 1 (by simp)
        have g0 := hf6 wc.heap.size 0 (by simp)
        have g1 := hf6 wc.heap.size 1 (by simp)
        simp at v0 v1 g0 g1
        go_wp2_with fail
        go_meet
        case rel => exact ⟨wc.heap.size, rfl, rfl, by simp [v0, go_sem], by simp [v1, go_sem], by simp [g0, go_sem], by simp [g1, go_sem], by simp; omega, by omega, ((((hB.drew.alloc (by simp; omega) _)).trans (hb6.mono (B' := w.heap.size) (by simp; omega))).setCell (by simp; omega) _).setCell (by simp; omega) _⟩
    case rest =>
      obtain ⟨g, rfl, rfl, k0, k1, kf0, kf1, kz, kw, kB⟩ := hcut
      clear r0 r1 rz hB
      have HF : Hid (frac p c up = if U = true then (if (p.natAbs : Int) % (c.natAbs : Int) ≠ 0 ∧ up = false then -((p.natAbs : Int) / (c.natAbs : Int)) + -1 else -((p.natAbs : Int) / (c.natAbs : Int))) else (if (p.natAbs : Int) % (c.natAbs : Int) ≠ 0 ∧ up = true then (p.natAbs : Int) / (c.natAbs : Int) + 1 else (p.natAbs : Int) / (c.natAbs : Int))) := by
        show _ = _
        unfold frac
        rw [HU.out]
      generalize (p.natAbs : Int) % (c.natAbs : Int) = R at *
      generalize (p.natAbs : Int) / (c.natAbs : Int) = Q at *
      go_upto_if 36 with fail
      go_cut [10, 13] (fun u t wx => ∃ T Q1 : Int, u = .bool U ∧ t = .int .i64 T ∧ Hid (T = if U = true then -1 else 1) ∧ Hid (Q1 = if U = true then -Q else Q) ∧ wx.cell? ⟨g, 0, none⟩ = some (.int .u64 (hi Q1)) ∧ wx.cell? ⟨g, 1, none⟩ = some (.int .u64 (lo Q1)) ∧ wx.frozen? ⟨g, 0, none⟩ = false ∧ wx.frozen? ⟨g, 1, none⟩ = false ∧ g < wx.heap.size ∧ Below w.heap.size w wx)
      case first =>
        cases U
        · go_wp2_with fail
          go_meet
          case rel => exact ⟨1, Q, rfl, rfl, rfl, rfl, k0, k1, kf0, kf1, kz, kB⟩
        · go_wp2_with fail
          refine (minus_any Q _).mono ?_
          rintro e w4 ⟨rfl, hb4⟩
          obtain ⟨hc4, hf4⟩ := bcell hb4
          have z4 := hb4.size
          have q40 := (hc4 g 0 (by omega)).trans k0
          have q41 := (hc4 g 1 (by omega)).trans k1
          have f40 := (hf4 g 0 (by omega)).trans kf0
          have f41 := (hf4 g 1 (by omega)).trans kf1
          go_wp2_with fail
          go_meet
          case rel => exact ⟨-1, -Q, rfl, rfl, rfl, rfl, by simp [q40, go_sem], by simp [q41, go_sem], by simp [f40, go_sem], by simp [f41, go_sem], by simp; omega, ((kB.trans (hb4.mono (by omega))).setCell (by simp; omega) _).setCell (by simp; omega) _⟩
      case rest =>
        obtain ⟨T, Q1, rfl, rfl, hT, hQ1, m0, m1, mf0, mf1, mz, mB⟩ := hcut
        clear k0 k1 kf0 kf1 kz kB
        go_upto_region 11 with fail
        go_cut [45] (fun t wx => t = .bool (decide (R ≠ 0 ∧ U ≠ up)) ∧ wx = wc)
        case first =>
          by_cases hr : R = 0
          · subst hr
            go_wp2_with fail
            go_meet
            case rel => exact ⟨by simp, rfl⟩
          · have hrb : (R != 0) = true := by simp [hr]
            go_wp2_with fail
            go_meet
            case rel => exact ⟨by simp [hr]; cases U <;> cases up <;> rfl, rfl⟩
        case rest =>
          obtain ⟨rfl, rfl⟩ := hcut
          have hB : ∃ B, decide (R ≠ 0 ∧ U ≠ up) = B := ⟨_, rfl⟩
          obtain ⟨B, hB⟩ := hB
          rw [hB]
          have HB : Hid (decide (R ≠ 0 ∧ U ≠ up) = B) := hB
          clear hB
          have t1 : -9223372036854775808 ≤ T := by rw [hT.out]; split <;> decide
          have t2 : T ≤ 9223372036854775807 := by rw [hT.out]; split <;> decide
          have hend : Hid ((if B = true then Q1 + T else Q1) = frac p c up) := by
            show _ = _
            rw [HF.out, hQ1.out, hT.out, ← HB.out]
            cases U <;> cases up <;> by_cases hr : R = 0 <;> simp [hr]
          have hfit : Fits (if B = true then Q1 + T else Q1) := by
            rw [hQ1.out, hT.out]
            cases U <;> cases B
            · exact hq.fits
            · exact hq.fits1
            · exact hq.neg
            · exact hq.neg1
          clear HF HU D
          obtain ⟨F, hF⟩ : ∃ F, Hid (F = if B = true then Q1 + T else Q1) := ⟨_, rfl⟩
          rw [← hF.out] at hfit
          have hend2 : Hid (F = frac p c up) := by
            show _ = _
            rw [hF.out, hend.out]
          clear hend
          go_upto_if 45 with fail
          go_cut [13] (fun t wx => t = .int .i64 T ∧ wx.cell? ⟨g, 0, none⟩ = some (.int .u64 (hi F)) ∧ wx.cell? ⟨g, 1, none⟩ = some (.int .u64 (lo F)) ∧ g < wx.heap.size ∧ Below w.heap.size w wx)
          case first =>
            cases B
            · have hF1 : F = Q1 := hF.out.trans (by simp)
              subst hF1
              go_wp2_with fail
              go_meet
              case rel => exact ⟨rfl, m0, m1, mz, mB⟩
            · have hF1 : F = Q1 + T := hF.out.trans (by simp)
              subst hF1
              go_wp2_with fail
              go_region_with (first
                | (go_at_call 70; refine (widen_any T _ t1 t2).mono ?_; rintro e w7 ⟨rfl, hb7⟩; obtain ⟨hc7, hf7⟩ := bcell hb7; have z7 := hb7.size; simp at z7; have v70 := hc7 g 0 (by simp; omega); have v71 := hc7 g 1 (by simp; omega); have g70 := hf7 g 0 (by simp; omega); have g71 := hf7 g 1 (by simp; omega); simp [m0, m1, mf0, mf1] at v70 v71 g70 g71)
                | (go_at_call 69; refine (plus_any _ _ _).mono ?_; rintro e w8 ⟨rfl, hb8⟩; obtain ⟨hc8, hf8⟩ := bcell hb8; have z8 := hb8.size; have v80 := (hc8 g 0 (by omega)).trans v70; have v81 := (hc8 g 1 (by omega)).trans v71; have g80 := (hf8 g 0 (by omega)).trans g70; have g81 := (hf8 g 1 (by omega)).trans g71))
              all_goals
                go_wp2_with fail
                go_meet
                case rel => exact ⟨rfl, by simp [v80, go_sem], by simp [v81, go_sem], by simp; omega, (((mB.drew.trans (hb7.mono (B' := w.heap.size) (by simp; omega))).trans (hb8.mono (B' := w.heap.size) (by omega))).setCell (by simp; omega) _).setCell (by simp; omega) _⟩
          case rest =>
            obtain ⟨rfl, n0, n1, nz, nB⟩ := hcut
            go_wp2_with fail
            refine (narrow_any F _ hfit).mono ?_
            rintro e w9 ⟨rfl, hb9⟩
            rw [hend2.out]
            go_wp2_with fail
            go_ret
            exact ⟨rfl, nB.trans (hb9.mono nB.size)⟩
end Go.Proofs.Ytdacfnodihannaa
