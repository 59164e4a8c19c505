/-
  Contracts of the reference's Part and Fraction: the whole number next below or next above a fraction.
-/
import Derived.Test.YtkphchldoionjaaRefDiv
import Derived.Test.YtkphchldoionjaaRefTold
import Derived.Test.YtkphchldoionjaaFrac
namespace Go.Proofs.Ytkphchldoionjaa
open Go.ChangeShapes Go.WideShapes Go.ChangeAt Go.RowKit

/-- The size of the fraction's whole number, and its sign. -/
theorem frac_size (p c : Int) (up : Bool) (q : Nat) (hq : q = p.natAbs / c.natAbs + (if (!decide (p.natAbs % c.natAbs = 0) && (up != (!(decide (p < 0) == decide (c < 0))))) = true then 1 else 0)) :
    q = (frac p c up).natAbs ∧ ((!(decide (p < 0) == decide (c < 0))) && decide (0 < q)) = decide (frac p c up < 0) := by
  have e1 : ((p.natAbs : Int) / (c.natAbs : Int)) = ((p.natAbs / c.natAbs : Nat) : Int) := (Int.natCast_ediv _ _).symm
  have e2 : ((p.natAbs : Int) % (c.natAbs : Int)) = ((p.natAbs % c.natAbs : Nat) : Int) := (Int.natCast_emod _ _).symm
  unfold frac
  rw [e1, e2]
  generalize p.natAbs / c.natAbs = Q at *
  generalize p.natAbs % c.natAbs = R at *
  generalize (!(decide (p < 0) == decide (c < 0))) = U at *
  subst hq
  cases U <;> cases up <;> refine ⟨?_, ?_⟩ <;> by_cases hR : R = 0 <;> simp [hR] <;> omega
theorem part_cells (w : World) (x0 x1 y0 y1 z0 z1 : Value) (T : TypeId) :
    let W := ((w.alloc (.cells #[x0, x1] T)).alloc (.cells #[y0, y1] T)).alloc (.cells #[z0, z1] T)
    W.cell? ⟨w.heap.size, 0, none⟩ = some x0 ∧ W.cell? ⟨w.heap.size, 1, none⟩ = some x1 ∧ W.cell? ⟨w.heap.size + 1, 0, none⟩ = some y0 ∧ W.cell? ⟨w.heap.size + 1, 1, none⟩ = some y1 ∧
      W.cell? ⟨w.heap.size + 1 + 1, 0, none⟩ = some z0 ∧ W.cell? ⟨w.heap.size + 1 + 1, 1, none⟩ = some z1 ∧ W.frozen? ⟨w.heap.size + 1 + 1, 0, none⟩ = false ∧ W.frozen? ⟨w.heap.size + 1 + 1, 1, none⟩ = false := three_cells w x0 x1 y0 y1 z0 z1 T

set_option maxRecDepth 100000 in
set_option maxHeartbeats 4000000 in
theorem partL_any {B C : Nat} (s t up U : Bool) (hU : (!(s == t)) = U) (va vb : Value) (x y : List Bool) (w : World) (hv : Reads B w va x) (hu : Reads C w vb y) (hx : x.length ≤ 1000) (hy : y.length ≤ 1000) (hy0 : 0 < val y) (q : Nat)
    (hq : Hid (q = val x / val y + (if (!decide (val x % val y = 0) && (up != U)) = true then 1 else 0))) :
    Calls Try.prog 27 #[.agg #[.bool s, va], .agg #[.bool t, vb], .bool up] w fun e w' => ∃ r v', e = .returned (.agg #[.bool r, v']) ∧ Below w.heap.size w w' ∧ r = (U && decide (0 < q)) ∧ ∃ l, Reads w.heap.size w' v' l ∧ Canon l ∧ val l = q ∧ l.length ≤ x.length + 2 := by
  obtain ⟨a, ca, rfl, _⟩ := id hv
  obtain ⟨b, cb, rfl, _⟩ := id hu
  have HY : Hid (0 < val y) := hy0
  clear hy0
  go_enter Try.func27, Try.ntmps27
  go_upto_region 1 with fail
  obtain ⟨W, hW⟩ : ∃ W, Hid (W = ((w.alloc (.cells #[.bool s, .slice a x.length ca] 58)).alloc (.cells #[.bool t, .slice b y.length cb] 58)).alloc (.cells #[.bool false, .slice none 0 0] 58)) := ⟨_, rfl⟩
  have HWs : Hid (W.heap.size = w.heap.size + 1 + 1 + 1) := by show _ = _; rw [hW.out]; simp
  have hWb : Below w.heap.size w W := by rw [hW.out]; exact three_new _ _ _ _
  obtain ⟨d0, d1, d2, d3, d4, d5, d6, d7⟩ := part_cells w (.bool s) (.slice a x.length ca) (.bool t) (.slice b y.length cb) (.bool false) (.slice none 0 0) 58
  rw [← hW.out] at d0 d1 d2 d3 d4 d5 d6 d7
  rw [← hW.out]
  go_wp2_with fail
  refine (divR_any x y _ _ _ (hv.below hWb) (hu.below hWb) hx hy HY.out).mono ?_
  rintro e w2 ⟨qv, rv, rfl, hb2, ⟨lq, p1, p2, p3, p4⟩, lr, r1, r2, r3, r4⟩
  have hws := HWs.out
  have f0 := (hb2.cell (p := ⟨w.heap.size, 0, none⟩) (by simp; omega)).trans d0
  have f2 := (hb2.cell (p := ⟨w.heap.size + 1, 0, none⟩) (by simp; omega)).trans d2
  clear hws d0 d1 d2 d3
  obtain ⟨ld, hld⟩ : ∃ ld, decide ((0 : Int) < (lr.length : Int)) = ld := ⟨_, rfl⟩
  have HD : Hid ((!decide (val x % val y = 0)) = ld) := by
    show _ = _
    rw [← hld, ← r3]
    rcases Nat.eq_zero_or_pos lr.length with h | h
    · have := (canon_zero lr r2).1 (List.eq_nil_of_length_eq_zero h)
      rw [h, this]; rfl
    · have : ¬ val lr = 0 := fun e => by have := (canon_zero lr r2).2 e; rw [this] at h; simp at h
      simp [h, this]
  obtain ⟨a8, c8, rfl, _⟩ := id r1
  obtain ⟨a7, m7, c7, rfl⟩ : ∃ a n c, qv = Value.slice a n c := by
    obtain ⟨a, c, e, _⟩ := p1
    exact ⟨a, _, c, e⟩
  have hq2 : Hid (q = val lq + (if (ld && (up != U)) = true then 1 else 0)) := by show _ = _; rw [hq.out, HD.out, p3]
  clear hq HD p3 r1 r2 r3 r4
  generalize lr.length = m8 at *
  go_upto_region 3 with fail
  go_cut [30] from 10 to 41 (fun z wx => z = .bool (ld && (up != U)) ∧ wx = w2)
  case first =>
    cases ld
    · have tz : ¬ (0 : Int) < (m8 : Int) := by simpa using hld
      have tz' : m8 = 0 := by omega
      subst tz'
      clear tz hld
      go_wp2_with fail
      go_meet
      case rel => exact ⟨by simp, rfl⟩
    · have tz : (0 : Int) < (m8 : Int) := by simpa using hld
      clear hld
      cases up <;> cases U
      all_goals
        go_wp2_with fail
        go_meet
        case rel => exact ⟨rfl, rfl⟩
  case rest =>
    obtain ⟨rfl, rfl⟩ := hcut
    obtain ⟨T, hT⟩ : ∃ T, Hid ((ld && (up != U)) = T) := ⟨_, rfl⟩
    rw [hT.out] at hq2
    rw [hT.out]
    go_upto_if 30 with fail
    go_cut [7] from 10 to 41 (fun z wx => ∃ lq', Reads W.heap.size wx z lq' ∧ Canon lq' ∧ Hid (val lq' = q) ∧ lq'.length ≤ x.length + 2 ∧ Below W.heap.size W wx)
    case first =>
      cases T
      · go_wp2_with fail
        go_meet
        case rel => exact ⟨lq, p1, p2, by have := hq2.out; show _ = _; rw [this]; simp, by omega, hb2⟩
      · go_wp2_with fail
        refine (plusR_any (C := 0) lq [true] _ _ _ (p1.below ?_) ?_ (by omega) (by simp)).mono ?_
        · exact (Below.refl _ _).alloc (Nat.le_refl _) _
        · exact (reads_of_owns (owns_one _ 0 true (Nat.zero_le _)))
        rintro e w4 ⟨v4, rfl, hb4, l4, m1, m2, m3, m4⟩
        have hs2 := hb2.size
        go_wp2_with fail
        go_meet
        case rel => exact ⟨l4, m1.mono (by simp; omega), m2, by have := hq2.out; show _ = _; rw [this, m3]; simp [val], by simp at m4; omega, hb2.trans (((Below.refl _ _).alloc (Nat.le_refl _) _).trans (hb4.mono (by simp)) |>.mono hs2)⟩
    case rest =>
      obtain ⟨lq', q1, q2, q3, q4, q5⟩ := hcut
      have hws := HWs.out
      have f4 := (q5.cell (p := ⟨w.heap.size + 1 + 1, 0, none⟩) (by simp; omega)).trans d4
      have f5 := (q5.cell (p := ⟨w.heap.size + 1 + 1, 1, none⟩) (by simp; omega)).trans d5
      have f6 := (q5.frozen (p := ⟨w.heap.size + 1 + 1, 0, none⟩) (by simp; omega)).trans d6
      have f7 := (q5.frozen (p := ⟨w.heap.size + 1 + 1, 1, none⟩) (by simp; omega)).trans d7
      clear hws d4 d5 d6 d7 p1 hb2
      obtain ⟨a9, c9, rfl, _⟩ := id q1
      obtain ⟨le, hle⟩ : ∃ le, decide ((0 : Int) < (lq'.length : Int)) = le := ⟨_, rfl⟩
      have HE : Hid (decide (0 < q) = le) := by
        show _ = _
        rw [← hle, ← q3.out]
        rcases Nat.eq_zero_or_pos lq'.length with h | h
        · have := (canon_zero lq' q2).1 (List.eq_nil_of_length_eq_zero h)
          rw [h, this]; rfl
        · have : ¬ val lq' = 0 := fun e => by have := (canon_zero lq' q2).2 e; rw [this] at h; simp at h
          simp [h]; omega
      cases U
      · go_wp2_with fail
        refine bodyPost_ret (v := .agg #[.bool false, .slice a9 lq'.length c9]) (by simp [results, Try.results27, go_sem, f4, f5]) rfl ⟨_, _, rfl, ?_, by rw [Bool.false_and], lq', ?_, q2, q3.out, q4⟩
        · exact ((hWb.trans (q5.mono hWb.size)).setCell (by simp; omega) _).setCell (by simp; omega) _
        · exact ((q1.setCell (by have := HWs.out; simp; omega) _).setCell (by have := HWs.out; simp; omega) _).mono hWb.size
      · cases le
        · have hnil : Hid (lq' = []) := List.eq_nil_of_length_eq_zero (by simpa using hle)
          go_wp2_with fail
          refine bodyPost_ret (v := .agg #[.bool false, .slice a9 lq'.length c9]) (by simp [results, Try.results27, go_sem, f4, f5]; exact hnil.out) rfl ⟨_, _, rfl, ?_, by rw [Bool.true_and, HE.out], lq', ?_, q2, q3.out, q4⟩
          · exact ((hWb.trans (q5.mono hWb.size)).setCell (by simp; omega) _).setCell (by simp; omega) _
          · exact ((q1.setCell (by have := HWs.out; simp; omega) _).setCell (by have := HWs.out; simp; omega) _).mono hWb.size
        · have hnil : Hid (0 < lq'.length) := by show 0 < lq'.length; simpa using hle
          go_wp2_with fail
          refine bodyPost_ret (v := .agg #[.bool true, .slice a9 lq'.length c9]) (by simp [results, Try.results27, go_sem, f4, f5]; exact hnil.out) rfl ⟨_, _, rfl, ?_, by rw [Bool.true_and, HE.out], lq', ?_, q2, q3.out, q4⟩
          · exact ((hWb.trans (q5.mono hWb.size)).setCell (by simp; omega) _).setCell (by simp; omega) _
          · exact ((q1.setCell (by have := HWs.out; simp; omega) _).setCell (by have := HWs.out; simp; omega) _).mono hWb.size
theorem partR_any {B C : Nat} (s t up : Bool) (va vb : Value) (p c : Int) (n m : Nat) (w : World) (hv : IsNum B w s va p n) (hu : IsNum C w t vb c m) (hn : n ≤ 1000) (hm : m ≤ 1000) (hc : c ≠ 0) :
    Calls Try.prog 27 #[.agg #[.bool s, va], .agg #[.bool t, vb], .bool up] w fun e w' => ∃ r v', e = .returned (.agg #[.bool r, v']) ∧ Below w.heap.size w w' ∧ IsNum w.heap.size w' r v' (frac p c up) (n + 2) := by
  obtain ⟨hs, l, h1, h2, h3, h4⟩ := hv
  obtain ⟨ht, k, k1, k2, k3, k4⟩ := hu
  refine (partL_any s t up _ rfl va vb l k w h1 k1 (by omega) (by omega) (by omega) _ rfl).mono ?_
  rintro e w' ⟨r, v', rfl, hb, hr, q, q1, q2, q3, q4⟩
  rw [h3, k3, hs, ht] at q3
  rw [h3, k3, hs, ht] at hr
  obtain ⟨e1, e2⟩ := frac_size p c up _ q3
  rw [← q3, e2] at hr
  exact ⟨r, v', rfl, hb, hr, q, q1, q2, e1, by omega⟩

set_option maxHeartbeats 1000000 in
theorem fractionR_zero (a b c : Int) (up : Bool) (w : World) (hc : (c == 0) = true) :
    Calls Try.prog 21 #[.int .i64 a, .int .i64 b, .int .i64 c, .bool up] w fun e w' => e = .returned (.tuple #[.int .i64 0, .int .i64 11]) ∧ w' = w := by
  go_enter Try.func21, Try.ntmps21
  go_wp2
  go_ret2
  exact ⟨rfl, rfl⟩
set_option maxHeartbeats 1000000 in
theorem fractionR_any (a b c : Int) (up : Bool) (w : World) (a1 : -9223372036854775808 ≤ a) (a2 : a ≤ 9223372036854775807) (b1 : -9223372036854775808 ≤ b) (b2 : b ≤ 9223372036854775807) (c1 : -9223372036854775808 ≤ c) (c2 : c ≤ 9223372036854775807) (hc : (c == 0) = false) :
    Calls Try.prog 21 #[.int .i64 a, .int .i64 b, .int .i64 c, .bool up] w fun e w' => e = .returned (.tuple #[.int .i64 (ansN (frac (a * b) c up)), .int .i64 (ansE (frac (a * b) c up))]) ∧ Below w.heap.size w w' := by
  have hc0 : Hid (c ≠ 0) := beq_eq_false_iff_ne.1 hc
  go_enter Try.func21, Try.ntmps21
  go_wp2_with fail
  refine (of_any a _ a1 a2).mono ?_
  rintro e w1 ⟨va, rfl, hb1, la, r1, r2, r3, r4⟩
  have na : IsNum w.heap.size w1 (decide (a < 0)) va a 64 := ⟨rfl, la, r1, r2, r3, r4⟩
  clear r1 r2 r3 r4
  go_wp2_with fail
  refine (of_any b _ b1 b2).mono ?_
  rintro e w2 ⟨vb, rfl, hb2, lb, r1, r2, r3, r4⟩
  have nb : IsNum w1.heap.size w2 (decide (b < 0)) vb b 64 := ⟨rfl, lb, r1, r2, r3, r4⟩
  clear r1 r2 r3 r4
  generalize decide (a < 0) = sa at *
  generalize decide (b < 0) = sb at *
  go_wp2_with fail
  refine (mulR_any sa sb _ _ a b 64 64 _ (na.below hb2) nb (by decide) (by decide)).mono ?_
  rintro e w3 ⟨r3, v3, rfl, hb3, n3⟩
  clear na nb
  go_wp2_with fail
  refine (of_any c _ c1 c2).mono ?_
  rintro e w4 ⟨vc, rfl, hb4, lc, k1, k2, k3, k4⟩
  have nc : IsNum w3.heap.size w4 (decide (c < 0)) vc c 64 := ⟨rfl, lc, k1, k2, k3, k4⟩
  have n34 := n3.below hb4
  clear k1 k2 k3 k4 n3
  generalize decide (c < 0) = sc at *
  go_wp2_with fail
  refine (partR_any r3 sc up _ _ (a * b) c _ 64 _ n34 nc (by decide) (by decide) hc0.out).mono ?_
  rintro e w5 ⟨r5, v5, rfl, hb5, n5⟩
  clear n34 nc
  go_wp2_with fail
  refine (toldR_any r5 v5 _ _ _ n5).mono ?_
  rintro e w6 ⟨rfl, hb6⟩
  have s1 := hb1.size
  have s2 := hb2.size
  have s3 := hb3.size
  have s4 := hb4.size
  have s5 := hb5.size
  go_wp2_with fail
  go_ret2
  exact ⟨rfl, ((((hb1.trans (hb2.mono s1)).trans (hb3.mono (by omega))).trans (hb4.mono (by omega))).trans (hb5.mono (by omega))).trans (hb6.mono (by omega))⟩
end Go.Proofs.Ytkphchldoionjaa
