/-
  Contracts of the third reference's Right, Total, Asked and Done.
-/
import Derived.Test.YtdacfnodihannaaGreatKU
namespace Go.Proofs.YtdacfnodihannaaGreat
open Go.ChangeShapes Go.WideShapes Go.ChangeAt Go.RowKit

theorem sum_step3 (zs : Nat → Int) (k : Nat) (hk : k < 64) (h : ∀ i, i < k + 1 → ¬ bad (zs i)) : 0 ≤ sumTo zs k ∧ sumTo zs k ≤ 1048576 * (k : Int) ∧ wrap64 (sumTo zs k + zs k) = sumTo zs (k + 1) := by
  have hb : ∀ j, j ≤ k → 0 ≤ sumTo zs j ∧ sumTo zs j ≤ 1048576 * (j : Int) := by
    intro j
    induction j with
    | zero => intro _; simp [sumTo]
    | succ j ih =>
      intro hj
      have a := ih (by omega)
      have b := h j (by omega)
      unfold bad at b
      simp only [sumTo]
      omega
  have a := hb k (Nat.le_refl _)
  have b := h k (by omega)
  unfold bad at b
  refine ⟨a.1, a.2, ?_⟩
  show wrap64 (sumTo zs k + zs k) = sumTo zs k + zs k
  exact wrap_in _ (by omega) (by omega)

/-- A bool that says whether p. -/
def Tells (e : Ending) (p : Prop) : Prop := ∃ b : Bool, e = .returned (.bool b) ∧ (b = true ↔ p)
theorem told_no3 {p : Prop} (h : ¬ p) : Tells (.returned (.bool false)) p := ⟨false, rfl, by simp [h]⟩

set_option maxHeartbeats 1000000 in
theorem right3_any (zs : Nat → Int) (n : Nat) (v : Value) (w : World) (h : Row w v n fun i => .int .i64 (zs i)) (hb : ∀ i, n ≤ i → zs i = 0) :
    Calls Tryz.prog 50 #[v] w fun e w' => Tells e (Curve zs n) ∧ w' = w := by
  obtain ⟨a, cap, rfl, h1, h2, h3⟩ := id h
  unfold maxLen at h2
  rcases Nat.eq_zero_or_pos n with rfl | hp
  · go_enter Tryz.func50, Tryz.ntmps50
    go_wp2_with fail
    go_ret
    exact ⟨told_no3 (fun hc => by have := hc.some; simp [sumTo] at this), rfl⟩
  have t1 : ¬ (n : Int) < 1 := by omega
  by_cases hn : 64 < n
  · have t2 : (64 : Int) < (n : Int) := by omega
    go_enter Tryz.func50, Tryz.ntmps50
    go_wp2_with fail
    go_ret
    exact ⟨told_no3 (fun hc => by have := hc.len; omega), rfl⟩
  have t2 : ¬ (64 : Int) < (n : Int) := by omega
  go_enter Tryz.func50, Tryz.ntmps50
  go_wp2_with fail
  go_loopw [3, 4] (fun s c wr => ∃ k : Nat, s = .int .i64 (sumTo zs k) ∧ c = .int .i64 (k : Int) ∧ k ≤ n ∧ Hid (∀ i, i < k → ¬ bad (zs i)) ∧ wr = w) (fun _ c _ => n - (intOf c).toNat)
  case atStart => exact ⟨0, rfl, rfl, Nat.zero_le _, fun i hi => absurd hi (by omega), rfl⟩
  case round =>
    obtain ⟨k, rfl, rfl, hk, hg, rfl⟩ := hrel
    by_cases hlt : k < n
    · have t : (k : Int) < (n : Int) := by omega
      obtain ⟨b, off, rfl, hc⟩ := h3 k hlt
      clear h3
      by_cases hz : bad (zs k)
      · have HN : Hid (¬ Curve zs n) := fun hc => by have := hc.each k; unfold bad at hz; omega
        unfold bad at hz
        by_cases h0 : zs k < 0
        · go_wp2_with fail
          go_ret
          exact ⟨told_no3 HN.out, rfl⟩
        · have h4 : 1048576 < zs k := by omega
          clear hz
          go_wp2_with fail
          go_ret
          exact ⟨told_no3 HN.out, rfl⟩
      · have hg' : ∀ i, i < k + 1 → ¬ bad (zs i) := fun i hi => if e : i = k then e ▸ hz else hg.out i (by omega)
        have HG : Hid (∀ i, i < k + 1 → ¬ bad (zs i)) := hg'
        have hw := (sum_step3 zs k (by omega) hg').2.2
        have HW : Hid (wrap64 (sumTo zs k + zs k) = sumTo zs (k + 1)) := hw
        clear hw hg' hg
        unfold bad at hz
        have h0 : ¬ zs k < 0 := by omega
        have h4 : ¬ 1048576 < zs k := by omega
        clear hz
        go_wp2_with fail
        go_roundw
        case rel => exact ⟨k + 1, by rw [HW.out], by simp, by omega, HG, trivial⟩
        case measure => simp [intOf]; omega
    · have hkn : k = n := by omega
      subst hkn
      have t : ¬ (k : Int) < (k : Int) := by omega
      go_wp2_with fail
      go_ret
      refine ⟨⟨_, rfl, ?_⟩, rfl⟩
      simp only [decide_eq_true_eq]
      refine ⟨fun hp => ⟨by omega, fun i => ?_, hb, hp⟩, fun hc => hc.some⟩
      by_cases hi : i < k
      · have := hg.out i hi; unfold bad at this; omega
      · rw [hb i (by omega)]; omega
theorem right_yes (zs : Nat → Int) (n : Nat) (v : Value) (w : World) (h : Row w v n fun i => .int .i64 (zs i)) (hc : Curve zs n) :
    Calls Tryz.prog 50 #[v] w fun e w' => e = .returned (.bool true) ∧ w' = w :=
  (right3_any zs n v w h hc.beyond).mono fun _ _ ⟨⟨b, he, hb⟩, hw⟩ => ⟨by rw [he, hb.2 hc], hw⟩
theorem right_no (zs : Nat → Int) (n : Nat) (v : Value) (w : World) (h : Row w v n fun i => .int .i64 (zs i)) (hb : ∀ i, n ≤ i → zs i = 0) (hc : ¬ Curve zs n) :
    Calls Tryz.prog 50 #[v] w fun e w' => e = .returned (.bool false) ∧ w' = w :=
  (right3_any zs n v w h hb).mono fun _ _ ⟨⟨b, he, hb⟩, hw⟩ => ⟨by
    cases b with
    | false => exact he
    | true => exact absurd (hb.1 rfl) hc, hw⟩

set_option maxHeartbeats 1000000 in
theorem totalR_any (zs : Nat → Int) (n : Nat) (v : Value) (w : World) (h : Row w v n fun i => .int .i64 (zs i)) (hc : Curve zs n) (S : Int) (hS : Hid (sumTo zs n = S)) :
    Calls Tryz.prog 79 #[v] w fun e w' => e = .returned (.int .i64 S) ∧ w' = w := by
  obtain ⟨a, cap, rfl, h1, h2, h3⟩ := id h
  unfold maxLen at h2
  have hlen := hc.len
  go_enter Tryz.func79, Tryz.ntmps79
  go_wp2_with fail
  go_loopw [3, 4] (fun s c wr => ∃ k : Nat, s = .int .i64 (sumTo zs k) ∧ c = .int .i64 (k : Int) ∧ k ≤ n ∧ wr = w) (fun _ c _ => n - (intOf c).toNat)
  case atStart => exact ⟨0, rfl, rfl, Nat.zero_le _, rfl⟩
  case round =>
    obtain ⟨k, rfl, rfl, hk, rfl⟩ := hrel
    by_cases hlt : k < n
    · have t : (k : Int) < (n : Int) := by omega
      obtain ⟨b, off, rfl, hc'⟩ := h3 k hlt
      clear h3
      have HW : Hid (wrap64 (sumTo zs k + zs k) = sumTo zs (k + 1)) := (sum_step3 zs k (by omega) (fun i _ => by have := hc.each i; unfold bad; omega)).2.2
      go_wp2_with fail
      go_roundw
      case rel => exact ⟨k + 1, by rw [HW.out], by simp, by omega, trivial⟩
      case measure => simp [intOf]; omega
    · have hkn : k = n := by omega
      subst hkn
      have t : ¬ (k : Int) < (k : Int) := by omega
      go_wp2_with fail
      go_ret
      exact ⟨congrArg (fun x => Ending.returned (Value.int .i64 x)) hS.out, rfl⟩

/-- How much of bucket i has gone by. -/
def goneOf (L span : Int) (i : Nat) : Int := if span < L - (i : Int) * span then span else if 0 < L - (i : Int) * span then L - (i : Int) * span else 0
theorem gone_bd (L span : Int) (i : Nat) (h : 0 ≤ span) : 0 ≤ goneOf L span i ∧ goneOf L span i ≤ span := by
  unfold goneOf; split
  · omega
  · split <;> omega
theorem done_up (zs : Nat → Int) (L span r : Int) (q : Nat) (h0 : 0 ≤ r) (h1 : r < span) (hL : L = span * (q : Int) + r) : ∀ k, sumTo (fun i => zs i * goneOf L span i) k = if k ≤ q then sumTo zs k * span else sumTo zs q * span + zs q * r
  | 0 => by simp [sumTo]
  | k + 1 => by
    have ih := done_up zs L span r q h0 h1 hL k
    simp only [sumTo]
    rw [ih]
    have e : L - (k : Int) * span = span * ((q : Int) - (k : Int)) + r := by rw [hL, Int.mul_sub, Int.mul_comm (k : Int) span]; omega
    rcases Nat.lt_trichotomy k q with hk | hk | hk
    · have m := Int.mul_le_mul_of_nonneg_left (by omega : (1 : Int) ≤ (q : Int) - (k : Int)) (by omega : 0 ≤ span)
      have g : goneOf L span k = span := by
        unfold goneOf; rw [e]
        split
        · rfl
        · rw [if_pos (by omega)]; omega
      rw [g, if_pos (by omega), if_pos (by omega), Int.add_mul]
    · subst hk
      have g : goneOf L span k = r := by
        unfold goneOf; rw [e, Int.sub_self, Int.mul_zero, Int.zero_add, if_neg (by omega)]
        split <;> omega
      rw [g, if_pos (Nat.le_refl _), if_neg (by omega)]
    · have m := Int.mul_le_mul_of_nonneg_left (by omega : (1 : Int) ≤ (k : Int) - (q : Int)) (by omega : 0 ≤ span)
      have e' : span * ((q : Int) - (k : Int)) = - (span * ((k : Int) - (q : Int))) := by rw [← Int.mul_neg]; congr 1; omega
      have g : goneOf L span k = 0 := by
        unfold goneOf; rw [e, e', if_neg (by omega), if_neg (by omega)]
      rw [g, if_neg (by omega), if_neg (by omega)]; omega
theorem done_all (zs : Nat → Int) (L span : Int) (n : Nat) (hs : 1 ≤ span) (h0 : 0 ≤ L) (h1 : L ≤ span * (n : Int)) : sumTo (fun i => zs i * goneOf L span i) n = doneOf zs L span := by
  have m0 := Int.emod_nonneg L (by omega : span ≠ 0)
  have m1 := Int.emod_lt_of_pos L (by omega : 0 < span)
  have q0 := Int.ediv_nonneg h0 (by omega : 0 ≤ span)
  have d := Int.mul_ediv_add_emod L span
  have hq : ((L / span).toNat : Int) = L / span := Int.toNat_of_nonneg q0
  have u := done_up zs L span (L % span) (L / span).toNat m0 m1 (by rw [hq]; omega) n
  rw [u]
  unfold doneOf
  by_cases h : n ≤ (L / span).toNat
  · rw [if_pos h]
    have k1 := Int.mul_le_mul_of_nonneg_left (by omega : (n : Int) ≤ L / span) (by omega : 0 ≤ span)
    have r0 : L % span = 0 := by omega
    have e1 : span * (L / span) = span * (n : Int) := by omega
    have e2 : L / span = (n : Int) := Int.eq_of_mul_eq_mul_left (by omega) e1
    rw [r0, e2]; simp
  · rw [if_neg h]

theorem up_bd (zs : Nat → Int) (hz : ∀ i, 0 ≤ zs i ∧ zs i ≤ 1048576) (L span : Int) (s1 : 1 ≤ span) (s2 : span ≤ 1073741824) : ∀ k, 0 ≤ sumTo (fun i => zs i * goneOf L span i) k ∧ sumTo (fun i => zs i * goneOf L span i) k ≤ 1125899906842624 * (k : Int)
  | 0 => by simp [sumTo]
  | k + 1 => by
    have a := up_bd zs hz L span s1 s2 k
    have b := gone_bd L span k (by omega)
    have c := mul_bd (hz k).1 (hz k).2 b.1 (by omega : goneOf L span k ≤ 1073741824)
    simp only [sumTo]
    omega

set_option maxRecDepth 100000 in
set_option maxHeartbeats 2000000 in
theorem doneR_any (zs : Nat → Int) (n : Nat) (v : Value) (w : World) (h : Row w v n fun i => .int .i64 (zs i)) (hc : Curve zs n) (t span : Int) (ha : Asked t span) (R : Int) (hR : Hid (doneOf zs (t * (n : Int)) span = R)) :
    Calls Tryz.prog 76 #[v, .int .i64 t, .int .i64 span] w fun e w' => e = .returned (.int .i64 R) ∧ w' = w := by
  obtain ⟨a, cap, rfl, h1, h2, h3⟩ := id h
  unfold maxLen at h2
  have hlen := hc.len
  have hp := pieces ha hlen
  obtain ⟨⟨s1, s2⟩, t1, t2⟩ := ha
  have hb := mul_bd t1 (by omega : t ≤ 1073741824) (by omega : (0 : Int) ≤ (n : Int)) (by omega : (n : Int) ≤ 64)
  have e1 := wrap_in (t * (n : Int)) (by omega) (by omega)
  rw [← done_all zs (t * (n : Int)) span n s1 hp.1 hp.2] at hR
  clear hp
  obtain ⟨L, hL⟩ : ∃ L, t * (n : Int) = L := ⟨_, rfl⟩
  rw [hL] at hR hb
  have e1' : wrap64 (t * (n : Int)) = L := e1.trans hL
  clear hL e1
  have HB : Hid (∀ k, 0 ≤ sumTo (fun i => zs i * goneOf L span i) k ∧ sumTo (fun i => zs i * goneOf L span i) k ≤ 1125899906842624 * (k : Int)) := up_bd zs hc.each L span s1 s2
  have HS : Hid (∀ k, sumTo (fun i => zs i * goneOf L span i) (k + 1) = sumTo (fun i => zs i * goneOf L span i) k + zs k * goneOf L span k) := fun k => rfl
  generalize sumTo (fun i => zs i * goneOf L span i) = up at *
  have U0 : Hid (up 0 = 0) := by have := HB.out 0; show _ = _; omega
  go_enter Tryz.func76, Tryz.ntmps76
  go_wp2_with fail
  go_loopw [7, 8] (fun s c wr => ∃ k : Nat, s = .int .i64 (up k) ∧ c = .int .i64 (k : Int) ∧ k ≤ n ∧ wr = w) (fun _ c _ => n - (intOf c).toNat)
  case atStart => exact ⟨0, by rw [U0.out], rfl, Nat.zero_le _, rfl⟩
  case round =>
    obtain ⟨k, rfl, rfl, hk, rfl⟩ := hrel
    by_cases hlt : k < n
    · have tt : (k : Int) < (n : Int) := by omega
      obtain ⟨b, off, rfl, hc'⟩ := h3 k hlt
      clear h3
      have hm := mul_bd (by omega : (0 : Int) ≤ (k : Int)) (by omega : (k : Int) ≤ 64) (by omega : 0 ≤ span) s2
      have e2 := wrap_in ((k : Int) * span) (by omega) (by omega)
      have hS := HS.out k
      have hB := HB.out k
      have hB' := HB.out (k + 1)
      have hz := hc.each k
      have hg : goneOf L span k = if span < L - (k : Int) * span then span else if 0 < L - (k : Int) * span then L - (k : Int) * span else 0 := rfl
      obtain ⟨M, hM⟩ : ∃ M, (k : Int) * span = M := ⟨_, rfl⟩
      rw [hM] at hg hm
      have e2' : wrap64 ((k : Int) * span) = M := e2.trans hM
      clear e2 hM
      obtain ⟨G, hG⟩ : ∃ G, L - M = G := ⟨_, rfl⟩
      rw [hG] at hg
      have e3' : wrap64 (L - M) = G := (wrap_in _ (by omega) (by omega)).trans hG
      obtain ⟨z, hzz⟩ : ∃ z, zs k = z := ⟨_, rfl⟩
      rw [hzz] at hc' hS hz
      by_cases g1 : span < G
      · rw [if_pos g1] at hg
        rw [hg] at hS
        have hp := mul_bd hz.1 hz.2 (by omega : 0 ≤ span) s2
        have e4 := wrap_in (z * span) (by omega) (by omega)
        have HE : Hid (wrap64 (up k + wrap64 (z * span)) = up (k + 1)) := by
          show _ = _
          rw [e4, hS, wrap_in _ (by omega) (by omega)]
        have g2 : 0 < span := by omega
        clear hS hB hB' hg hG hz hp e4 hm hb
        go_wp2_with fail
        go_roundw
        case rel => exact ⟨k + 1, by rw [← HE.out], by simp, by omega, trivial⟩
        case measure => simp [intOf]; omega
      · rw [if_neg g1] at hg
        by_cases g2 : 0 < G
        · rw [if_pos g2] at hg
          rw [hg] at hS
          have hp := mul_bd hz.1 hz.2 (by omega : 0 ≤ G) (by omega : G ≤ 1073741824)
          have e4 := wrap_in (z * G) (by omega) (by omega)
          have HE : Hid (wrap64 (up k + wrap64 (z * G)) = up (k + 1)) := by
            show _ = _
            rw [e4, hS, wrap_in _ (by omega) (by omega)]
          clear hS hB hB' hg hG hz hp e4 hm hb
          go_wp2_with fail
          go_roundw
          case rel => exact ⟨k + 1, by rw [← HE.out], by simp, by omega, trivial⟩
          case measure => simp [intOf]; omega
        · rw [if_neg g2] at hg
          rw [hg] at hS
          have HE : Hid (up k = up (k + 1)) := by show _ = _; omega
          clear hS hB hB' hg hG hz hm hb
          go_wp2_with fail
          go_roundw
          case rel => exact ⟨k + 1, by rw [← HE.out], by simp, by omega, trivial⟩
          case measure => simp [intOf]; omega
    · have hkn : k = n := by omega
      subst hkn
      have tt : ¬ (k : Int) < (k : Int) := by omega
      go_wp2_with fail
      go_ret
      exact ⟨congrArg (fun x => Ending.returned (Value.int .i64 x)) hR.out, rfl⟩
end Go.Proofs.YtdacfnodihannaaGreat
