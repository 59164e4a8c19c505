/-
  The contract of the third reference's Right.
-/
import Derived.Test.YtdacfnodihannaaGreatAskRight2
namespace Go.Proofs.YtdacfnodihannaaGreat
open Go.ChangeShapes Go.WideShapes Go.ChangeAt Go.RowKit

theorem wrap_in12 (x : Int) (h1 : -9223372036854775808 ≤ x) (h2 : x ≤ 9223372036854775807) : wrap64 x = x := by unfold wrap64; omega
theorem step_sum (zs : Nat → Int) (k : Nat) (hk : k < 64) (h : ∀ i, i < k + 1 → ¬ bad (zs i)) : 0 ≤ sumTo zs k ∧ sumTo zs k ≤ 1048576 * (k : Int) ∧ wrap64 (sumTo zs k + zs k) = sumTo zs (k + 1) := by
  have hb : ∀ j, j ≤ k → 0 ≤ sumTo zs j ∧ sumTo zs j ≤ 1048576 * (j : Int) := by
    intro j
    induction j with
    | zero => intro _; simp [sumTo]
    | succ j ih =>
      intro hj
      have a := ih (by omega)
      have b := h j (by omega)
      unfold bad at b
      simp only [sumTo]
      omega
  have a := hb k (Nat.le_refl _)
  have b := h k (by omega)
  unfold bad at b
  refine ⟨a.1, a.2, ?_⟩
  show wrap64 (sumTo zs k + zs k) = sumTo zs k + zs k
  exact wrap_in12 _ (by omega) (by omega)

/-- A bool that says whether p. -/
def Tells3 (e : Ending) (p : Prop) : Prop := ∃ b : Bool, e = .returned (.bool b) ∧ (b = true ↔ p)
theorem tells_no {p : Prop} (h : ¬ p) : Tells3 (.returned (.bool false)) p := ⟨false, rfl, by simp [h]⟩

set_option maxHeartbeats 1000000 in
theorem ref3Right_tells (zs : Nat → Int) (n : Nat) (v : Value) (w : World) (h : Row w v n fun i => .int .i64 (zs i)) (hb : ∀ i, n ≤ i → zs i = 0) :
    Calls Tryz.prog 50 #[v] w fun e w' => Tells3 e (Curve zs n) ∧ w' = w := by
  obtain ⟨a, cap, rfl, h1, h2, h3⟩ := id h
  unfold maxLen at h2
  rcases Nat.eq_zero_or_pos n with rfl | hp
  · go_enter Tryz.func50, Tryz.ntmps50
    go_wp2_with fail
    go_ret
    exact ⟨tells_no (fun hc => by have := hc.some; simp [sumTo] at this), rfl⟩
  have t1 : ¬ (n : Int) < 1 := by omega
  by_cases hn : 64 < n
  · have t2 : (64 : Int) < (n : Int) := by omega
    go_enter Tryz.func50, Tryz.ntmps50
    go_wp2_with fail
    go_ret
    exact ⟨tells_no (fun hc => by have := hc.len; omega), rfl⟩
  have t2 : ¬ (64 : Int) < (n : Int) := by omega
  go_enter Tryz.func50, Tryz.ntmps50
  go_wp2_with fail
  go_loopw [3, 4] (fun s c wr => ∃ k : Nat, s = .int .i64 (sumTo zs k) ∧ c = .int .i64 (k : Int) ∧ k ≤ n ∧ Hid (∀ i, i < k → ¬ bad (zs i)) ∧ wr = w) (fun _ c _ => n - (intOf c).toNat)
  case atStart => exact ⟨0, rfl, rfl, Nat.zero_le _, fun i hi => absurd hi (by omega), rfl⟩
  case round =>
    obtain ⟨k, rfl, rfl, hk, hg, rfl⟩ := hrel
    by_cases hlt : k < n
    · have t : (k : Int) < (n : Int) := by omega
      obtain ⟨b, off, rfl, hc⟩ := h3 k hlt
      clear h3
      by_cases hz : bad (zs k)
      · have HN : Hid (¬ Curve zs n) := fun hc => by have := hc.each k; unfold bad at hz; omega
        unfold bad at hz
        by_cases h0 : zs k < 0
        · go_wp2_with fail
          go_ret
          exact ⟨tells_no HN.out, rfl⟩
        · have h4 : 1048576 < zs k := by omega
          clear hz
          go_wp2_with fail
          go_ret
          exact ⟨tells_no HN.out, rfl⟩
      · have hg' : ∀ i, i < k + 1 → ¬ bad (zs i) := fun i hi => if e : i = k then e ▸ hz else hg.out i (by omega)
        have HG : Hid (∀ i, i < k + 1 → ¬ bad (zs i)) := hg'
        have hw := (step_sum zs k (by omega) hg').2.2
        have HW : Hid (wrap64 (sumTo zs k + zs k) = sumTo zs (k + 1)) := hw
        clear hw hg' hg
        unfold bad at hz
        have h0 : ¬ zs k < 0 := by omega
        have h4 : ¬ 1048576 < zs k := by omega
        clear hz
        go_wp2_with fail
        go_roundw
        case rel => exact ⟨k + 1, by rw [HW.out], by simp, by omega, HG, trivial⟩
        case measure => simp [intOf]; omega
    · have hkn : k = n := by omega
      subst hkn
      have t : ¬ (k : Int) < (k : Int) := by omega
      go_wp2_with fail
      go_ret
      refine ⟨⟨_, rfl, ?_⟩, rfl⟩
      simp only [decide_eq_true_eq]
      refine ⟨fun hp => ⟨by omega, fun i => ?_, hb, hp⟩, fun hc => hc.some⟩
      by_cases hi : i < k
      · have := hg.out i hi; unfold bad at this; omega
      · rw [hb i (by omega)]; omega
theorem ref3Right_yes (zs : Nat → Int) (n : Nat) (v : Value) (w : World) (h : Row w v n fun i => .int .i64 (zs i)) (hc : Curve zs n) :
    Calls Tryz.prog 50 #[v] w fun e w' => e = .returned (.bool true) ∧ w' = w :=
  (ref3Right_tells zs n v w h hc.beyond).mono fun _ _ ⟨⟨b, he, hb⟩, hw⟩ => ⟨by rw [he, hb.2 hc], hw⟩
theorem ref3Right_no (zs : Nat → Int) (n : Nat) (v : Value) (w : World) (h : Row w v n fun i => .int .i64 (zs i)) (hb : ∀ i, n ≤ i → zs i = 0) (hc : ¬ Curve zs n) :
    Calls Tryz.prog 50 #[v] w fun e w' => e = .returned (.bool false) ∧ w' = w :=
  (ref3Right_tells zs n v w h hb).mono fun _ _ ⟨⟨b, he, hb⟩, hw⟩ => ⟨by
    cases b with
    | false => exact he
    | true => exact absurd (hb.1 rfl) hc, hw⟩

theorem ref3Right_any (l : List Int) (v : Value) (w : World) (h : Row w v l.length fun i => .int .i64 (l.getD i 0)) :
    Calls Tryz.prog 50 #[v] w fun e w' => e = .returned (.bool (curB l)) ∧ w' = w := by
  cases hc : curB l with
  | true => exact ref3Right_yes _ l.length v w h ((curve_iff l).2 hc)
  | false => exact ref3Right_no _ l.length v w h (fun i hi => getD_beyond hi) (fun k => by rw [(curve_iff l).1 k] at hc; simp at hc)
end Go.Proofs.YtdacfnodihannaaGreat
