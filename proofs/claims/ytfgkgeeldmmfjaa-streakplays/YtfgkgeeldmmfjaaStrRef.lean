/-
  The reference's list of all executions: how it reads; its Count and Tripped are the plain mathematics.
-/
import Derived.Test.YtfgkgeeldmmfjaaRuns
import Derived.Test.YtfgkgeeldmmfjaaOwnRows
namespace Go.Proofs.Ytfgkgeeldmmfjaa
open Go.ChangeShapes Go.WideShapes Go.ChangeAt Go.RowKit Go.Lib

/-- The slice value v reads as n executions. -/
def Fills (w : World) (v : Value) (n : Nat) (f : Nat → Int × Int × Int) : Prop :=
  ∃ a cap, v = .slice a n cap ∧ n ≤ cap ∧ cap ≤ maxLen ∧ ∀ i, i < n → ∃ b off, a = some ⟨b, off, none⟩ ∧ w.cell? ⟨b, off + i * 3, none⟩ = some (.int .i64 (f i).1) ∧ w.cell? ⟨b, off + i * 3 + 1, none⟩ = some (.int .i64 (f i).2.1) ∧ w.cell? ⟨b, off + i * 3 + 2, none⟩ = some (.int .i64 (f i).2.2)
theorem Fills.drewN {w : World} {v : Value} {n : Nat} {f : Nat → Int × Int × Int} (h : Fills w v n f) (m : Nat) : Fills (w.drewN m) v n f := h
/-- Two executions are held against each other part by part. -/
theorem fill_eq (a b c d e f : Int) (w : World) : (Op.equalIn 10000 32 (.agg #[.int .i64 a, .int .i64 b, .int .i64 c]) (.agg #[.int .i64 d, .int .i64 e, .int .i64 f])).run Try.prog w = .ok (decide ((a, b, c) = (d, e, f))) w := by
  rw [show (10000 : Nat) = 9999 + 1 from rfl, run_equalIn_struct (P := Try.prog) w 9999 _ _ _ (by kernel_rfl) (by kernel_rfl)]
  simp [Program.fieldsOf, Try.underlying32, Op.eqFields, go_sem, Try.underlying3]
  by_cases h1 : a = d <;> by_cases h2 : b = e <;> by_cases h3 : c = f <;> simp [h1, h2, h3]
set_option maxRecDepth 100000 in
set_option maxHeartbeats 1000000 in
theorem refCount_none {w : World} {v : Value} {f : Nat → Int × Int × Int} (h : Fills w v 0 f) :
    Calls Try.prog 12 #[v] w fun e w' => e = .returned (.int .i64 0) ∧ ∃ m, w' = w.drewN m := by
  obtain ⟨a, cap, rfl, h1, h2, h3⟩ := h
  have d0 : decide ((0 : Int) ≤ -1) = false := rfl
  go_enter Try.func12, Try.ntmps12
  go_wp2_with fail
  go_loopw [3, 4] (fun u i wr => u = .int .i64 0 ∧ i = .int .i64 (-1) ∧ wr = w) (fun _ _ _ => 0)
  case atStart => exact ⟨rfl, rfl, rfl⟩
  case round =>
    obtain ⟨rfl, rfl, rfl⟩ := hrel
    go_wp2_with fail
    go_quiet (fail)
    go_wp2_with fail
    go_ret
    exact ⟨rfl, _, rfl⟩
set_option maxRecDepth 100000 in
set_option maxHeartbeats 2000000 in
theorem refCount_some {w : World} {v : Value} {n : Nat} {f : Nat → Int × Int × Int} (h : Fills w v n f) (hn : n ≤ 1000) (h0 : 0 < n) :
    Calls Try.prog 12 #[v] w fun e w' => e = .returned (.int .i64 (runOf f n : Int)) ∧ ∃ m, w' = w.drewN m := by
  obtain ⟨a, cap, rfl, h1, h2, h3⟩ := h
  have hle := runOf_le f n
  have hS := runOf_same f n
  have hT := runOf_stop f n
  obtain ⟨R, hR⟩ : ∃ R, runOf f n = R := ⟨_, rfl⟩
  rw [hR] at hS hT hle ⊢
  clear hR
  unfold maxLen at h2
  obtain ⟨k, ek⟩ : ∃ k, k = n - 1 := ⟨_, rfl⟩
  have el : (n : Int) - 1 = (k : Int) := by omega
  have t2 : (k : Int) < (n : Int) := by omega
  rw [← ek] at hS hT
  have HS : Hid (∀ j, n - R ≤ j → j < n → f j = f k) := hS
  have HT : Hid (R < n → f (n - R - 1) ≠ f k) := hT
  have HK : Hid (k = n - 1) := ek
  clear hS hT ek
  obtain ⟨b, off, rfl, x0, y0, z0⟩ := h3 k (by omega)
  have h4 : Hid (∀ i, i < n → w.cell? ⟨b, off + i * 3, none⟩ = some (.int .i64 (f i).1) ∧ w.cell? ⟨b, off + i * 3 + 1, none⟩ = some (.int .i64 (f i).2.1) ∧ w.cell? ⟨b, off + i * 3 + 2, none⟩ = some (.int .i64 (f i).2.2)) := fun i hi => by
    obtain ⟨b', off', e', c⟩ := h3 i hi
    injection e' with e'
    injection e' with e1 e2
    subst e1 e2
    exact c
  clear h3
  go_enter Try.func12, Try.ntmps12
  go_wp2_with fail
  go_loopw [3, 4] (fun u i wr => ∃ c m : Nat, u = .int .i64 (c : Int) ∧ i = .int .i64 ((k : Int) - (c : Int)) ∧ c ≤ R ∧ wr = w.drewN m) (fun u _ _ => n + 1 - (RowKit.intOf u).toNat)
  case atStart => exact ⟨0, 0, rfl, by simp, Nat.zero_le _, rfl⟩
  case round =>
    obtain ⟨c, m, rfl, rfl, hc, hwr⟩ := hrel
    have HW : Hid (wr = w.drewN m) := hwr
    by_cases hlt : c < n
    · obtain ⟨j, ej⟩ : ∃ j : Nat, j = k - c := ⟨_, rfl⟩
      have ei : (k : Int) - (c : Int) = (j : Int) := by omega
      rw [ei]
      obtain ⟨x1, y1, z1⟩ := h4.out j (by omega)
      have X0 : wr.cell? ⟨b, off + k * 3, none⟩ = some (.int .i64 (f k).1) := by rw [hwr]; exact x0
      have Y0 : wr.cell? ⟨b, off + k * 3 + 1, none⟩ = some (.int .i64 (f k).2.1) := by rw [hwr]; exact y0
      have Z0 : wr.cell? ⟨b, off + k * 3 + 2, none⟩ = some (.int .i64 (f k).2.2) := by rw [hwr]; exact z0
      have X1 : wr.cell? ⟨b, off + j * 3, none⟩ = some (.int .i64 (f j).1) := by rw [hwr]; exact x1
      have Y1 : wr.cell? ⟨b, off + j * 3 + 1, none⟩ = some (.int .i64 (f j).2.1) := by rw [hwr]; exact y1
      have Z1 : wr.cell? ⟨b, off + j * 3 + 2, none⟩ = some (.int .i64 (f j).2.2) := by rw [hwr]; exact z1
      have E := fun w => fill_eq (f j).1 (f j).2.1 (f j).2.2 (f k).1 (f k).2.1 (f k).2.2 w
      have d0 : decide ((0 : Int) ≤ (j : Int)) = true := decide_eq_true (by omega)
      have t1 : (j : Int) < (n : Int) := by omega
      have HJ : Hid (j = k - c) := ej
      clear x0 y0 z0 x1 y1 z1 ei hwr ej h4
      by_cases hcR : c < R
      · have s : f j = f k := HS.out j (by have := HJ.out; have := HK.out; omega) (by omega)
        rw [show decide (((f j).1, (f j).2.1, (f j).2.2) = ((f k).1, (f k).2.1, (f k).2.2)) = true from decide_eq_true s] at E
        clear s
        generalize (f j).1 = a1 at *
        generalize (f j).2.1 = a2 at *
        generalize (f j).2.2 = a3 at *
        generalize (f k).1 = b1 at *
        generalize (f k).2.1 = b2 at *
        generalize (f k).2.2 = b3 at *
        go_wp2_with fail
        go_quiet (fail)
        go_wp2_with fail
        go_roundw
        case rel => exact ⟨c + 1, m + nq, by simp, by have := HJ.out; simp; omega, by omega, by rw [HW.out]; simp⟩
        case measure => simp [RowKit.intOf]; omega
      · obtain rfl : c = R := by omega
        have s : f j ≠ f k := by
          have := HT.out (by omega)
          rw [show n - c - 1 = j by have := HJ.out; have := HK.out; omega] at this
          exact this
        rw [show decide (((f j).1, (f j).2.1, (f j).2.2) = ((f k).1, (f k).2.1, (f k).2.2)) = false from decide_eq_false s] at E
        clear s
        generalize (f j).1 = a1 at *
        generalize (f j).2.1 = a2 at *
        generalize (f j).2.2 = a3 at *
        generalize (f k).1 = b1 at *
        generalize (f k).2.1 = b2 at *
        generalize (f k).2.2 = b3 at *
        go_wp2_with fail
        go_quiet (fail)
        go_wp2_with fail
        go_ret
        exact ⟨rfl, m + nq, by rw [HW.out]; simp⟩
    · obtain rfl : c = n := by omega
      obtain rfl : c = R := by omega
      have ei : (k : Int) - (c : Int) = -1 := by omega
      rw [ei]
      have d0 : decide ((0 : Int) ≤ -1) = false := rfl
      clear hwr ei h4
      go_wp2_with fail
      go_quiet (fail)
      go_wp2_with fail
      go_ret
      exact ⟨rfl, m + nq, by rw [HW.out]; simp⟩
theorem refCount_any {w : World} {v : Value} {n : Nat} {f : Nat → Int × Int × Int} (h : Fills w v n f) (hn : n ≤ 1000) :
    Calls Try.prog 12 #[v] w fun e w' => e = .returned (.int .i64 (runOf f n : Int)) ∧ ∃ m, w' = w.drewN m := by
  by_cases h0 : 0 < n
  · exact refCount_some h hn h0
  · obtain rfl : n = 0 := by omega
    exact refCount_none h
set_option maxRecDepth 100000 in
set_option maxHeartbeats 2000000 in
theorem refTripped_any {w : World} {v : Value} {n : Nat} {f : Nat → Int × Int × Int} (h : Fills w v n f) (hn : n ≤ 1000) (most : Nat) :
    Calls Try.prog 10 #[v, .int .i64 (most : Int)] w fun e w' => e = .returned (.bool (tripB f most n)) ∧ ∃ m, w' = w.drewN m := by
  have HF : Hid (Fills w v n f) := h
  obtain ⟨a, cap, rfl, h1, h2, h3⟩ := h
  have ht : ∀ k, k ≤ n → tripB f most k = true → tripB f most n = true := fun k hk h => tripB_mono f most h n hk
  have HT : Hid (∀ k, k ≤ n → tripB f most k = true → tripB f most n = true) := ht
  obtain ⟨T, hT⟩ : ∃ T, tripB f most n = T := ⟨_, rfl⟩
  rw [hT] at HT ⊢
  have HE : Hid (tripB f most n = T) := hT
  clear ht hT h3
  unfold maxLen at h2
  go_enter Try.func10, Try.ntmps10
  go_wp2_with fail
  go_loopw [5] (fun i wr => ∃ k m : Nat, i = .int .i64 ((k : Int) + 1) ∧ k ≤ n ∧ Hid (tripB f most k = false) ∧ wr = w.drewN m) (fun i _ => n + 1 - (RowKit.intOf i).toNat)
  case atStart => exact ⟨0, 0, rfl, Nat.zero_le _, rfl, rfl⟩
  case round =>
    obtain ⟨k, m, rfl, hk, HK, hwr⟩ := hrel
    by_cases hlt : k < n
    · have t : (k : Int) + 1 ≤ (n : Int) := by omega
      have t3 : k + 1 ≤ cap := by omega
      have FK : Fills wr (.slice a (k + 1) cap) (k + 1) f := by
        obtain ⟨a', cap', e, _, q2, q3⟩ := HF.out
        injection e with e1 e2 e3
        subst e1 e3
        rw [hwr]
        exact ⟨_, _, rfl, by omega, q2, fun i hi => q3 i (by omega)⟩
      have G1 := refCount_any FK (by omega)
      have hs := tripB_succ f most k
      rw [HK.out, Bool.false_or] at hs
      have HS : Hid (tripB f most (k + 1) = decide (most ≤ runOf f (k + 1))) := hs
      obtain ⟨R, hR⟩ : ∃ R, runOf f (k + 1) = R := ⟨_, rfl⟩
      rw [hR] at G1 HS
      have HW : Hid (wr = w.drewN m) := hwr
      clear FK hwr hR hs
      by_cases hm : most ≤ R
      · have d1 : decide ((most : Int) ≤ (R : Int)) = true := decide_eq_true (by omega)
        go_wp2_with fail
        refine G1.mono ?_
        rintro e w2 ⟨rfl, m2, hw2⟩
        have HW2 : Hid (w2 = wr.drewN m2) := hw2
        clear hw2
        go_wp2_with fail
        go_ret
        refine ⟨?_, m + m2, by rw [HW2.out, HW.out]; simp⟩
        rw [HT.out (k + 1) (by omega) (by rw [HS.out]; exact decide_eq_true hm)]
        rfl
      · have d1 : decide ((most : Int) ≤ (R : Int)) = false := decide_eq_false (by omega)
        go_wp2_with fail
        refine G1.mono ?_
        rintro e w2 ⟨rfl, m2, hw2⟩
        have HW2 : Hid (w2 = wr.drewN m2) := hw2
        clear hw2
        go_wp2_with fail
        go_roundw
        case rel => exact ⟨k + 1, m + m2, by simp, by omega, (by rw [HS.out]; exact decide_eq_false hm : tripB f most (k + 1) = false), by rw [HW2.out, HW.out]; simp⟩
        case measure => simp [RowKit.intOf]; omega
    · obtain rfl : k = n := by omega
      have t : ¬ (k : Int) + 1 ≤ (k : Int) := by omega
      have HW : Hid (wr = w.drewN m) := hwr
      have eT : T = false := HE.out.symm.trans HK.out
      subst eT
      clear hwr
      go_wp2_with fail
      go_ret
      exact ⟨rfl, m, HW.out⟩
end Go.Proofs.Ytfgkgeeldmmfjaa
