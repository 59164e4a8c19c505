/-
  Positions in memory; contracts of position's upTo, isSide, place, made, has, told, Bought, Sold, Net.
-/
import Derived.Test.YtbmmokdccfajmaaPoMath
namespace Go.Proofs.Ytbmmokdccfajmaa.PO
open Go.ChangeShapes Go.WideShapes Go.ChangeAt Go.RowKit Go.Lib

/-- The world holds at block n + 1 positions: the list of their rows lies in block n, the row of account a in block n + 2 + a. -/
structure PosAt (w : World) (n : Nat) (b : Pk) : Prop where
  cA : w.cell? ⟨n + 1, 0, none⟩ = some (.slice (some ⟨n, 0, none⟩) b.nA b.nA)
  cR : ∀ a, a < b.nA → w.cell? ⟨n, a, none⟩ = some (.slice (some ⟨n + 2 + a, 0, none⟩) b.nS b.nS)
  cV : ∀ a j, a < b.nA → j < b.nS * 4 → w.cell? ⟨n + 2 + a, j, none⟩ = some (.int .i64 (b.V a j))
  th : ∀ a j, a < b.nA → w.frozen? ⟨n + 2 + a, j, none⟩ = false
  good : Good b
/-- Its own blocks. -/
def own (n m k : Nat) : Prop := n ≤ k ∧ k < n + 2 + m
/-- The blocks of its rows. -/
def rows (n m k : Nat) : Prop := n + 2 ≤ k ∧ k < n + 2 + m
theorem PosAt.lt {w : World} {n : Nat} {b : Pk} (K : PosAt w n b) {i : Nat} (h : own n b.nA i) : i < w.heap.size := by
  obtain ⟨h1, h2⟩ := h
  by_cases e0 : i = n
  · subst e0; exact World.block_lt_of_cell? _ _ (K.cR 0 K.good.a1)
  by_cases e1 : i = n + 1
  · subst e1; exact World.block_lt_of_cell? _ _ K.cA
  have e2 : i = n + 2 + (i - (n + 2)) := by omega
  rw [e2]
  exact World.block_lt_of_cell? _ _ (K.cV (i - (n + 2)) 0 (by omega) (by have := K.good.s1; omega))
theorem PosAt.kept {w w' : World} {n : Nat} {b : Pk} {T : Nat → Prop} (K : PosAt w n b) (k : But T w w') (hT : ∀ i, own n b.nA i → ¬ T i) : PosAt w' n b := by
  have ow : ∀ i, own n b.nA i → (∀ o, w'.cell? ⟨i, o, none⟩ = w.cell? ⟨i, o, none⟩) ∧ ∀ o, w'.frozen? ⟨i, o, none⟩ = w.frozen? ⟨i, o, none⟩ := fun i hi => ⟨fun o => k.cell (K.lt hi) (hT i hi), fun o => k.frozen (K.lt hi) (hT i hi)⟩
  have a1 := K.good.a1
  exact ⟨by rw [(ow (n + 1) ⟨by omega, by omega⟩).1]; exact K.cA, fun a ha => by rw [(ow n ⟨by omega, by omega⟩).1]; exact K.cR a ha, fun a j ha hj => by rw [(ow (n + 2 + a) ⟨by omega, by omega⟩).1]; exact K.cV a j ha hj, fun a j ha => by rw [(ow (n + 2 + a) ⟨by omega, by omega⟩).2]; exact K.th a j ha, K.good⟩
theorem PosAt.below {w w' : World} {n : Nat} {b : Pk} (K : PosAt w n b) (k : Below w.heap.size w w') : PosAt w' n b :=
  K.kept (T := fun _ => False) (But.of_below k) (fun _ _ => id)
/-- A side's sums are others. -/
theorem PosAt.put {w : World} {n : Nat} {b : Pk} (K : PosAt w n b) {a j : Nat} {x y : Int} (ha : a < b.nA) (hj : j + 1 < b.nS * 4) (hx : 0 ≤ x ∧ x ≤ 9223372036854775807) (hy : 0 ≤ y ∧ y ≤ 9223372036854775807) :
    PosAt ((w.setCell ⟨n + 2 + a, j, none⟩ (.int .i64 x)).setCell ⟨n + 2 + a, j + 1, none⟩ (.int .i64 y)) n (setP b a j x y) := by
  have hk : ∀ k o, k ≠ n + 2 + a → ((w.setCell ⟨n + 2 + a, j, none⟩ (.int .i64 x)).setCell ⟨n + 2 + a, j + 1, none⟩ (.int .i64 y)).cell? ⟨k, o, none⟩ = w.cell? ⟨k, o, none⟩ := fun k o hk => by
    rw [World.cell?_setCell_other _ _ _ _ (by intro e; injection e with e1; exact hk e1.symm), World.cell?_setCell_other _ _ _ _ (by intro e; injection e with e1; exact hk e1.symm)]
  refine ⟨by rw [hk _ _ (by omega)]; exact K.cA, fun c hc => by rw [hk _ _ (by omega)]; exact K.cR c hc, fun c i hc hi => ?_, fun c i hc => by rw [World.frozen?_setCell, World.frozen?_setCell]; exact K.th c i hc, K.good.setP hx hy ha⟩
  rw [setP_at]
  by_cases e : c = a
  · subst e
    rw [if_pos rfl]
    by_cases e1 : i = j + 1
    · subst e1
      rw [if_pos rfl]
      exact World.cell?_setCell_same' _ _ _ (by rw [World.cell?_setCell_other _ _ _ _ (by simp), K.cV c (j + 1) ha hj]; rfl)
    · rw [if_neg e1, World.cell?_setCell_other _ _ _ _ (by intro e; injection e with _ e2; exact e1 e2.symm)]
      by_cases e2 : i = j
      · subst e2
        rw [if_pos rfl]
        exact World.cell?_setCell_same' _ _ _ (by rw [K.cV c i ha (by omega)]; rfl)
      · rw [if_neg e2, World.cell?_setCell_other _ _ _ _ (by intro e; injection e with _ e3; exact e2 e3.symm)]
        exact K.cV c i hc hi
  · rw [if_neg e, hk _ _ (by omega)]
    exact K.cV c i hc hi
theorem below_of_drewN {w w1 : World} {m : Nat} (h : Below (w.drewN m).heap.size (w.drewN m) w1) : Below w.heap.size w w1 := ⟨h.os, h.tape, h.output, h.size, h.block⟩
/-- Positions that are none. -/
def NoPos (w : World) (r : Value) : Prop := r = .pointer none ∨ ∃ q, r = .pointer (some ⟨q, 0, none⟩) ∧ w.cell? ⟨q, 0, none⟩ = some (.slice none 0 0)

theorem upTo_any (n m : Int) (w : World) : Calls Try.prog 15 #[.int .i64 n, .int .i64 m] w fun e w' => e = .returned (.bool (upB n m)) ∧ w' = w := by
  by_cases h1 : 1 ≤ n
  · rw [show upB n m = decide (n ≤ m) by rw [upB, decide_eq_true h1, Bool.true_and]]
    go_enter Try.func15, Try.ntmps15
    go_wp2
    go_ret
    exact ⟨rfl, rfl⟩
  · rw [show upB n m = false by rw [upB, decide_eq_false h1, Bool.false_and]]
    go_enter Try.func15, Try.ntmps15
    go_wp2
    go_ret
    exact ⟨rfl, rfl⟩
theorem isSide_any (d : Int) (w : World) : Calls Try.prog 32 #[.int .i64 d] w fun e w' => e = .returned (.bool (isB d)) ∧ w' = w := by
  cases h1 : (d == 1)
  · rw [show isB d = (d == 2) by rw [isB, h1, Bool.false_or]]
    go_enter Try.func32, Try.ntmps32
    go_wp2
    go_ret
    exact ⟨rfl, rfl⟩
  · rw [show isB d = true by rw [isB, h1, Bool.true_or]]
    go_enter Try.func32, Try.ntmps32
    go_wp2
    go_ret
    exact ⟨rfl, rfl⟩
theorem place_any (d : Int) (h : 1 ≤ d) (h2 : d ≤ 2) (w : World) : Calls Try.prog 30 #[.int .i64 d] w fun e w' => e = .returned (.int .i64 (d - 1)) ∧ w' = w := by
  go_enter Try.func30, Try.ntmps30
  go_wp2
  go_ret
  exact ⟨rfl, rfl⟩
theorem made_yes {w : World} {n : Nat} {b : Pk} (K : PosAt w n b) : Calls Try.prog 31 #[.pointer (some ⟨n + 1, 0, none⟩)] w fun e w' => e = .returned (.bool true) ∧ w' = w := by
  have h0 := K.cA
  have t : (0 : Int) < (b.nA : Int) := by have := K.good.a1; omega
  clear K
  go_enter Try.func31, Try.ntmps31
  go_wp2
  go_ret
  exact ⟨by simp; omega, rfl⟩
theorem made_no {w : World} {r : Value} (h : NoPos w r) : Calls Try.prog 31 #[r] w fun e w' => e = .returned (.bool false) ∧ w' = w := by
  rcases h with rfl | ⟨q, rfl, h⟩
  · go_enter Try.func31, Try.ntmps31
    go_wp2
    go_ret
    exact ⟨rfl, rfl⟩
  · go_enter Try.func31, Try.ntmps31
    go_wp2
    go_ret
    exact ⟨by simp, rfl⟩
theorem has_none {w : World} {r : Value} (h : NoPos w r) (a s : Int) : Calls Try.prog 29 #[r, .int .i64 a, .int .i64 s] w fun e w' => e = .returned (.bool false) ∧ w' = w := by
  have F := made_no h
  go_enter Try.func29, Try.ntmps29
  go_wp2_with fail
  refine F.mono ?_
  rintro e w1 ⟨rfl, rfl⟩
  go_wp2_with fail
  go_ret
  exact ⟨rfl, rfl⟩
theorem has_any {w : World} {n : Nat} {b : Pk} (K : PosAt w n b) (a s : Int) : Calls Try.prog 29 #[.pointer (some ⟨n + 1, 0, none⟩), .int .i64 a, .int .i64 s] w fun e w' => e = .returned (.bool (hasB b a s)) ∧ w' = w := by
  have F := made_yes K
  have h0 := K.cA
  have a2 := K.good.a2
  have s2 := K.good.s2
  obtain ⟨Z, hZ⟩ : ∃ Z, hasB b a s = Z := ⟨_, rfl⟩
  rw [hZ]
  cases h1 : decide (0 ≤ a)
  · obtain rfl : Z = false := by rw [← hZ]; unfold hasB; rw [h1]; rfl
    clear K hZ
    go_enter Try.func29, Try.ntmps29
    go_wp2_with fail
    refine F.mono ?_
    rintro e w1 ⟨rfl, rfl⟩
    go_wp2_with fail
    go_ret
    exact ⟨rfl, rfl⟩
  cases h2 : decide (a < (b.nA : Int))
  · obtain rfl : Z = false := by rw [← hZ]; unfold hasB; rw [h1, h2]; rfl
    clear K hZ
    go_enter Try.func29, Try.ntmps29
    go_wp2_with fail
    refine F.mono ?_
    rintro e w1 ⟨rfl, rfl⟩
    go_wp2_with fail
    go_ret
    exact ⟨rfl, rfl⟩
  cases h3 : decide (0 ≤ s)
  · obtain rfl : Z = false := by rw [← hZ]; unfold hasB; rw [h1, h2, h3]; rfl
    clear K hZ
    go_enter Try.func29, Try.ntmps29
    go_wp2_with fail
    refine F.mono ?_
    rintro e w1 ⟨rfl, rfl⟩
    go_wp2_with fail
    go_ret
    exact ⟨rfl, rfl⟩
  obtain ⟨c, rfl⟩ := Int.eq_ofNat_of_zero_le (of_decide_eq_true h1)
  have hc : c < b.nA := by have := of_decide_eq_true h2; omega
  have h4 := K.cR c hc
  have t : (c : Int) < (b.nA : Int) := by omega
  obtain rfl : decide (s < (b.nS : Int)) = Z := by rw [← hZ]; unfold hasB; rw [h1, h2, h3]; rfl
  clear K hZ h1 h2
  go_enter Try.func29, Try.ntmps29
  go_wp2_with fail
  refine F.mono ?_
  rintro e w1 ⟨rfl, rfl⟩
  go_wp2_with fail
  go_ret
  exact ⟨rfl, rfl⟩
end Go.Proofs.Ytbmmokdccfajmaa.PO
