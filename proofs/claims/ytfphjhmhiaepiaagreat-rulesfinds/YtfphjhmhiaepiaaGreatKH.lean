/-
  Contracts of rules' band and banded, and of the functions that its looks hand on: whether one thing of a list is right.
-/
import Derived.Test.YtfphjhmhiaepiaaGreatKG
namespace Go.Proofs.YtfphjhmhiaepiaaGreat.RU
open Go.ChangeShapes Go.WideShapes Go.ChangeAt Go.RowKit Go.Lib

theorem band_sym (x : It) (w : World) (t2 : x.2.1 2 ≤ 9223372036854775807) :
    Calls Tryz.prog 31 #[.agg #[.string x.1, .int .i64 (x.2.1 1), .int .i64 (x.2.1 2), .int .i64 (x.2.1 3), .int .i64 (x.2.1 4), .int .i64 (x.2.1 5), .int .i64 (x.2.1 6)]] w fun e w' => e = .returned (.tuple #[.int .i64 (baL (x.2.1 3) (x.2.1 4) (x.2.1 2)), .int .i64 (baH (x.2.1 3) (x.2.1 4) (x.2.1 2)), .int .i64 (baE (x.2.1 3) (x.2.1 4) (x.2.1 2))]) ∧ Below w.heap.size w w' := by
  obtain ⟨s, z, m⟩ := x
  have F := fun w => band_any (z 3) (z 4) (z 2) w t2
  go_enter Tryz.func31, Tryz.ntmps31
  go_wp2_with fail
  refine (F _).mono ?_
  rintro e w1 ⟨rfl, hb⟩
  go_wp2_with fail
  go_ret3
  exact ⟨rfl, ((Below.refl _ _).alloc (Nat.le_refl _) _).trans (hb.mono (by simp))⟩
set_option maxHeartbeats 1000000 in
theorem banded_any (x : It) (w : World) (t2 : x.2.1 2 ≤ 9223372036854775807) :
    Calls Tryz.prog 65 #[.agg #[.string x.1, .int .i64 (x.2.1 1), .int .i64 (x.2.1 2), .int .i64 (x.2.1 3), .int .i64 (x.2.1 4), .int .i64 (x.2.1 5), .int .i64 (x.2.1 6)]] w fun e w' => e = .returned (.bool (bandB x.2.1)) ∧ Below w.heap.size w w' := by
  have F := fun w => band_sym x w t2
  unfold bandB
  obtain ⟨s, z, m⟩ := x
  dsimp only at F ⊢
  generalize baL (z 3) (z 4) (z 2) = l at *
  generalize baH (z 3) (z 4) (z 2) = h at *
  generalize baE (z 3) (z 4) (z 2) = r at *
  by_cases k : r = 0
  · rw [decide_eq_true k, Bool.true_and]
    have HK : Hid (r = 0) := k
    have k' : (r == 0) = true := by simp [k]
    clear k
    go_enter Tryz.func65, Tryz.ntmps65
    go_wp2_with fail
    refine (F _).mono ?_
    rintro e w1 ⟨rfl, hb⟩
    go_wp2_with fail
    go_ret
    exact ⟨rfl, ((Below.refl _ _).alloc (Nat.le_refl _) _).trans (hb.mono (by simp))⟩
  · rw [decide_eq_false k, Bool.false_and]
    have k' : (r == 0) = false := by simp [k]
    go_enter Tryz.func65, Tryz.ntmps65
    go_wp2_with fail
    refine (F _).mono ?_
    rintro e w1 ⟨rfl, hb⟩
    go_wp2_with fail
    go_ret
    exact ⟨rfl, ((Below.refl _ _).alloc (Nat.le_refl _) _).trans (hb.mono (by simp))⟩
theorem banded_is (s : ByteArray) (z : Nat → Int) (m : Bool) (w : World) (b : Bool) (hb : bandB z = b) (t : withB (z 2) 1 1099511627776 = true) :
    Calls Tryz.prog 65 #[.agg #[.string s, .int .i64 (z 1), .int .i64 (z 2), .int .i64 (z 3), .int .i64 (z 4), .int .i64 (z 5), .int .i64 (z 6)]] w fun e w' => e = .returned (.bool b) ∧ Below w.heap.size w w' := by
  rw [← hb]
  exact banded_any (s, z, m) w (by have := withB_get t; show z 2 ≤ _; omega)
set_option maxHeartbeats 4000000 in
theorem holdA_any (x : It) (w : World) :
    Calls Tryz.prog 61 #[.agg #[.string x.1, .int .i64 (x.2.1 1)]] w fun e w' => e = .returned (.bool (accB x.2.1)) ∧ Below w.heap.size w w' := by
  obtain ⟨s, z, m⟩ := x
  cases h1 : withB (z 1) 0 4611686018427387904
  · rw [show accB z = false by unfold accB; simp [h1]]
    go_enter Tryz.func61, Tryz.ntmps61
    go_wp2_with fail
    refine (within_is (z 1) 0 4611686018427387904 _ _ h1).mono ?_
    rintro e w' ⟨rfl, rfl⟩
    go_wp2_with fail
    go_ret
    exact ⟨rfl, (Below.refl _ _).alloc (Nat.le_refl _) _⟩
  · rw [show accB z = true by unfold accB; simp [h1]]
    go_enter Tryz.func61, Tryz.ntmps61
    go_wp2_with fail
    refine (within_is (z 1) 0 4611686018427387904 _ _ h1).mono ?_
    rintro e w' ⟨rfl, rfl⟩
    go_wp2_with fail
    go_ret
    exact ⟨rfl, (Below.refl _ _).alloc (Nat.le_refl _) _⟩
set_option maxHeartbeats 4000000 in
theorem holdS_any (x : It) (w : World) :
    Calls Tryz.prog 64 #[.agg #[.string x.1, .int .i64 (x.2.1 1), .int .i64 (x.2.1 2), .int .i64 (x.2.1 3), .int .i64 (x.2.1 4), .int .i64 (x.2.1 5), .int .i64 (x.2.1 6)]] w fun e w' => e = .returned (.bool (symB x.2.1)) ∧ Below w.heap.size w w' := by
  obtain ⟨s, z, m⟩ := x
  cases h1 : withB (z 1) 1 1099511627776
  · rw [show symB z = false by unfold symB; simp [h1]]
    go_enter Tryz.func64, Tryz.ntmps64
    go_wp2_with fail
    refine (within_is (z 1) 1 1099511627776 _ _ h1).mono ?_
    rintro e w' ⟨rfl, rfl⟩
    go_wp2_with fail
    go_ret
    exact ⟨rfl, (Below.refl _ _).alloc (Nat.le_refl _) _⟩
  · cases h2 : withB (z 5) 1 1099511627776
    · rw [show symB z = false by unfold symB; simp [h1, h2]]
      go_enter Tryz.func64, Tryz.ntmps64
      go_wp2_with fail
      refine (within_is (z 1) 1 1099511627776 _ _ h1).mono ?_
      rintro e w' ⟨rfl, rfl⟩
      go_wp2_with fail
      refine (within_is (z 5) 1 1099511627776 _ _ h2).mono ?_
      rintro e w' ⟨rfl, rfl⟩
      go_wp2_with fail
      go_ret
      exact ⟨rfl, (Below.refl _ _).alloc (Nat.le_refl _) _⟩
    · cases h3 : withB (z 2) 1 1099511627776
      · rw [show symB z = false by unfold symB; simp [h1, h2, h3]]
        go_enter Tryz.func64, Tryz.ntmps64
        go_wp2_with fail
        refine (within_is (z 1) 1 1099511627776 _ _ h1).mono ?_
        rintro e w' ⟨rfl, rfl⟩
        go_wp2_with fail
        refine (within_is (z 5) 1 1099511627776 _ _ h2).mono ?_
        rintro e w' ⟨rfl, rfl⟩
        go_wp2_with fail
        refine (within_is (z 2) 1 1099511627776 _ _ h3).mono ?_
        rintro e w' ⟨rfl, rfl⟩
        go_wp2_with fail
        go_ret
        exact ⟨rfl, (Below.refl _ _).alloc (Nat.le_refl _) _⟩
      · cases h4 : withB (z 3) 1 1099511627776
        · rw [show symB z = false by unfold symB; simp [h1, h2, h3, h4]]
          go_enter Tryz.func64, Tryz.ntmps64
          go_wp2_with fail
          refine (within_is (z 1) 1 1099511627776 _ _ h1).mono ?_
          rintro e w' ⟨rfl, rfl⟩
          go_wp2_with fail
          refine (within_is (z 5) 1 1099511627776 _ _ h2).mono ?_
          rintro e w' ⟨rfl, rfl⟩
          go_wp2_with fail
          refine (within_is (z 2) 1 1099511627776 _ _ h3).mono ?_
          rintro e w' ⟨rfl, rfl⟩
          go_wp2_with fail
          refine (within_is (z 3) 1 1099511627776 _ _ h4).mono ?_
          rintro e w' ⟨rfl, rfl⟩
          go_wp2_with fail
          go_ret
          exact ⟨rfl, (Below.refl _ _).alloc (Nat.le_refl _) _⟩
        · cases h5 : withB (z 4) 0 10000
          · rw [show symB z = false by unfold symB; simp [h1, h2, h3, h4, h5]]
            go_enter Tryz.func64, Tryz.ntmps64
            go_wp2_with fail
            refine (within_is (z 1) 1 1099511627776 _ _ h1).mono ?_
            rintro e w' ⟨rfl, rfl⟩
            go_wp2_with fail
            refine (within_is (z 5) 1 1099511627776 _ _ h2).mono ?_
            rintro e w' ⟨rfl, rfl⟩
            go_wp2_with fail
            refine (within_is (z 2) 1 1099511627776 _ _ h3).mono ?_
            rintro e w' ⟨rfl, rfl⟩
            go_wp2_with fail
            refine (within_is (z 3) 1 1099511627776 _ _ h4).mono ?_
            rintro e w' ⟨rfl, rfl⟩
            go_wp2_with fail
            refine (within_is (z 4) 0 10000 _ _ h5).mono ?_
            rintro e w' ⟨rfl, rfl⟩
            go_wp2_with fail
            go_ret
            exact ⟨rfl, (Below.refl _ _).alloc (Nat.le_refl _) _⟩
          · cases h6 : withB (z 6) 1 4611686018427387904
            · rw [show symB z = false by unfold symB; simp [h1, h2, h3, h4, h5, h6]]
              go_enter Tryz.func64, Tryz.ntmps64
              go_wp2_with fail
              refine (within_is (z 1) 1 1099511627776 _ _ h1).mono ?_
              rintro e w' ⟨rfl, rfl⟩
              go_wp2_with fail
              refine (within_is (z 5) 1 1099511627776 _ _ h2).mono ?_
              rintro e w' ⟨rfl, rfl⟩
              go_wp2_with fail
              refine (within_is (z 2) 1 1099511627776 _ _ h3).mono ?_
              rintro e w' ⟨rfl, rfl⟩
              go_wp2_with fail
              refine (within_is (z 3) 1 1099511627776 _ _ h4).mono ?_
              rintro e w' ⟨rfl, rfl⟩
              go_wp2_with fail
              refine (within_is (z 4) 0 10000 _ _ h5).mono ?_
              rintro e w' ⟨rfl, rfl⟩
              go_wp2_with fail
              refine (within_is (z 6) 1 4611686018427387904 _ _ h6).mono ?_
              rintro e w' ⟨rfl, rfl⟩
              go_wp2_with fail
              go_ret
              exact ⟨rfl, (Below.refl _ _).alloc (Nat.le_refl _) _⟩
            · cases h7 : bandB z
              · rw [show symB z = false by unfold symB; simp [h1, h2, h3, h4, h5, h6, h7]]
                go_enter Tryz.func64, Tryz.ntmps64
                go_wp2_with fail
                refine (within_is (z 1) 1 1099511627776 _ _ h1).mono ?_
                rintro e w' ⟨rfl, rfl⟩
                go_wp2_with fail
                refine (within_is (z 5) 1 1099511627776 _ _ h2).mono ?_
                rintro e w' ⟨rfl, rfl⟩
                go_wp2_with fail
                refine (within_is (z 2) 1 1099511627776 _ _ h3).mono ?_
                rintro e w' ⟨rfl, rfl⟩
                go_wp2_with fail
                refine (within_is (z 3) 1 1099511627776 _ _ h4).mono ?_
                rintro e w' ⟨rfl, rfl⟩
                go_wp2_with fail
                refine (within_is (z 4) 0 10000 _ _ h5).mono ?_
                rintro e w' ⟨rfl, rfl⟩
                go_wp2_with fail
                refine (within_is (z 6) 1 4611686018427387904 _ _ h6).mono ?_
                rintro e w' ⟨rfl, rfl⟩
                go_wp2_with fail
                refine (banded_is s z m _ _ h7 h3).mono ?_
                rintro e w2 ⟨rfl, hb⟩
                go_wp2_with fail
                go_ret
                exact ⟨rfl, ((Below.refl _ _).alloc (Nat.le_refl _) _).trans (hb.mono (by simp))⟩
              · rw [show symB z = true by unfold symB; simp [h1, h2, h3, h4, h5, h6, h7]]
                go_enter Tryz.func64, Tryz.ntmps64
                go_wp2_with fail
                refine (within_is (z 1) 1 1099511627776 _ _ h1).mono ?_
                rintro e w' ⟨rfl, rfl⟩
                go_wp2_with fail
                refine (within_is (z 5) 1 1099511627776 _ _ h2).mono ?_
                rintro e w' ⟨rfl, rfl⟩
                go_wp2_with fail
                refine (within_is (z 2) 1 1099511627776 _ _ h3).mono ?_
                rintro e w' ⟨rfl, rfl⟩
                go_wp2_with fail
                refine (within_is (z 3) 1 1099511627776 _ _ h4).mono ?_
                rintro e w' ⟨rfl, rfl⟩
                go_wp2_with fail
                refine (within_is (z 4) 0 10000 _ _ h5).mono ?_
                rintro e w' ⟨rfl, rfl⟩
                go_wp2_with fail
                refine (within_is (z 6) 1 4611686018427387904 _ _ h6).mono ?_
                rintro e w' ⟨rfl, rfl⟩
                go_wp2_with fail
                refine (banded_is s z m _ _ h7 h3).mono ?_
                rintro e w2 ⟨rfl, hb⟩
                go_wp2_with fail
                go_ret
                exact ⟨rfl, ((Below.refl _ _).alloc (Nat.le_refl _) _).trans (hb.mono (by simp))⟩
set_option maxHeartbeats 4000000 in
theorem holdV_any (x : It) (w : World) :
    Calls Tryz.prog 67 #[.agg #[.string x.1, .int .i64 (x.2.1 1), .int .i64 (x.2.1 2), .int .i64 (x.2.1 3), .bool x.2.2]] w fun e w' => e = .returned (.bool (venB x.2.1)) ∧ Below w.heap.size w w' := by
  obtain ⟨s, z, m⟩ := x
  cases h1 : withB (z 1) 1 1099511627776
  · rw [show venB z = false by unfold venB; simp [h1]]
    go_enter Tryz.func67, Tryz.ntmps67
    go_wp2_with fail
    refine (within_is (z 1) 1 1099511627776 _ _ h1).mono ?_
    rintro e w' ⟨rfl, rfl⟩
    go_wp2_with fail
    go_ret
    exact ⟨rfl, (Below.refl _ _).alloc (Nat.le_refl _) _⟩
  · cases h2 : withB (z 2) 0 10000
    · rw [show venB z = false by unfold venB; simp [h1, h2]]
      go_enter Tryz.func67, Tryz.ntmps67
      go_wp2_with fail
      refine (within_is (z 1) 1 1099511627776 _ _ h1).mono ?_
      rintro e w' ⟨rfl, rfl⟩
      go_wp2_with fail
      refine (within_is (z 2) 0 10000 _ _ h2).mono ?_
      rintro e w' ⟨rfl, rfl⟩
      go_wp2_with fail
      go_ret
      exact ⟨rfl, (Below.refl _ _).alloc (Nat.le_refl _) _⟩
    · cases h3 : withB (z 3) 0 1099511627776
      · rw [show venB z = false by unfold venB; simp [h1, h2, h3]]
        go_enter Tryz.func67, Tryz.ntmps67
        go_wp2_with fail
        refine (within_is (z 1) 1 1099511627776 _ _ h1).mono ?_
        rintro e w' ⟨rfl, rfl⟩
        go_wp2_with fail
        refine (within_is (z 2) 0 10000 _ _ h2).mono ?_
        rintro e w' ⟨rfl, rfl⟩
        go_wp2_with fail
        refine (within_is (z 3) 0 1099511627776 _ _ h3).mono ?_
        rintro e w' ⟨rfl, rfl⟩
        go_wp2_with fail
        go_ret
        exact ⟨rfl, (Below.refl _ _).alloc (Nat.le_refl _) _⟩
      · rw [show venB z = true by unfold venB; simp [h1, h2, h3]]
        go_enter Tryz.func67, Tryz.ntmps67
        go_wp2_with fail
        refine (within_is (z 1) 1 1099511627776 _ _ h1).mono ?_
        rintro e w' ⟨rfl, rfl⟩
        go_wp2_with fail
        refine (within_is (z 2) 0 10000 _ _ h2).mono ?_
        rintro e w' ⟨rfl, rfl⟩
        go_wp2_with fail
        refine (within_is (z 3) 0 1099511627776 _ _ h3).mono ?_
        rintro e w' ⟨rfl, rfl⟩
        go_wp2_with fail
        go_ret
        exact ⟨rfl, (Below.refl _ _).alloc (Nat.le_refl _) _⟩
end Go.Proofs.YtfphjhmhiaepiaaGreat.RU
/-
  Contract of rules' all at accounts, with the function that accountsHold hands on; of accountsHold.
-/
namespace Go.Proofs.YtfphjhmhiaepiaaGreat.RU
open Go.ChangeShapes Go.WideShapes Go.ChangeAt Go.RowKit Go.Lib

set_option maxHeartbeats 4000000 in
theorem allA_any {w : World} {v : Value} {n : Nat} {g : Nat → It} (h : RowA w v n g) :
    Calls Tryz.prog 60 #[v, .func (.func 61) #[] #[]] w fun e w' => e = .returned (.bool (allB n fun i => accB (g i).2.1)) ∧ Below w.heap.size w w' := by
  obtain ⟨a, cap, rfl, h1, h2, h3⟩ := id h
  unfold maxLen at h2
  obtain ⟨Z, hZ⟩ : ∃ Z, Hid (allB n (fun i => accB (g i).2.1) = Z) := ⟨_, rfl⟩
  rw [show allB n (fun i => accB (g i).2.1) = Z from hZ.out]
  clear h
  go_enter Tryz.func60, Tryz.ntmps60
  go_wp2_with fail
  go_loopw [9] (fun c wr => ∃ k : Nat, c = .int .i64 (k : Int) ∧ k ≤ n ∧ Hid (∀ i, i < k → accB (g i).2.1 = true) ∧ Below w.heap.size w wr) (fun c _ => n - (RowKit.intOf c).toNat)
  case atStart => exact ⟨0, rfl, Nat.zero_le _, fun i hi => absurd hi (by omega), Below.refl _ _⟩
  case round =>
    obtain ⟨k, rfl, hk, hf, hB⟩ := hrel
    by_cases hlt : k < n
    · have t : (k : Int) < (n : Int) := by omega
      obtain ⟨b, off, rfl, c0, c1⟩ := h3 k hlt
      have d0 := (hB.cell (World.block_lt_of_cell? _ _ c0)).trans c0
      have d1 := (hB.cell (World.block_lt_of_cell? _ _ c1)).trans c1
      have G1 : ∀ W, Calls Tryz.prog 61 #[.agg #[.string (g k).1, .int .i64 ((g k).2.1 1)]] W fun e w' => e = .returned (.bool (accB (g k).2.1)) ∧ Below W.heap.size W w' := fun W => holdA_any (g k) W
      have hge := hB.size
      have HB : Hid (Below w.heap.size w wr) := hB
      cases e1 : accB (g k).2.1
      · have hz : Hid (Z = false) := hZ.out.symm.trans (allB_false hlt e1)
        rw [e1] at G1
        clear h3 c0 c1 hf hB e1
        generalize g k = x at *
        go_wp2_with fail
        refine (G1 _).mono ?_
        rintro e w3 ⟨rfl, hb3⟩
        go_wp2_with fail
        go_ret
        exact ⟨by rw [hz.out]; rfl, (HB.out.alloc hge _).trans (hb3.mono (by simp; omega))⟩
      · have HF : Hid (∀ i, i < k + 1 → accB (g i).2.1 = true) := fun i hi => if e : i = k then by subst e; exact e1 else hf.out i (by omega)
        rw [e1] at G1
        clear h3 c0 c1 hf hB e1
        generalize g k = x at *
        go_wp2_with fail
        refine (G1 _).mono ?_
        rintro e w3 ⟨rfl, hb3⟩
        go_wp2_with fail
        go_roundw
        case rel => exact ⟨k + 1, by simp, by omega, HF, (HB.out.alloc hge _).trans (hb3.mono (by simp; omega))⟩
        case measure => simp [RowKit.intOf]; omega
    · have hkn : k = n := by omega
      subst hkn
      have hz : Hid (Z = true) := hZ.out.symm.trans (allB_true hf.out)
      have t : ¬ (k : Int) < (k : Int) := by omega
      clear h3 hf
      go_wp2_with fail
      go_ret
      exact ⟨by rw [hz.out]; rfl, hB⟩
end Go.Proofs.YtfphjhmhiaepiaaGreat.RU
/-
  Contract of rules' all at symbols, with the function that symbolsHold hands on; of symbolsHold.
-/
namespace Go.Proofs.YtfphjhmhiaepiaaGreat.RU
open Go.ChangeShapes Go.WideShapes Go.ChangeAt Go.RowKit Go.Lib

set_option maxHeartbeats 4000000 in
theorem allS_any {w : World} {v : Value} {n : Nat} {g : Nat → It} (h : RowS w v n g) :
    Calls Tryz.prog 63 #[v, .func (.func 64) #[] #[]] w fun e w' => e = .returned (.bool (allB n fun i => symB (g i).2.1)) ∧ Below w.heap.size w w' := by
  obtain ⟨a, cap, rfl, h1, h2, h3⟩ := id h
  unfold maxLen at h2
  obtain ⟨Z, hZ⟩ : ∃ Z, Hid (allB n (fun i => symB (g i).2.1) = Z) := ⟨_, rfl⟩
  rw [show allB n (fun i => symB (g i).2.1) = Z from hZ.out]
  clear h
  go_enter Tryz.func63, Tryz.ntmps63
  go_wp2_with fail
  go_loopw [9] (fun c wr => ∃ k : Nat, c = .int .i64 (k : Int) ∧ k ≤ n ∧ Hid (∀ i, i < k → symB (g i).2.1 = true) ∧ Below w.heap.size w wr) (fun c _ => n - (RowKit.intOf c).toNat)
  case atStart => exact ⟨0, rfl, Nat.zero_le _, fun i hi => absurd hi (by omega), Below.refl _ _⟩
  case round =>
    obtain ⟨k, rfl, hk, hf, hB⟩ := hrel
    by_cases hlt : k < n
    · have t : (k : Int) < (n : Int) := by omega
      obtain ⟨b, off, rfl, c0, c1, c2, c3, c4, c5, c6⟩ := h3 k hlt
      have d0 := (hB.cell (World.block_lt_of_cell? _ _ c0)).trans c0
      have d1 := (hB.cell (World.block_lt_of_cell? _ _ c1)).trans c1
      have d2 := (hB.cell (World.block_lt_of_cell? _ _ c2)).trans c2
      have d3 := (hB.cell (World.block_lt_of_cell? _ _ c3)).trans c3
      have d4 := (hB.cell (World.block_lt_of_cell? _ _ c4)).trans c4
      have d5 := (hB.cell (World.block_lt_of_cell? _ _ c5)).trans c5
      have d6 := (hB.cell (World.block_lt_of_cell? _ _ c6)).trans c6
      have G1 : ∀ W, Calls Tryz.prog 64 #[.agg #[.string (g k).1, .int .i64 ((g k).2.1 1), .int .i64 ((g k).2.1 2), .int .i64 ((g k).2.1 3), .int .i64 ((g k).2.1 4), .int .i64 ((g k).2.1 5), .int .i64 ((g k).2.1 6)]] W fun e w' => e = .returned (.bool (symB (g k).2.1)) ∧ Below W.heap.size W w' := fun W => holdS_any (g k) W
      have hge := hB.size
      have HB : Hid (Below w.heap.size w wr) := hB
      cases e1 : symB (g k).2.1
      · have hz : Hid (Z = false) := hZ.out.symm.trans (allB_false hlt e1)
        rw [e1] at G1
        clear h3 c0 c1 c2 c3 c4 c5 c6 hf hB e1
        generalize g k = x at *
        go_wp2_with fail
        refine (G1 _).mono ?_
        rintro e w3 ⟨rfl, hb3⟩
        go_wp2_with fail
        go_ret
        exact ⟨by rw [hz.out]; rfl, (HB.out.alloc hge _).trans (hb3.mono (by simp; omega))⟩
      · have HF : Hid (∀ i, i < k + 1 → symB (g i).2.1 = true) := fun i hi => if e : i = k then by subst e; exact e1 else hf.out i (by omega)
        rw [e1] at G1
        clear h3 c0 c1 c2 c3 c4 c5 c6 hf hB e1
        generalize g k = x at *
        go_wp2_with fail
        refine (G1 _).mono ?_
        rintro e w3 ⟨rfl, hb3⟩
        go_wp2_with fail
        go_roundw
        case rel => exact ⟨k + 1, by simp, by omega, HF, (HB.out.alloc hge _).trans (hb3.mono (by simp; omega))⟩
        case measure => simp [RowKit.intOf]; omega
    · have hkn : k = n := by omega
      subst hkn
      have hz : Hid (Z = true) := hZ.out.symm.trans (allB_true hf.out)
      have t : ¬ (k : Int) < (k : Int) := by omega
      clear h3 hf
      go_wp2_with fail
      go_ret
      exact ⟨by rw [hz.out]; rfl, hB⟩
end Go.Proofs.YtfphjhmhiaepiaaGreat.RU
/-
  Contract of rules' all at venues, with the function that venuesHold hands on; of venuesHold.
-/
namespace Go.Proofs.YtfphjhmhiaepiaaGreat.RU
open Go.ChangeShapes Go.WideShapes Go.ChangeAt Go.RowKit Go.Lib

set_option maxHeartbeats 4000000 in
theorem allV_any {w : World} {v : Value} {n : Nat} {g : Nat → It} (h : RowV w v n g) :
    Calls Tryz.prog 66 #[v, .func (.func 67) #[] #[]] w fun e w' => e = .returned (.bool (allB n fun i => venB (g i).2.1)) ∧ Below w.heap.size w w' := by
  obtain ⟨a, cap, rfl, h1, h2, h3⟩ := id h
  unfold maxLen at h2
  obtain ⟨Z, hZ⟩ : ∃ Z, Hid (allB n (fun i => venB (g i).2.1) = Z) := ⟨_, rfl⟩
  rw [show allB n (fun i => venB (g i).2.1) = Z from hZ.out]
  clear h
  go_enter Tryz.func66, Tryz.ntmps66
  go_wp2_with fail
  go_loopw [9] (fun c wr => ∃ k : Nat, c = .int .i64 (k : Int) ∧ k ≤ n ∧ Hid (∀ i, i < k → venB (g i).2.1 = true) ∧ Below w.heap.size w wr) (fun c _ => n - (RowKit.intOf c).toNat)
  case atStart => exact ⟨0, rfl, Nat.zero_le _, fun i hi => absurd hi (by omega), Below.refl _ _⟩
  case round =>
    obtain ⟨k, rfl, hk, hf, hB⟩ := hrel
    by_cases hlt : k < n
    · have t : (k : Int) < (n : Int) := by omega
      obtain ⟨b, off, rfl, c0, c1, c2, c3, c4⟩ := h3 k hlt
      have d0 := (hB.cell (World.block_lt_of_cell? _ _ c0)).trans c0
      have d1 := (hB.cell (World.block_lt_of_cell? _ _ c1)).trans c1
      have d2 := (hB.cell (World.block_lt_of_cell? _ _ c2)).trans c2
      have d3 := (hB.cell (World.block_lt_of_cell? _ _ c3)).trans c3
      have d4 := (hB.cell (World.block_lt_of_cell? _ _ c4)).trans c4
      have G1 : ∀ W, Calls Tryz.prog 67 #[.agg #[.string (g k).1, .int .i64 ((g k).2.1 1), .int .i64 ((g k).2.1 2), .int .i64 ((g k).2.1 3), .bool (g k).2.2]] W fun e w' => e = .returned (.bool (venB (g k).2.1)) ∧ Below W.heap.size W w' := fun W => holdV_any (g k) W
      have hge := hB.size
      have HB : Hid (Below w.heap.size w wr) := hB
      cases e1 : venB (g k).2.1
      · have hz : Hid (Z = false) := hZ.out.symm.trans (allB_false hlt e1)
        rw [e1] at G1
        clear h3 c0 c1 c2 c3 c4 hf hB e1
        generalize g k = x at *
        go_wp2_with fail
        refine (G1 _).mono ?_
        rintro e w3 ⟨rfl, hb3⟩
        go_wp2_with fail
        go_ret
        exact ⟨by rw [hz.out]; rfl, (HB.out.alloc hge _).trans (hb3.mono (by simp; omega))⟩
      · have HF : Hid (∀ i, i < k + 1 → venB (g i).2.1 = true) := fun i hi => if e : i = k then by subst e; exact e1 else hf.out i (by omega)
        rw [e1] at G1
        clear h3 c0 c1 c2 c3 c4 hf hB e1
        generalize g k = x at *
        go_wp2_with fail
        refine (G1 _).mono ?_
        rintro e w3 ⟨rfl, hb3⟩
        go_wp2_with fail
        go_roundw
        case rel => exact ⟨k + 1, by simp, by omega, HF, (HB.out.alloc hge _).trans (hb3.mono (by simp; omega))⟩
        case measure => simp [RowKit.intOf]; omega
    · have hkn : k = n := by omega
      subst hkn
      have hz : Hid (Z = true) := hZ.out.symm.trans (allB_true hf.out)
      have t : ¬ (k : Int) < (k : Int) := by omega
      clear h3 hf
      go_wp2_with fail
      go_ret
      exact ⟨by rw [hz.out]; rfl, hB⟩
end Go.Proofs.YtfphjhmhiaepiaaGreat.RU
