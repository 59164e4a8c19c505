/-
  Contract of rules' all at accounts, with the function that accountsHold hands on; of accountsHold.
-/
import Derived.Test.YtfphjhmhiaepiaaRuHold
namespace Go.Proofs.Ytfphjhmhiaepiaa.RU
open Go.ChangeShapes Go.WideShapes Go.ChangeAt Go.RowKit Go.Lib

set_option maxHeartbeats 4000000 in
theorem allA_any {w : World} {v : Value} {n : Nat} {g : Nat → It} (h : RowA w v n g) :
    Calls Try.prog 49 #[v, .func (.func 50) #[] #[]] w fun e w' => e = .returned (.bool (allB n fun i => accB (g i).2.1)) ∧ Below w.heap.size w w' := by
  obtain ⟨a, cap, rfl, h1, h2, h3⟩ := id h
  unfold maxLen at h2
  obtain ⟨Z, hZ⟩ : ∃ Z, Hid (allB n (fun i => accB (g i).2.1) = Z) := ⟨_, rfl⟩
  rw [show allB n (fun i => accB (g i).2.1) = Z from hZ.out]
  clear h
  go_enter Try.func49, Try.ntmps49
  go_wp2_with fail
  go_loopw [9] (fun c wr => ∃ k : Nat, c = .int .i64 (k : Int) ∧ k ≤ n ∧ Hid (∀ i, i < k → accB (g i).2.1 = true) ∧ Below w.heap.size w wr) (fun c _ => n - (RowKit.intOf c).toNat)
  case atStart => exact ⟨0, rfl, Nat.zero_le _, fun i hi => absurd hi (by omega), Below.refl _ _⟩
  case round =>
    obtain ⟨k, rfl, hk, hf, hB⟩ := hrel
    by_cases hlt : k < n
    · have t : (k : Int) < (n : Int) := by omega
      obtain ⟨b, off, rfl, c0, c1⟩ := h3 k hlt
      have d0 := (hB.cell (World.block_lt_of_cell? _ _ c0)).trans c0
      have d1 := (hB.cell (World.block_lt_of_cell? _ _ c1)).trans c1
      have G1 : ∀ W, Calls Try.prog 50 #[.agg #[.string (g k).1, .int .i64 ((g k).2.1 1)]] W fun e w' => e = .returned (.bool (accB (g k).2.1)) ∧ Below W.heap.size W w' := fun W => holdA_any (g k) W
      have hge := hB.size
      have HB : Hid (Below w.heap.size w wr) := hB
      cases e1 : accB (g k).2.1
      · have hz : Hid (Z = false) := hZ.out.symm.trans (allB_false hlt e1)
        rw [e1] at G1
        clear h3 c0 c1 hf hB e1
        generalize g k = x at *
        go_wp2_with fail
        refine (G1 _).mono ?_
        rintro e w3 ⟨rfl, hb3⟩
        go_wp2_with fail
        go_ret
        exact ⟨by rw [hz.out]; rfl, (HB.out.alloc hge _).trans (hb3.mono (by simp; omega))⟩
      · have HF : Hid (∀ i, i < k + 1 → accB (g i).2.1 = true) := fun i hi => if e : i = k then by subst e; exact e1 else hf.out i (by omega)
        rw [e1] at G1
        clear h3 c0 c1 hf hB e1
        generalize g k = x at *
        go_wp2_with fail
        refine (G1 _).mono ?_
        rintro e w3 ⟨rfl, hb3⟩
        go_wp2_with fail
        go_roundw
        case rel => exact ⟨k + 1, by simp, by omega, HF, (HB.out.alloc hge _).trans (hb3.mono (by simp; omega))⟩
        case measure => simp [RowKit.intOf]; omega
    · have hkn : k = n := by omega
      subst hkn
      have hz : Hid (Z = true) := hZ.out.symm.trans (allB_true hf.out)
      have t : ¬ (k : Int) < (k : Int) := by omega
      clear h3 hf
      go_wp2_with fail
      go_ret
      exact ⟨by rw [hz.out]; rfl, hB⟩
end Go.Proofs.Ytfphjhmhiaepiaa.RU
