/-
  Contract of rules' places at accounts: a map of the names' places.
-/
import Derived.Test.YtfphjhmhiaepiaaSMap
import Derived.Test.YtfphjhmhiaepiaaRuFind
import Derived.Test.YtfphjhmhiaepiaaRuRowA
namespace Go.Proofs.Ytfphjhmhiaepiaa.RU
open Go.ChangeShapes Go.WideShapes Go.ChangeAt Go.RowKit Go.Lib SM

set_option maxHeartbeats 4000000 in
theorem placesA_any {w : World} {v : Value} {n : Nat} {g : Nat → It} (h : RowA w v n g) (hn : n ≤ 1000) (hs : ∀ i, i < n → (g i).1.size ≤ 1000000) :
    Calls Try.prog 24 #[v, .func (.func 25) #[] #[]] w fun e w' => e = .returned (.map (some w.heap.size)) ∧ SMap w' w.heap.size n (lastOf (fun i => (g i).1) n) ∧ Below w.heap.size w w' := by
  obtain ⟨a, cap, rfl, h1, h2, h3⟩ := id h
  unfold maxLen at h2
  have hmk := makeS_any (n : Int)
  clear h
  go_enter Try.func24, Try.ntmps24
  go_wp2_with fail
  go_loopw [13] (fun c wr => ∃ k : Nat, c = .int .i64 (k : Int) ∧ k ≤ n ∧ Hid (SMap wr w.heap.size k (lastOf (fun i => (g i).1) k)) ∧ Below w.heap.size w wr) (fun c _ => n - (RowKit.intOf c).toNat)
  case atStart => exact ⟨0, rfl, Nat.zero_le _, SMap.made w, (Below.refl _ _).alloc (Nat.le_refl _) _⟩
  case round =>
    obtain ⟨k, rfl, hk, hM, hB⟩ := hrel
    by_cases hlt : k < n
    · have t : (k : Int) < (n : Int) := by omega
      obtain ⟨b, off, rfl, c0, c1⟩ := h3 k hlt
      have d0 := (hB.cell (World.block_lt_of_cell? _ _ c0)).trans c0
      have d1 := (hB.cell (World.block_lt_of_cell? _ _ c1)).trans c1
      have G1 : ∀ W, Calls Try.prog 25 #[.agg #[.string (g k).1, .int .i64 ((g k).2.1 1)]] W fun e w' => e = .returned (.string (g k).1) ∧ w' = W.alloc (.cells #[.string (g k).1, .int .i64 ((g k).2.1 1)] 51) := fun W => accountName_any (g k) W
      have hge := hB.size
      have HB : Hid (Below w.heap.size w wr) := hB
      have hsz := hs k hlt
      have HL : Hid (lastOf (fun i => (g i).1) (k + 1) = updS (lastOf (fun i => (g i).1) k) (g k).1 (k : Int)) := lastOf_succ _ _
      have G2 : ∀ W, Below wr.heap.size wr W → ∃ W', (Instr.mapUpdate 40 (.map (some w.heap.size)) (.string (g k).1) (.int .i64 (k : Int))).run Try.prog W = .ok () W' ∧ Hid (SMap W' w.heap.size (k + 1) (lastOf (fun i => (g i).1) (k + 1)) ∧ Below w.heap.size w W') := fun W hW => by
        obtain ⟨W', r1, r2, r3⟩ := (hM.out.still hW hM.out.lt).store (by omega) (g k).1 (by unfold maxLen; omega) (k : Int)
        refine ⟨W', r1, ?_, ?_⟩
        · rw [HL.out]; exact r2
        · exact (HB.out.trans (hW.mono hge)).trans (r3.below (Nat.le_trans hge hW.size) (fun i e => by omega))
      clear h3 c0 c1 hB hM HB HL hs
      generalize hx : g k = x at *
      clear hx
      go_wp2_with fail
      refine (G1 _).mono ?_
      rintro e w3 ⟨rfl, hw3⟩
      obtain ⟨W', r1, r2⟩ := G2 w3 (by rw [hw3]; exact ((Below.refl _ _).alloc (Nat.le_refl _) _).alloc (by simp) _)
      clear G2 G1 hw3
      go_wp2_with fail
      go_roundw
      case rel => exact ⟨k + 1, by simp, by omega, r2.out.1, r2.out.2⟩
      case measure => simp [RowKit.intOf]; omega
    · have hkn : k = n := by omega
      subst hkn
      have t : ¬ (k : Int) < (k : Int) := by omega
      clear h3 hs
      go_wp2_with fail
      go_ret
      exact ⟨rfl, hM.out, hB⟩
end Go.Proofs.Ytfphjhmhiaepiaa.RU
