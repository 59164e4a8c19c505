/-
  Contract of rules' named at symbols.
-/
import Derived.Test.YtfphjhmhiaepiaaRuWithin
import Derived.Test.YtfphjhmhiaepiaaRuRowS
namespace Go.Proofs.Ytfphjhmhiaepiaa.RU
open Go.ChangeShapes Go.WideShapes Go.ChangeAt Go.RowKit Go.Lib

set_option maxHeartbeats 4000000 in
theorem namedS_any {w : World} {v : Value} {n : Nat} {g : Nat → It} (h : RowS w v n g) :
    Calls Try.prog 47 #[v, .int .i64 16, .func (.func 27) #[] #[]] w fun e w' => e = .returned (.bool (namesB (fun i => (g i).1) n 16)) ∧ Below w.heap.size w w' := by
  obtain ⟨a, cap, rfl, h1, h2, h3⟩ := id h
  unfold maxLen at h2
  have F := within_any (n : Int) 1 16 w
  obtain ⟨Z, hZ⟩ : ∃ Z, Hid (namesB (fun i => (g i).1) n 16 = Z) := ⟨_, rfl⟩
  rw [show namesB (fun i => (g i).1) n 16 = Z from hZ.out]
  cases hc : withB n 1 16
  · have hz : Hid (Z = false) := hZ.out.symm.trans (names_count hc)
    rw [hc] at F
    clear h h3
    go_enter Try.func47, Try.ntmps47
    go_wp2_with fail
    refine F.mono ?_
    rintro e w1 ⟨rfl, rfl⟩
    go_wp2_with fail
    go_ret
    exact ⟨by rw [hz.out]; rfl, Below.refl _ _⟩
  · rw [hc] at F
    have hn := withB_get hc
    have HC : Hid (withB n 1 16 = true) := hc
    have F2 : Calls Try.prog 63 #[.int .i64 16] w fun e w' => e = .returned (.tuple #[.pointer (some ⟨w.heap.size + 1, 0, none⟩), .int .i64 0]) ∧ NmAt w w' (fun i => (g i).1) 0 16 := nm_new (fun i => (g i).1) 16 w (by decide) (by decide)
    clear h hc
    go_enter Try.func47, Try.ntmps47
    go_wp2_with fail
    refine F.mono ?_
    rintro e w1 ⟨rfl, rfl⟩
    go_wp2_with fail
    refine F2.mono ?_
    rintro e w2 ⟨rfl, hN⟩
    clear F F2
    go_wp2_with fail
    go_loopw [25] (fun c wr => ∃ k : Nat, c = .int .i64 (k : Int) ∧ k ≤ n ∧ Hid (∀ i, i < k → freshB (fun i => (g i).1) i = true) ∧ Hid (NmAt w1 wr (fun i => (g i).1) k 16)) (fun c _ => n - (RowKit.intOf c).toNat)
    case atStart => exact ⟨0, rfl, Nat.zero_le _, fun i hi => absurd hi (by omega), hN⟩
    case round =>
      obtain ⟨k, rfl, hk, hf, hR⟩ := hrel
      by_cases hlt : k < n
      · have t : (k : Int) < (n : Int) := by omega
        obtain ⟨b, off, rfl, c0, c1, c2, c3, c4, c5, c6⟩ := h3 k hlt
        have hB := hR.out.below
        have d0 := (hB.cell (World.block_lt_of_cell? _ _ c0)).trans c0
        have d1 := (hB.cell (World.block_lt_of_cell? _ _ c1)).trans c1
        have d2 := (hB.cell (World.block_lt_of_cell? _ _ c2)).trans c2
        have d3 := (hB.cell (World.block_lt_of_cell? _ _ c3)).trans c3
        have d4 := (hB.cell (World.block_lt_of_cell? _ _ c4)).trans c4
        have d5 := (hB.cell (World.block_lt_of_cell? _ _ c5)).trans c5
        have d6 := (hB.cell (World.block_lt_of_cell? _ _ c6)).trans c6
        have hkm : k < 16 := by omega
        have G1 : ∀ W, Calls Try.prog 27 #[.agg #[.string (g k).1, .int .i64 ((g k).2.1 1), .int .i64 ((g k).2.1 2), .int .i64 ((g k).2.1 3), .int .i64 ((g k).2.1 4), .int .i64 ((g k).2.1 5), .int .i64 ((g k).2.1 6)]] W fun e w' => e = .returned (.string (g k).1) ∧ w' = W.alloc (.cells #[.string (g k).1, .int .i64 ((g k).2.1 1), .int .i64 ((g k).2.1 2), .int .i64 ((g k).2.1 3), .int .i64 ((g k).2.1 4), .int .i64 ((g k).2.1 5), .int .i64 ((g k).2.1 6)] 53) := fun W => symbolName_any (g k) W
        have hge := hB.size
        rcases fresh_cases (fun i => (g i).1) k with ⟨e1, e2⟩ | ⟨e1, e2, e3⟩ | ⟨e1, e2, e3⟩
        · have hz : Hid (Z = false) := hZ.out.symm.trans (names_bad hlt e1)
          have G2 : ∀ W, Below wr.heap.size wr W → Calls Try.prog 64 #[.pointer (some ⟨w1.heap.size + 1, 0, none⟩), .string (g k).1] W fun e w' => e = .returned (.tuple #[.int .i64 0, .int .i64 43]) ∧ Below w1.heap.size w1 w' := fun W hW => nm_name (N := fun i => (g i).1) (k := k) (hR.out.still hW) e2
          clear h3 c0 c1 c2 c3 c4 c5 c6 hf hB e1 e2
          generalize g k = x at *
          go_wp2_with fail
          refine (G1 _).mono ?_
          rintro e w3 ⟨rfl, rfl⟩
          go_wp2_with fail
          refine (G2 _ (((Below.refl _ _).alloc (Nat.le_refl _) _).alloc (by simp) _)).mono ?_
          rintro e w4 ⟨rfl, hB4⟩
          go_wp2_with fail
          go_ret
          exact ⟨by rw [hz.out]; rfl, hB4⟩
        · have hz : Hid (Z = false) := hZ.out.symm.trans (names_bad hlt e1)
          have G2 : ∀ W, Below wr.heap.size wr W → Calls Try.prog 64 #[.pointer (some ⟨w1.heap.size + 1, 0, none⟩), .string (g k).1] W fun e w' => e = .returned (.tuple #[.int .i64 0, .int .i64 41]) ∧ Below w1.heap.size w1 w' := fun W hW => nm_twice (N := fun i => (g i).1) (k := k) (hR.out.still hW) hkm e2 e3
          clear h3 c0 c1 c2 c3 c4 c5 c6 hf hB e1 e2 e3
          generalize g k = x at *
          go_wp2_with fail
          refine (G1 _).mono ?_
          rintro e w3 ⟨rfl, rfl⟩
          go_wp2_with fail
          refine (G2 _ (((Below.refl _ _).alloc (Nat.le_refl _) _).alloc (by simp) _)).mono ?_
          rintro e w4 ⟨rfl, hB4⟩
          go_wp2_with fail
          go_ret
          exact ⟨by rw [hz.out]; rfl, hB4⟩
        · have HF : Hid (∀ i, i < k + 1 → freshB (fun i => (g i).1) i = true) := fun i hi => if e : i = k then by subst e; exact e1 else hf.out i (by omega)
          have G2 : ∀ W, Below wr.heap.size wr W → Calls Try.prog 64 #[.pointer (some ⟨w1.heap.size + 1, 0, none⟩), .string (g k).1] W fun e w' => e = .returned (.tuple #[.int .i64 (k : Int), .int .i64 0]) ∧ NmAt w1 w' (fun i => (g i).1) (k + 1) 16 := fun W hW => nm_ok (hR.out.still hW) hkm e2 hf.out e3
          clear h3 c0 c1 c2 c3 c4 c5 c6 hf hB e1 e2 e3 hN
          generalize g k = x at *
          go_wp2_with fail
          refine (G1 _).mono ?_
          rintro e w3 ⟨rfl, rfl⟩
          go_wp2_with fail
          refine (G2 _ (((Below.refl _ _).alloc (Nat.le_refl _) _).alloc (by simp) _)).mono ?_
          rintro e w4 ⟨rfl, hB4⟩
          have H4 : Hid (NmAt w1 w4 (fun i => (g i).1) (k + 1) 16) := hB4
          clear hB4
          go_wp2_with fail
          go_roundw
          case rel => exact ⟨k + 1, by simp, by omega, HF, H4⟩
          case measure => simp [RowKit.intOf]; omega
      · have hkn : k = n := by omega
        subst hkn
        have hz : Hid (Z = true) := hZ.out.symm.trans (names_good HC.out hf.out)
        have hB := hR.out.below
        have t : ¬ (k : Int) < (k : Int) := by omega
        clear h3 hR hf
        go_wp2_with fail
        go_ret
        exact ⟨by rw [hz.out]; rfl, hB⟩
end Go.Proofs.Ytfphjhmhiaepiaa.RU
