/-
  A setup in memory; contracts of rules' looks and of Check: whether a setup is right.
-/
import Derived.Laws.EntriesVeiled
import Derived.Test.YtfphjhmhiaepiaaGreatKG
import Derived.Test.YtfphjhmhiaepiaaGreatKH
namespace Go.Proofs.YtfphjhmhiaepiaaGreat.RU
open Go.ChangeShapes Go.WideShapes Go.ChangeAt Go.RowKit Go.Lib

/-- The three lists of a setup, as their slices read. -/
structure SetIn (w : World) (a1 a2 a3 : Option Addr) (c1 c2 c3 : Nat) (s : Stp) : Prop where
  ra : RowA w (.slice a1 s.nA c1) s.nA s.A
  rs : RowS w (.slice a2 s.nS c2) s.nS s.S
  rv : RowV w (.slice a3 s.nV c3) s.nV s.V
theorem SetIn.below {w w' : World} {a1 a2 a3 : Option Addr} {c1 c2 c3 : Nat} {s : Stp} {B : Nat} (h : SetIn w a1 a2 a3 c1 c2 c3 s) (hb : Below B w w') (hB : w.heap.size ≤ B) : SetIn w' a1 a2 a3 c1 c2 c3 s :=
  ⟨h.ra.below hb hB, h.rs.below hb hB, h.rv.below hb hB⟩
/-- A setup's nine cells in block b. -/
structure SetAt (w : World) (b : Nat) (a1 a2 a3 : Option Addr) (c1 c2 c3 : Nat) (s : Stp) : Prop where
  d0 : w.cell? ⟨b, 0, none⟩ = some (.slice a1 s.nA c1)
  d1 : w.cell? ⟨b, 1, none⟩ = some (.slice a2 s.nS c2)
  d2 : w.cell? ⟨b, 2, none⟩ = some (.slice a3 s.nV c3)
  d3 : w.cell? ⟨b, 3, none⟩ = some (.int .i64 (s.P 3))
  d4 : w.cell? ⟨b, 4, none⟩ = some (.int .i64 (s.P 4))
  d5 : w.cell? ⟨b, 5, none⟩ = some (.int .i64 (s.P 5))
  d6 : w.cell? ⟨b, 6, none⟩ = some (.int .i64 (s.P 6))
  d7 : w.cell? ⟨b, 7, none⟩ = some (.int .i64 (s.P 7))
  d8 : w.cell? ⟨b, 8, none⟩ = some (.int .i64 (s.P 8))
theorem SetAt.still {w w' : World} {b B : Nat} {a1 a2 a3 : Option Addr} {c1 c2 c3 : Nat} {s : Stp} (h : SetAt w b a1 a2 a3 c1 c2 c3 s) (hb : Below B w w') (hB : b < B) : SetAt w' b a1 a2 a3 c1 c2 c3 s :=
  ⟨(hb.cell (p := ⟨b, 0, none⟩) hB).trans h.d0, (hb.cell (p := ⟨b, 1, none⟩) hB).trans h.d1, (hb.cell (p := ⟨b, 2, none⟩) hB).trans h.d2, (hb.cell (p := ⟨b, 3, none⟩) hB).trans h.d3, (hb.cell (p := ⟨b, 4, none⟩) hB).trans h.d4, (hb.cell (p := ⟨b, 5, none⟩) hB).trans h.d5, (hb.cell (p := ⟨b, 6, none⟩) hB).trans h.d6, (hb.cell (p := ⟨b, 7, none⟩) hB).trans h.d7, (hb.cell (p := ⟨b, 8, none⟩) hB).trans h.d8⟩
theorem SetAt.box (w : World) (a1 a2 a3 : Option Addr) (c1 c2 c3 : Nat) (s : Stp) (t : TypeId) : SetAt (w.alloc (.cells #[.slice a1 s.nA c1, .slice a2 s.nS c2, .slice a3 s.nV c3, .int .i64 (s.P 3), .int .i64 (s.P 4), .int .i64 (s.P 5), .int .i64 (s.P 6), .int .i64 (s.P 7), .int .i64 (s.P 8)] t)) w.heap.size a1 a2 a3 c1 c2 c3 s :=
  ⟨by simp, by simp, by simp, by simp, by simp, by simp, by simp, by simp, by simp⟩
theorem SetAt.lt {w : World} {b : Nat} {a1 a2 a3 : Option Addr} {c1 c2 c3 : Nat} {s : Stp} (h : SetAt w b a1 a2 a3 c1 c2 c3 s) : b < w.heap.size := World.block_lt_of_cell? _ _ h.d0
set_option maxHeartbeats 1000000 in
theorem accountsHold_any {w : World} {a1 a2 a3 : Option Addr} {c1 c2 c3 : Nat} {s : Stp} (h : SetIn w a1 a2 a3 c1 c2 c3 s) :
    Calls Tryz.prog 46 #[.agg #[.slice a1 s.nA c1, .slice a2 s.nS c2, .slice a3 s.nV c3, .int .i64 (s.P 3), .int .i64 (s.P 4), .int .i64 (s.P 5), .int .i64 (s.P 6), .int .i64 (s.P 7), .int .i64 (s.P 8)]] w fun e w' => e = .returned (.bool (accsB s)) ∧ Below w.heap.size w w' := by
  have B0 : Below w.heap.size w (w.alloc (.cells #[.slice a1 s.nA c1, .slice a2 s.nS c2, .slice a3 s.nV c3, .int .i64 (s.P 3), .int .i64 (s.P 4), .int .i64 (s.P 5), .int .i64 (s.P 6), .int .i64 (s.P 7), .int .i64 (s.P 8)] 26)) := (Below.refl _ _).alloc (Nat.le_refl _) _
  have F : Calls Tryz.prog 60 #[.slice a1 s.nA c1, .func (.func 61) #[] #[]] (w.alloc (.cells #[.slice a1 s.nA c1, .slice a2 s.nS c2, .slice a3 s.nV c3, .int .i64 (s.P 3), .int .i64 (s.P 4), .int .i64 (s.P 5), .int .i64 (s.P 6), .int .i64 (s.P 7), .int .i64 (s.P 8)] 26)) fun e w' => e = .returned (.bool (accsB s)) ∧ Below w.heap.size w w' :=
    (allA_any (h.ra.below B0 (Nat.le_refl _))).mono fun e w' ⟨k, hb⟩ => ⟨k, B0.trans (hb.mono (by simp))⟩
  generalize accsB s = Z at *
  clear h B0
  go_enter Tryz.func46, Tryz.ntmps46
  go_wp2_with fail
  refine F.mono ?_
  rintro e w1 ⟨rfl, hb⟩
  go_wp2_with fail
  go_ret
  exact ⟨rfl, hb⟩
set_option maxHeartbeats 1000000 in
theorem symbolsHold_any {w : World} {a1 a2 a3 : Option Addr} {c1 c2 c3 : Nat} {s : Stp} (h : SetIn w a1 a2 a3 c1 c2 c3 s) :
    Calls Tryz.prog 47 #[.agg #[.slice a1 s.nA c1, .slice a2 s.nS c2, .slice a3 s.nV c3, .int .i64 (s.P 3), .int .i64 (s.P 4), .int .i64 (s.P 5), .int .i64 (s.P 6), .int .i64 (s.P 7), .int .i64 (s.P 8)]] w fun e w' => e = .returned (.bool (symsB s)) ∧ Below w.heap.size w w' := by
  have B0 : Below w.heap.size w (w.alloc (.cells #[.slice a1 s.nA c1, .slice a2 s.nS c2, .slice a3 s.nV c3, .int .i64 (s.P 3), .int .i64 (s.P 4), .int .i64 (s.P 5), .int .i64 (s.P 6), .int .i64 (s.P 7), .int .i64 (s.P 8)] 26)) := (Below.refl _ _).alloc (Nat.le_refl _) _
  have F : Calls Tryz.prog 63 #[.slice a2 s.nS c2, .func (.func 64) #[] #[]] (w.alloc (.cells #[.slice a1 s.nA c1, .slice a2 s.nS c2, .slice a3 s.nV c3, .int .i64 (s.P 3), .int .i64 (s.P 4), .int .i64 (s.P 5), .int .i64 (s.P 6), .int .i64 (s.P 7), .int .i64 (s.P 8)] 26)) fun e w' => e = .returned (.bool (symsB s)) ∧ Below w.heap.size w w' :=
    (allS_any (h.rs.below B0 (Nat.le_refl _))).mono fun e w' ⟨k, hb⟩ => ⟨k, B0.trans (hb.mono (by simp))⟩
  generalize symsB s = Z at *
  clear h B0
  go_enter Tryz.func47, Tryz.ntmps47
  go_wp2_with fail
  refine F.mono ?_
  rintro e w1 ⟨rfl, hb⟩
  go_wp2_with fail
  go_ret
  exact ⟨rfl, hb⟩
set_option maxHeartbeats 1000000 in
theorem venuesHold_any {w : World} {a1 a2 a3 : Option Addr} {c1 c2 c3 : Nat} {s : Stp} (h : SetIn w a1 a2 a3 c1 c2 c3 s) :
    Calls Tryz.prog 48 #[.agg #[.slice a1 s.nA c1, .slice a2 s.nS c2, .slice a3 s.nV c3, .int .i64 (s.P 3), .int .i64 (s.P 4), .int .i64 (s.P 5), .int .i64 (s.P 6), .int .i64 (s.P 7), .int .i64 (s.P 8)]] w fun e w' => e = .returned (.bool (vensB s)) ∧ Below w.heap.size w w' := by
  have B0 : Below w.heap.size w (w.alloc (.cells #[.slice a1 s.nA c1, .slice a2 s.nS c2, .slice a3 s.nV c3, .int .i64 (s.P 3), .int .i64 (s.P 4), .int .i64 (s.P 5), .int .i64 (s.P 6), .int .i64 (s.P 7), .int .i64 (s.P 8)] 26)) := (Below.refl _ _).alloc (Nat.le_refl _) _
  have F : Calls Tryz.prog 66 #[.slice a3 s.nV c3, .func (.func 67) #[] #[]] (w.alloc (.cells #[.slice a1 s.nA c1, .slice a2 s.nS c2, .slice a3 s.nV c3, .int .i64 (s.P 3), .int .i64 (s.P 4), .int .i64 (s.P 5), .int .i64 (s.P 6), .int .i64 (s.P 7), .int .i64 (s.P 8)] 26)) fun e w' => e = .returned (.bool (vensB s)) ∧ Below w.heap.size w w' :=
    (allV_any (h.rv.below B0 (Nat.le_refl _))).mono fun e w' ⟨k, hb⟩ => ⟨k, B0.trans (hb.mono (by simp))⟩
  generalize vensB s = Z at *
  clear h B0
  go_enter Tryz.func48, Tryz.ntmps48
  go_wp2_with fail
  refine F.mono ?_
  rintro e w1 ⟨rfl, hb⟩
  go_wp2_with fail
  go_ret
  exact ⟨rfl, hb⟩
theorem nms_1 {s : Stp} (h : namesB (fun i => (s.A i).1) s.nA 16 = false) : nmsB s = false := by unfold nmsB; rw [h]; rfl
theorem nms_2 {s : Stp} (h : namesB (fun i => (s.A i).1) s.nA 16 = true) (k : namesB (fun i => (s.S i).1) s.nS 16 = false) : nmsB s = false := by unfold nmsB; rw [h, k]; rfl
theorem nms_3 {s : Stp} (h : namesB (fun i => (s.A i).1) s.nA 16 = true) (k : namesB (fun i => (s.S i).1) s.nS 16 = true) (b : Bool) (l : namesB (fun i => (s.V i).1) s.nV 8 = b) : nmsB s = b := by unfold nmsB; rw [h, k, l]; simp
set_option maxHeartbeats 4000000 in
theorem namesHold_any {w : World} {a1 a2 a3 : Option Addr} {c1 c2 c3 : Nat} {s : Stp} (h : SetIn w a1 a2 a3 c1 c2 c3 s) :
    Calls Tryz.prog 45 #[.agg #[.slice a1 s.nA c1, .slice a2 s.nS c2, .slice a3 s.nV c3, .int .i64 (s.P 3), .int .i64 (s.P 4), .int .i64 (s.P 5), .int .i64 (s.P 6), .int .i64 (s.P 7), .int .i64 (s.P 8)]] w fun e w' => e = .returned (.bool (nmsB s)) ∧ Below w.heap.size w w' := by
  have HB0 : Hid (Below w.heap.size w (w.alloc (.cells #[.slice a1 s.nA c1, .slice a2 s.nS c2, .slice a3 s.nV c3, .int .i64 (s.P 3), .int .i64 (s.P 4), .int .i64 (s.P 5), .int .i64 (s.P 6), .int .i64 (s.P 7), .int .i64 (s.P 8)] 26))) := (Below.refl _ _).alloc (Nat.le_refl _) _
  have A0 : Hid (SetAt (w.alloc (.cells #[.slice a1 s.nA c1, .slice a2 s.nS c2, .slice a3 s.nV c3, .int .i64 (s.P 3), .int .i64 (s.P 4), .int .i64 (s.P 5), .int .i64 (s.P 6), .int .i64 (s.P 7), .int .i64 (s.P 8)] 26)) w.heap.size a1 a2 a3 c1 c2 c3 s) := SetAt.box w a1 a2 a3 c1 c2 c3 s _
  obtain ⟨b1, h1⟩ : ∃ b, namesB (fun i => (s.A i).1) s.nA 16 = b := ⟨_, rfl⟩
  obtain ⟨b2, h2⟩ : ∃ b, namesB (fun i => (s.S i).1) s.nS 16 = b := ⟨_, rfl⟩
  obtain ⟨b3, h3⟩ : ∃ b, namesB (fun i => (s.V i).1) s.nV 8 = b := ⟨_, rfl⟩
  have G1 : ∀ W, Below w.heap.size w W → Calls Tryz.prog 57 #[.slice a1 s.nA c1, .int .i64 16, .func (.func 26) #[] #[]] W fun e w' => e = .returned (.bool b1) ∧ Below W.heap.size W w' := fun W hW => by
    have := namedA_any (h.ra.below hW (Nat.le_refl _))
    rwa [h1] at this
  have G2 : ∀ W, Below w.heap.size w W → Calls Tryz.prog 58 #[.slice a2 s.nS c2, .int .i64 16, .func (.func 28) #[] #[]] W fun e w' => e = .returned (.bool b2) ∧ Below W.heap.size W w' := fun W hW => by
    have := namedS_any (h.rs.below hW (Nat.le_refl _))
    rwa [h2] at this
  have G3 : ∀ W, Below w.heap.size w W → Calls Tryz.prog 59 #[.slice a3 s.nV c3, .int .i64 8, .func (.func 30) #[] #[]] W fun e w' => e = .returned (.bool b3) ∧ Below W.heap.size W w' := fun W hW => by
    have := namedV_any (h.rv.below hW (Nat.le_refl _))
    rwa [h3] at this
  clear h
  cases b1
  · rw [nms_1 h1]
    clear h1 h2 h3
    go_enter Tryz.func45, Tryz.ntmps45
    go_wp2_with fail
    refine (G1 _ HB0.out).mono ?_
    rintro e w1 ⟨rfl, hb⟩
    have HB1 : Hid (Below w.heap.size w w1) := HB0.out.trans (hb.mono HB0.out.size)
    clear hb
    go_wp2_with fail
    go_ret
    exact ⟨rfl, HB1.out⟩
  · cases b2
    · rw [nms_2 h1 h2]
      clear h1 h2 h3
      go_enter Tryz.func45, Tryz.ntmps45
      go_wp2_with fail
      refine (G1 _ HB0.out).mono ?_
      rintro e w1 ⟨rfl, hb⟩
      have HB1 : Hid (Below w.heap.size w w1) := HB0.out.trans (hb.mono HB0.out.size)
      have A1 : Hid (SetAt w1 w.heap.size a1 a2 a3 c1 c2 c3 s) := A0.out.still hb A0.out.lt
      obtain ⟨d0, d1, d2, d3, d4, d5, d6, d7, d8⟩ := A1.out
      clear hb
      go_wp2_with fail
      refine (G2 _ HB1.out).mono ?_
      rintro e w2 ⟨rfl, hb⟩
      have HB2 : Hid (Below w.heap.size w w2) := HB1.out.trans (hb.mono HB1.out.size)
      clear hb
      go_wp2_with fail
      go_ret
      exact ⟨rfl, HB2.out⟩
    · rw [nms_3 h1 h2 b3 h3]
      clear h1 h2 h3
      go_enter Tryz.func45, Tryz.ntmps45
      go_wp2_with fail
      refine (G1 _ HB0.out).mono ?_
      rintro e w1 ⟨rfl, hb⟩
      have HB1 : Hid (Below w.heap.size w w1) := HB0.out.trans (hb.mono HB0.out.size)
      have A1 : Hid (SetAt w1 w.heap.size a1 a2 a3 c1 c2 c3 s) := A0.out.still hb A0.out.lt
      obtain ⟨d0, d1, d2, d3, d4, d5, d6, d7, d8⟩ := A1.out
      clear hb
      go_wp2_with fail
      refine (G2 _ HB1.out).mono ?_
      rintro e w2 ⟨rfl, hb⟩
      have HB2 : Hid (Below w.heap.size w w2) := HB1.out.trans (hb.mono HB1.out.size)
      have A2 : Hid (SetAt w2 w.heap.size a1 a2 a3 c1 c2 c3 s) := A1.out.still hb A1.out.lt
      clear d0 d1 d2 d3 d4 d5 d6 d7 d8
      obtain ⟨d0, d1, d2, d3, d4, d5, d6, d7, d8⟩ := A2.out
      clear hb
      go_wp2_with fail
      refine (G3 _ HB2.out).mono ?_
      rintro e w3 ⟨rfl, hb⟩
      have HB3 : Hid (Below w.heap.size w w3) := HB2.out.trans (hb.mono HB2.out.size)
      clear hb
      go_wp2_with fail
      go_ret
      exact ⟨rfl, HB3.out⟩
set_option maxHeartbeats 4000000 in
theorem roomHolds_any (a1 a2 a3 : Option Addr) (c1 c2 c3 : Nat) (s : Stp) (w : World) :
    Calls Tryz.prog 49 #[.agg #[.slice a1 s.nA c1, .slice a2 s.nS c2, .slice a3 s.nV c3, .int .i64 (s.P 3), .int .i64 (s.P 4), .int .i64 (s.P 5), .int .i64 (s.P 6), .int .i64 (s.P 7), .int .i64 (s.P 8)]] w fun e w' => e = .returned (.bool (roomB s.P)) ∧ Below w.heap.size w w' := by
  obtain ⟨nA, nS, nV, A, S, V, P⟩ := s
  dsimp only
  cases h1 : withB (P 3) 1 64
  · rw [show roomB P = false by unfold roomB; simp [h1]]
    go_enter Tryz.func49, Tryz.ntmps49
    go_wp2_with fail
    refine (within_is (P 3) 1 64 _ _ h1).mono ?_
    rintro e w' ⟨rfl, rfl⟩
    go_wp2_with fail
    go_ret
    exact ⟨rfl, (Below.refl _ _).alloc (Nat.le_refl _) _⟩
  · cases h2 : withB (P 4) 1 256
    · rw [show roomB P = false by unfold roomB; simp [h1, h2]]
      go_enter Tryz.func49, Tryz.ntmps49
      go_wp2_with fail
      refine (within_is (P 3) 1 64 _ _ h1).mono ?_
      rintro e w' ⟨rfl, rfl⟩
      go_wp2_with fail
      refine (within_is (P 4) 1 256 _ _ h2).mono ?_
      rintro e w' ⟨rfl, rfl⟩
      go_wp2_with fail
      go_ret
      exact ⟨rfl, (Below.refl _ _).alloc (Nat.le_refl _) _⟩
    · cases h3 : withB (P 5) 1 4096
      · rw [show roomB P = false by unfold roomB; simp [h1, h2, h3]]
        go_enter Tryz.func49, Tryz.ntmps49
        go_wp2_with fail
        refine (within_is (P 3) 1 64 _ _ h1).mono ?_
        rintro e w' ⟨rfl, rfl⟩
        go_wp2_with fail
        refine (within_is (P 4) 1 256 _ _ h2).mono ?_
        rintro e w' ⟨rfl, rfl⟩
        go_wp2_with fail
        refine (within_is (P 5) 1 4096 _ _ h3).mono ?_
        rintro e w' ⟨rfl, rfl⟩
        go_wp2_with fail
        go_ret
        exact ⟨rfl, (Below.refl _ _).alloc (Nat.le_refl _) _⟩
      · cases h4 : withB (P 6) 1 1073741824
        · rw [show roomB P = false by unfold roomB; simp [h1, h2, h3, h4]]
          go_enter Tryz.func49, Tryz.ntmps49
          go_wp2_with fail
          refine (within_is (P 3) 1 64 _ _ h1).mono ?_
          rintro e w' ⟨rfl, rfl⟩
          go_wp2_with fail
          refine (within_is (P 4) 1 256 _ _ h2).mono ?_
          rintro e w' ⟨rfl, rfl⟩
          go_wp2_with fail
          refine (within_is (P 5) 1 4096 _ _ h3).mono ?_
          rintro e w' ⟨rfl, rfl⟩
          go_wp2_with fail
          refine (within_is (P 6) 1 1073741824 _ _ h4).mono ?_
          rintro e w' ⟨rfl, rfl⟩
          go_wp2_with fail
          go_ret
          exact ⟨rfl, (Below.refl _ _).alloc (Nat.le_refl _) _⟩
        · cases h5 : withB (P 7) 1 1024
          · rw [show roomB P = false by unfold roomB; simp [h1, h2, h3, h4, h5]]
            go_enter Tryz.func49, Tryz.ntmps49
            go_wp2_with fail
            refine (within_is (P 3) 1 64 _ _ h1).mono ?_
            rintro e w' ⟨rfl, rfl⟩
            go_wp2_with fail
            refine (within_is (P 4) 1 256 _ _ h2).mono ?_
            rintro e w' ⟨rfl, rfl⟩
            go_wp2_with fail
            refine (within_is (P 5) 1 4096 _ _ h3).mono ?_
            rintro e w' ⟨rfl, rfl⟩
            go_wp2_with fail
            refine (within_is (P 6) 1 1073741824 _ _ h4).mono ?_
            rintro e w' ⟨rfl, rfl⟩
            go_wp2_with fail
            refine (within_is (P 7) 1 1024 _ _ h5).mono ?_
            rintro e w' ⟨rfl, rfl⟩
            go_wp2_with fail
            go_ret
            exact ⟨rfl, (Below.refl _ _).alloc (Nat.le_refl _) _⟩
          · cases h6 : withB (P 8) 2 1024
            · rw [show roomB P = false by unfold roomB; simp [h1, h2, h3, h4, h5, h6]]
              go_enter Tryz.func49, Tryz.ntmps49
              go_wp2_with fail
              refine (within_is (P 3) 1 64 _ _ h1).mono ?_
              rintro e w' ⟨rfl, rfl⟩
              go_wp2_with fail
              refine (within_is (P 4) 1 256 _ _ h2).mono ?_
              rintro e w' ⟨rfl, rfl⟩
              go_wp2_with fail
              refine (within_is (P 5) 1 4096 _ _ h3).mono ?_
              rintro e w' ⟨rfl, rfl⟩
              go_wp2_with fail
              refine (within_is (P 6) 1 1073741824 _ _ h4).mono ?_
              rintro e w' ⟨rfl, rfl⟩
              go_wp2_with fail
              refine (within_is (P 7) 1 1024 _ _ h5).mono ?_
              rintro e w' ⟨rfl, rfl⟩
              go_wp2_with fail
              refine (within_is (P 8) 2 1024 _ _ h6).mono ?_
              rintro e w' ⟨rfl, rfl⟩
              go_wp2_with fail
              go_ret
              exact ⟨rfl, (Below.refl _ _).alloc (Nat.le_refl _) _⟩
            · rw [show roomB P = true by unfold roomB; simp [h1, h2, h3, h4, h5, h6]]
              go_enter Tryz.func49, Tryz.ntmps49
              go_wp2_with fail
              refine (within_is (P 3) 1 64 _ _ h1).mono ?_
              rintro e w' ⟨rfl, rfl⟩
              go_wp2_with fail
              refine (within_is (P 4) 1 256 _ _ h2).mono ?_
              rintro e w' ⟨rfl, rfl⟩
              go_wp2_with fail
              refine (within_is (P 5) 1 4096 _ _ h3).mono ?_
              rintro e w' ⟨rfl, rfl⟩
              go_wp2_with fail
              refine (within_is (P 6) 1 1073741824 _ _ h4).mono ?_
              rintro e w' ⟨rfl, rfl⟩
              go_wp2_with fail
              refine (within_is (P 7) 1 1024 _ _ h5).mono ?_
              rintro e w' ⟨rfl, rfl⟩
              go_wp2_with fail
              refine (within_is (P 8) 2 1024 _ _ h6).mono ?_
              rintro e w' ⟨rfl, rfl⟩
              go_wp2_with fail
              go_ret
              exact ⟨rfl, (Below.refl _ _).alloc (Nat.le_refl _) _⟩
theorem looks_any (w : World) : Calls Tryz.prog 36 #[] w fun e w' => e = .returned (.slice (some ⟨w.heap.size, 0, none⟩) 5 5) ∧ w' = w.alloc (.cells #[.func (.func 45) #[] #[], .func (.func 46) #[] #[], .func (.func 47) #[] #[], .func (.func 48) #[] #[], .func (.func 49) #[] #[]] 28) := by
  go_enter Tryz.func36, Tryz.ntmps36
  go_wp2
  go_ret
  exact ⟨rfl, rfl⟩
theorem right_bad {s : Stp} (h : (nmsB s && (accsB s && (symsB s && (vensB s && roomB s.P)))) = false) : rightB s = false := h
/-- The number of Check's error. -/
def chkE (b : Bool) : Int := if b then 0 else 150
set_option maxHeartbeats 8000000 in
theorem check_any {w : World} {a1 a2 a3 : Option Addr} {c1 c2 c3 : Nat} {s : Stp} (h : SetIn w a1 a2 a3 c1 c2 c3 s) :
    Calls Tryz.prog 20 #[.agg #[.slice a1 s.nA c1, .slice a2 s.nS c2, .slice a3 s.nV c3, .int .i64 (s.P 3), .int .i64 (s.P 4), .int .i64 (s.P 5), .int .i64 (s.P 6), .int .i64 (s.P 7), .int .i64 (s.P 8)]] w fun e w' => e = .returned (.int .i64 (chkE (rightB s))) ∧ Below w.heap.size w w' := by
  have F0 := looks_any (w.alloc (.cells #[.slice a1 s.nA c1, .slice a2 s.nS c2, .slice a3 s.nV c3, .int .i64 (s.P 3), .int .i64 (s.P 4), .int .i64 (s.P 5), .int .i64 (s.P 6), .int .i64 (s.P 7), .int .i64 (s.P 8)] 26))
  obtain ⟨b0, h0⟩ : ∃ b, nmsB s = b := ⟨_, rfl⟩
  obtain ⟨b1, h1⟩ : ∃ b, accsB s = b := ⟨_, rfl⟩
  obtain ⟨b2, h2⟩ : ∃ b, symsB s = b := ⟨_, rfl⟩
  obtain ⟨b3, h3⟩ : ∃ b, vensB s = b := ⟨_, rfl⟩
  obtain ⟨b4, h4⟩ : ∃ b, roomB s.P = b := ⟨_, rfl⟩
  have G0 : ∀ W, Below w.heap.size w W → Calls Tryz.prog 45 #[.agg #[.slice a1 s.nA c1, .slice a2 s.nS c2, .slice a3 s.nV c3, .int .i64 (s.P 3), .int .i64 (s.P 4), .int .i64 (s.P 5), .int .i64 (s.P 6), .int .i64 (s.P 7), .int .i64 (s.P 8)]] W fun e w' => e = .returned (.bool b0) ∧ Below W.heap.size W w' := fun W hW => by
    have := namesHold_any (h.below hW (Nat.le_refl _))
    rwa [h0] at this
  have G1 : ∀ W, Below w.heap.size w W → Calls Tryz.prog 46 #[.agg #[.slice a1 s.nA c1, .slice a2 s.nS c2, .slice a3 s.nV c3, .int .i64 (s.P 3), .int .i64 (s.P 4), .int .i64 (s.P 5), .int .i64 (s.P 6), .int .i64 (s.P 7), .int .i64 (s.P 8)]] W fun e w' => e = .returned (.bool b1) ∧ Below W.heap.size W w' := fun W hW => by
    have := accountsHold_any (h.below hW (Nat.le_refl _))
    rwa [h1] at this
  have G2 : ∀ W, Below w.heap.size w W → Calls Tryz.prog 47 #[.agg #[.slice a1 s.nA c1, .slice a2 s.nS c2, .slice a3 s.nV c3, .int .i64 (s.P 3), .int .i64 (s.P 4), .int .i64 (s.P 5), .int .i64 (s.P 6), .int .i64 (s.P 7), .int .i64 (s.P 8)]] W fun e w' => e = .returned (.bool b2) ∧ Below W.heap.size W w' := fun W hW => by
    have := symbolsHold_any (h.below hW (Nat.le_refl _))
    rwa [h2] at this
  have G3 : ∀ W, Below w.heap.size w W → Calls Tryz.prog 48 #[.agg #[.slice a1 s.nA c1, .slice a2 s.nS c2, .slice a3 s.nV c3, .int .i64 (s.P 3), .int .i64 (s.P 4), .int .i64 (s.P 5), .int .i64 (s.P 6), .int .i64 (s.P 7), .int .i64 (s.P 8)]] W fun e w' => e = .returned (.bool b3) ∧ Below W.heap.size W w' := fun W hW => by
    have := venuesHold_any (h.below hW (Nat.le_refl _))
    rwa [h3] at this
  have G4 : ∀ W, Below w.heap.size w W → Calls Tryz.prog 49 #[.agg #[.slice a1 s.nA c1, .slice a2 s.nS c2, .slice a3 s.nV c3, .int .i64 (s.P 3), .int .i64 (s.P 4), .int .i64 (s.P 5), .int .i64 (s.P 6), .int .i64 (s.P 7), .int .i64 (s.P 8)]] W fun e w' => e = .returned (.bool b4) ∧ Below W.heap.size W w' := fun W hW => by
    have := roomHolds_any a1 a2 a3 c1 c2 c3 s W
    rwa [h4] at this
  obtain ⟨Z, hZ⟩ : ∃ Z, Hid (chkE (rightB s) = Z) := ⟨_, rfl⟩
  rw [show chkE (rightB s) = Z from hZ.out]
  have HR : Hid (rightB s = (b0 && (b1 && (b2 && (b3 && b4))))) := by show rightB s = _; unfold rightB; rw [h0, h1, h2, h3, h4]
  clear h h0 h1 h2 h3 h4
  go_enter Tryz.func20, Tryz.ntmps20
  go_wp2_with fail
  refine F0.mono ?_
  rintro e w1 ⟨rfl, hw1⟩
  have HW : Hid (w1 = (w.alloc (.cells #[.slice a1 s.nA c1, .slice a2 s.nS c2, .slice a3 s.nV c3, .int .i64 (s.P 3), .int .i64 (s.P 4), .int .i64 (s.P 5), .int .i64 (s.P 6), .int .i64 (s.P 7), .int .i64 (s.P 8)] 26)).alloc (.cells #[.func (.func 45) #[] #[], .func (.func 46) #[] #[], .func (.func 47) #[] #[], .func (.func 48) #[] #[], .func (.func 49) #[] #[]] 28)) := hw1
  have HB1 : Hid (Below w.heap.size w w1) := by show Below w.heap.size w w1; rw [hw1]; exact ((Below.refl _ _).alloc (Nat.le_refl _) _).alloc (by simp) _
  have A1 : Hid (SetAt w1 w.heap.size a1 a2 a3 c1 c2 c3 s) := by
    have := (SetAt.box w a1 a2 a3 c1 c2 c3 s 26).still (w' := w1) (B := w.heap.size + 1) (by rw [hw1]; exact (Below.refl _ _).alloc (by simp) _) (by omega)
    exact this
  have f0 : w1.cell? ⟨w.heap.size + 1, 0, none⟩ = some (.func (.func 45) #[] #[]) := by rw [hw1]; simp
  have f1 : w1.cell? ⟨w.heap.size + 1, 1, none⟩ = some (.func (.func 46) #[] #[]) := by rw [hw1]; simp
  have f2 : w1.cell? ⟨w.heap.size + 1, 2, none⟩ = some (.func (.func 47) #[] #[]) := by rw [hw1]; simp
  have f3 : w1.cell? ⟨w.heap.size + 1, 3, none⟩ = some (.func (.func 48) #[] #[]) := by rw [hw1]; simp
  have f4 : w1.cell? ⟨w.heap.size + 1, 4, none⟩ = some (.func (.func 49) #[] #[]) := by rw [hw1]; simp
  clear hw1 F0 HW
  simp only [World.size_alloc]
  go_wp2_with fail
  go_loopw [7] (fun c wr => ∃ k : Nat, c = .int .i64 (k : Int) ∧ k ≤ 5 ∧ Hid ((0 < k → b0 = true) ∧ (1 < k → b1 = true) ∧ (2 < k → b2 = true) ∧ (3 < k → b3 = true) ∧ (4 < k → b4 = true)) ∧ Below w1.heap.size w1 wr) (fun c _ => 5 - (RowKit.intOf c).toNat)
  case atStart => exact ⟨0, rfl, by omega, ⟨fun h => absurd h (by omega), fun h => absurd h (by omega), fun h => absurd h (by omega), fun h => absurd h (by omega), fun h => absurd h (by omega)⟩, Below.refl _ _⟩
  case round =>
    obtain ⟨k, rfl, hk, HN, hB⟩ := hrel
    have HBr : Hid (Below w.heap.size w wr) := HB1.out.trans (hB.mono HB1.out.size)
    have HBk : Hid (Below w1.heap.size w1 wr) := hB
    obtain ⟨d0, d1, d2, d3, d4, d5, d6, d7, d8⟩ := A1.out.still hB A1.out.lt
    have e0 := (hB.cell (World.block_lt_of_cell? _ _ f0)).trans f0
    have e1 := (hB.cell (World.block_lt_of_cell? _ _ f1)).trans f1
    have e2 := (hB.cell (World.block_lt_of_cell? _ _ f2)).trans f2
    have e3 := (hB.cell (World.block_lt_of_cell? _ _ f3)).trans f3
    have e4 := (hB.cell (World.block_lt_of_cell? _ _ f4)).trans f4
    clear f0 f1 f2 f3 f4 hB
    rcases (show k = 0 ∨ k = 1 ∨ k = 2 ∨ k = 3 ∨ k = 4 ∨ k = 5 by omega) with rfl | rfl | rfl | rfl | rfl | rfl
    · cases b0
      · have hz : Hid (Z = 150) := by
          show Z = 150
          rw [← hZ.out, HR.out]
          simp [chkE]
        clear HN HR
        go_wp2_with fail
        refine (G0 _ HBr.out).mono ?_
        rintro e w2 ⟨rfl, hb⟩
        go_wp2_with fail
        go_ret
        exact ⟨by rw [hz.out]; rfl, HBr.out.trans (hb.mono HBr.out.size)⟩
      · have HN2 : Hid ((0 < 1 → true = true) ∧ (1 < 1 → b1 = true) ∧ (2 < 1 → b2 = true) ∧ (3 < 1 → b3 = true) ∧ (4 < 1 → b4 = true)) := ⟨fun _ => rfl, fun g => absurd g (by omega), fun g => absurd g (by omega), fun g => absurd g (by omega), fun g => absurd g (by omega)⟩
        clear HN
        go_wp2_with fail
        refine (G0 _ HBr.out).mono ?_
        rintro e w2 ⟨rfl, hb⟩
        go_wp2_with fail
        go_roundw
        case rel => exact ⟨1, by first | rfl | simp, by omega, HN2, HBk.out.trans (hb.mono HBk.out.size)⟩
        case measure => simp [RowKit.intOf]
    · cases b1
      · have hz : Hid (Z = 150) := by
          show Z = 150
          rw [← hZ.out, HR.out]
          simp [chkE]
        clear HN HR
        go_wp2_with fail
        refine (G1 _ HBr.out).mono ?_
        rintro e w2 ⟨rfl, hb⟩
        go_wp2_with fail
        go_ret
        exact ⟨by rw [hz.out]; rfl, HBr.out.trans (hb.mono HBr.out.size)⟩
      · have HN2 : Hid ((0 < 2 → b0 = true) ∧ (1 < 2 → true = true) ∧ (2 < 2 → b2 = true) ∧ (3 < 2 → b3 = true) ∧ (4 < 2 → b4 = true)) := ⟨fun _ => HN.out.1 (by omega), fun _ => rfl, fun g => absurd g (by omega), fun g => absurd g (by omega), fun g => absurd g (by omega)⟩
        clear HN
        go_wp2_with fail
        refine (G1 _ HBr.out).mono ?_
        rintro e w2 ⟨rfl, hb⟩
        go_wp2_with fail
        go_roundw
        case rel => exact ⟨2, by first | rfl | simp, by omega, HN2, HBk.out.trans (hb.mono HBk.out.size)⟩
        case measure => simp [RowKit.intOf]
    · cases b2
      · have hz : Hid (Z = 150) := by
          show Z = 150
          rw [← hZ.out, HR.out]
          simp [chkE]
        clear HN HR
        go_wp2_with fail
        refine (G2 _ HBr.out).mono ?_
        rintro e w2 ⟨rfl, hb⟩
        go_wp2_with fail
        go_ret
        exact ⟨by rw [hz.out]; rfl, HBr.out.trans (hb.mono HBr.out.size)⟩
      · have HN2 : Hid ((0 < 3 → b0 = true) ∧ (1 < 3 → b1 = true) ∧ (2 < 3 → true = true) ∧ (3 < 3 → b3 = true) ∧ (4 < 3 → b4 = true)) := ⟨fun _ => HN.out.1 (by omega), fun _ => HN.out.2.1 (by omega), fun _ => rfl, fun g => absurd g (by omega), fun g => absurd g (by omega)⟩
        clear HN
        go_wp2_with fail
        refine (G2 _ HBr.out).mono ?_
        rintro e w2 ⟨rfl, hb⟩
        go_wp2_with fail
        go_roundw
        case rel => exact ⟨3, by first | rfl | simp, by omega, HN2, HBk.out.trans (hb.mono HBk.out.size)⟩
        case measure => simp [RowKit.intOf]
    · cases b3
      · have hz : Hid (Z = 150) := by
          show Z = 150
          rw [← hZ.out, HR.out]
          simp [chkE]
        clear HN HR
        go_wp2_with fail
        refine (G3 _ HBr.out).mono ?_
        rintro e w2 ⟨rfl, hb⟩
        go_wp2_with fail
        go_ret
        exact ⟨by rw [hz.out]; rfl, HBr.out.trans (hb.mono HBr.out.size)⟩
      · have HN2 : Hid ((0 < 4 → b0 = true) ∧ (1 < 4 → b1 = true) ∧ (2 < 4 → b2 = true) ∧ (3 < 4 → true = true) ∧ (4 < 4 → b4 = true)) := ⟨fun _ => HN.out.1 (by omega), fun _ => HN.out.2.1 (by omega), fun _ => HN.out.2.2.1 (by omega), fun _ => rfl, fun g => absurd g (by omega)⟩
        clear HN
        go_wp2_with fail
        refine (G3 _ HBr.out).mono ?_
        rintro e w2 ⟨rfl, hb⟩
        go_wp2_with fail
        go_roundw
        case rel => exact ⟨4, by first | rfl | simp, by omega, HN2, HBk.out.trans (hb.mono HBk.out.size)⟩
        case measure => simp [RowKit.intOf]
    · cases b4
      · have hz : Hid (Z = 150) := by
          show Z = 150
          rw [← hZ.out, HR.out]
          simp [chkE]
        clear HN HR
        go_wp2_with fail
        refine (G4 _ HBr.out).mono ?_
        rintro e w2 ⟨rfl, hb⟩
        go_wp2_with fail
        go_ret
        exact ⟨by rw [hz.out]; rfl, HBr.out.trans (hb.mono HBr.out.size)⟩
      · have HN2 : Hid ((0 < 5 → b0 = true) ∧ (1 < 5 → b1 = true) ∧ (2 < 5 → b2 = true) ∧ (3 < 5 → b3 = true) ∧ (4 < 5 → true = true)) := ⟨fun _ => HN.out.1 (by omega), fun _ => HN.out.2.1 (by omega), fun _ => HN.out.2.2.1 (by omega), fun _ => HN.out.2.2.2.1 (by omega), fun _ => rfl⟩
        clear HN
        go_wp2_with fail
        refine (G4 _ HBr.out).mono ?_
        rintro e w2 ⟨rfl, hb⟩
        go_wp2_with fail
        go_roundw
        case rel => exact ⟨5, by first | rfl | simp, by omega, HN2, HBk.out.trans (hb.mono HBk.out.size)⟩
        case measure => simp [RowKit.intOf]
    · have hz : Hid (Z = 0) := by
        show Z = 0
        rw [← hZ.out, HR.out, HN.out.1 (by omega), HN.out.2.1 (by omega), HN.out.2.2.1 (by omega), HN.out.2.2.2.1 (by omega), HN.out.2.2.2.2 (by omega)]
        rfl
      clear HN HR
      go_wp2_with fail
      go_ret
      exact ⟨by rw [hz.out]; rfl, HBr.out⟩
end Go.Proofs.YtfphjhmhiaepiaaGreat.RU
