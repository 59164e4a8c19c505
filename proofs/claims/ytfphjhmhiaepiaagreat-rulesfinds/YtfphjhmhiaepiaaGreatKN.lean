/-
  Contract of the fifteenth reference's Right: whether a setup is right.
-/
import Derived.Test.YtfphjhmhiaepiaaGreatKM
namespace Go.Proofs.YtfphjhmhiaepiaaGreat.RU
open Go.ChangeShapes Go.WideShapes Go.ChangeAt Go.RowKit Go.Lib

/-- A setup of few things with short names. -/
structure Few (s : Stp) : Prop where
  a : s.nA ≤ 1000
  s' : s.nS ≤ 1000
  v : s.nV ≤ 1000
  za : ∀ i, i < s.nA → (s.A i).1.size ≤ 300
  zs : ∀ i, i < s.nS → (s.S i).1.size ≤ 300
  zv : ∀ i, i < s.nV → (s.V i).1.size ≤ 300
theorem right_nm {s : Stp} (h : nmsB s = false) : rightB s = false := by unfold rightB; rw [h]; rfl
theorem right_ac {s : Stp} {i : Nat} (hi : i < s.nA) (h : accB (s.A i).2.1 = false) : rightB s = false := by
  unfold rightB
  rw [show accsB s = false from allB_false hi h]
  simp
theorem right_sy {s : Stp} {i : Nat} (hi : i < s.nS) (h : symB (s.S i).2.1 = false) : rightB s = false := by
  unfold rightB
  rw [show symsB s = false from allB_false hi h]
  simp
theorem right_ve {s : Stp} {i : Nat} (hi : i < s.nV) (h : venB (s.V i).2.1 = false) : rightB s = false := by
  unfold rightB
  rw [show vensB s = false from allB_false hi h]
  simp
theorem right_all {s : Stp} (h0 : nmsB s = true) (h1 : ∀ i, i < s.nA → accB (s.A i).2.1 = true) (h2 : ∀ i, i < s.nS → symB (s.S i).2.1 = true) (h3 : ∀ i, i < s.nV → venB (s.V i).2.1 = true) : rightB s = roomB s.P := by
  unfold rightB
  rw [h0, show accsB s = true from allB_true h1, show symsB s = true from allB_true h2, show vensB s = true from allB_true h3]
  simp
set_option maxRecDepth 100000 in
set_option maxHeartbeats 16000000 in
theorem rightR_any {w : World} {a1 a2 a3 : Option Addr} {c1 c2 c3 : Nat} {s : Stp} (h : SetIn w a1 a2 a3 c1 c2 c3 s) (few : Few s) :
    Calls Tryz.prog 7 #[.agg #[.slice a1 s.nA c1, .slice a2 s.nS c2, .slice a3 s.nV c3, .int .i64 (s.P 3), .int .i64 (s.P 4), .int .i64 (s.P 5), .int .i64 (s.P 6), .int .i64 (s.P 7), .int .i64 (s.P 8)]] w fun e w' => e = .returned (.bool (rightB s)) ∧ Below w.heap.size w w' := by
  have HB0 : Hid (Below w.heap.size w (w.alloc (.cells #[.slice a1 s.nA c1, .slice a2 s.nS c2, .slice a3 s.nV c3, .int .i64 (s.P 3), .int .i64 (s.P 4), .int .i64 (s.P 5), .int .i64 (s.P 6), .int .i64 (s.P 7), .int .i64 (s.P 8)] 33))) := (Below.refl _ _).alloc (Nat.le_refl _) _
  have A0 : Hid (SetAt (w.alloc (.cells #[.slice a1 s.nA c1, .slice a2 s.nS c2, .slice a3 s.nV c3, .int .i64 (s.P 3), .int .i64 (s.P 4), .int .i64 (s.P 5), .int .i64 (s.P 6), .int .i64 (s.P 7), .int .i64 (s.P 8)] 33)) w.heap.size a1 a2 a3 c1 c2 c3 s) := SetAt.box w a1 a2 a3 c1 c2 c3 s _
  have HI : Hid (SetIn w a1 a2 a3 c1 c2 c3 s) := h
  obtain ⟨b1, h1⟩ : ∃ b, namesB (fun i => (s.A i).1) s.nA 16 = b := ⟨_, rfl⟩
  obtain ⟨b2, h2⟩ : ∃ b, namesB (fun i => (s.S i).1) s.nS 16 = b := ⟨_, rfl⟩
  obtain ⟨b3, h3⟩ : ∃ b, namesB (fun i => (s.V i).1) s.nV 8 = b := ⟨_, rfl⟩
  have N1 : ∀ W, Below w.heap.size w W → Calls Tryz.prog 16 #[.agg #[.slice a1 s.nA c1, .slice a2 s.nS c2, .slice a3 s.nV c3, .int .i64 (s.P 3), .int .i64 (s.P 4), .int .i64 (s.P 5), .int .i64 (s.P 6), .int .i64 (s.P 7), .int .i64 (s.P 8)]] W fun e w' => ∃ v, e = .returned v ∧ Row w' v s.nA (fun i => .string (s.A i).1) ∧ Below W.heap.size W w' := fun W hW => namesA_any (HI.out.below hW (Nat.le_refl _)) few.a
  have G1 : ∀ W v, Row W v s.nA (fun i => .string (s.A i).1) → Calls Tryz.prog 21 #[v, .int .i64 16] W fun e w' => e = .returned (.bool b1) ∧ Below W.heap.size W w' := fun W v hr => by
    have := namesR_any (N := fun i => (s.A i).1) hr few.za 16
    rwa [h1] at this
  have N2 : ∀ W, Below w.heap.size w W → Calls Tryz.prog 17 #[.agg #[.slice a1 s.nA c1, .slice a2 s.nS c2, .slice a3 s.nV c3, .int .i64 (s.P 3), .int .i64 (s.P 4), .int .i64 (s.P 5), .int .i64 (s.P 6), .int .i64 (s.P 7), .int .i64 (s.P 8)]] W fun e w' => ∃ v, e = .returned v ∧ Row w' v s.nS (fun i => .string (s.S i).1) ∧ Below W.heap.size W w' := fun W hW => namesS_any (HI.out.below hW (Nat.le_refl _)) few.s'
  have G2 : ∀ W v, Row W v s.nS (fun i => .string (s.S i).1) → Calls Tryz.prog 21 #[v, .int .i64 16] W fun e w' => e = .returned (.bool b2) ∧ Below W.heap.size W w' := fun W v hr => by
    have := namesR_any (N := fun i => (s.S i).1) hr few.zs 16
    rwa [h2] at this
  have N3 : ∀ W, Below w.heap.size w W → Calls Tryz.prog 18 #[.agg #[.slice a1 s.nA c1, .slice a2 s.nS c2, .slice a3 s.nV c3, .int .i64 (s.P 3), .int .i64 (s.P 4), .int .i64 (s.P 5), .int .i64 (s.P 6), .int .i64 (s.P 7), .int .i64 (s.P 8)]] W fun e w' => ∃ v, e = .returned v ∧ Row w' v s.nV (fun i => .string (s.V i).1) ∧ Below W.heap.size W w' := fun W hW => namesV_any (HI.out.below hW (Nat.le_refl _)) few.v
  have G3 : ∀ W v, Row W v s.nV (fun i => .string (s.V i).1) → Calls Tryz.prog 21 #[v, .int .i64 8] W fun e w' => e = .returned (.bool b3) ∧ Below W.heap.size W w' := fun W v hr => by
    have := namesR_any (N := fun i => (s.V i).1) hr few.zv 8
    rwa [h3] at this
  obtain ⟨Z, hZ⟩ : ∃ Z, Hid (rightB s = Z) := ⟨_, rfl⟩
  rw [show rightB s = Z from hZ.out]
  clear h few
  cases b1
  · skip
    have hz : Hid (Z = false) := hZ.out.symm.trans (right_nm (nms_1 h1))
    clear h1 h2 h3
    go_enter Tryz.func7, Tryz.ntmps7
    go_wp2_with fail
    refine (N1 _ HB0.out).mono ?_
    rintro e w1 ⟨v1, rfl, ro, hb⟩
    have HB1 : Hid (Below w.heap.size w w1) := HB0.out.trans (hb.mono HB0.out.size)
    have A1 : Hid (SetAt w1 w.heap.size a1 a2 a3 c1 c2 c3 s) := A0.out.still hb A0.out.lt
    have R := G1 _ _ ro
    obtain ⟨d0, d1, d2, d3, d4, d5, d6, d7, d8⟩ := A1.out
    obtain ⟨_, _, rfl, _⟩ := ro
    clear hb
    go_wp2_with fail
    refine R.mono ?_
    rintro e w2 ⟨rfl, hb⟩
    have HB2 : Hid (Below w.heap.size w w2) := HB1.out.trans (hb.mono HB1.out.size)
    have A2 : Hid (SetAt w2 w.heap.size a1 a2 a3 c1 c2 c3 s) := A1.out.still hb A1.out.lt
    clear R hb d0 d1 d2 d3 d4 d5 d6 d7 d8
    obtain ⟨d0, d1, d2, d3, d4, d5, d6, d7, d8⟩ := A2.out
    go_wp2_with fail
    go_ret
    exact ⟨by rw [hz.out]; rfl, HB2.out⟩
  · cases b2
    · skip
      have hz : Hid (Z = false) := hZ.out.symm.trans (right_nm (nms_2 h1 h2))
      clear h1 h2 h3
      go_enter Tryz.func7, Tryz.ntmps7
      go_wp2_with fail
      refine (N1 _ HB0.out).mono ?_
      rintro e w1 ⟨v1, rfl, ro, hb⟩
      have HB1 : Hid (Below w.heap.size w w1) := HB0.out.trans (hb.mono HB0.out.size)
      have A1 : Hid (SetAt w1 w.heap.size a1 a2 a3 c1 c2 c3 s) := A0.out.still hb A0.out.lt
      have R := G1 _ _ ro
      obtain ⟨d0, d1, d2, d3, d4, d5, d6, d7, d8⟩ := A1.out
      obtain ⟨_, _, rfl, _⟩ := ro
      clear hb
      go_wp2_with fail
      refine R.mono ?_
      rintro e w2 ⟨rfl, hb⟩
      have HB2 : Hid (Below w.heap.size w w2) := HB1.out.trans (hb.mono HB1.out.size)
      have A2 : Hid (SetAt w2 w.heap.size a1 a2 a3 c1 c2 c3 s) := A1.out.still hb A1.out.lt
      clear R hb d0 d1 d2 d3 d4 d5 d6 d7 d8
      obtain ⟨d0, d1, d2, d3, d4, d5, d6, d7, d8⟩ := A2.out
      go_wp2_with fail
      refine (N2 _ HB2.out).mono ?_
      rintro e w3 ⟨v2, rfl, ro, hb⟩
      have HB3 : Hid (Below w.heap.size w w3) := HB2.out.trans (hb.mono HB2.out.size)
      have A3 : Hid (SetAt w3 w.heap.size a1 a2 a3 c1 c2 c3 s) := A2.out.still hb A2.out.lt
      have R := G2 _ _ ro
      clear d0 d1 d2 d3 d4 d5 d6 d7 d8
      obtain ⟨d0, d1, d2, d3, d4, d5, d6, d7, d8⟩ := A3.out
      obtain ⟨_, _, rfl, _⟩ := ro
      clear hb
      go_wp2_with fail
      refine R.mono ?_
      rintro e w4 ⟨rfl, hb⟩
      have HB4 : Hid (Below w.heap.size w w4) := HB3.out.trans (hb.mono HB3.out.size)
      have A4 : Hid (SetAt w4 w.heap.size a1 a2 a3 c1 c2 c3 s) := A3.out.still hb A3.out.lt
      clear R hb d0 d1 d2 d3 d4 d5 d6 d7 d8
      obtain ⟨d0, d1, d2, d3, d4, d5, d6, d7, d8⟩ := A4.out
      go_wp2_with fail
      go_ret
      exact ⟨by rw [hz.out]; rfl, HB4.out⟩
    · cases b3
      · skip
        have hz : Hid (Z = false) := hZ.out.symm.trans (right_nm (nms_3 h1 h2 false h3))
        clear h1 h2 h3
        go_enter Tryz.func7, Tryz.ntmps7
        go_wp2_with fail
        refine (N1 _ HB0.out).mono ?_
        rintro e w1 ⟨v1, rfl, ro, hb⟩
        have HB1 : Hid (Below w.heap.size w w1) := HB0.out.trans (hb.mono HB0.out.size)
        have A1 : Hid (SetAt w1 w.heap.size a1 a2 a3 c1 c2 c3 s) := A0.out.still hb A0.out.lt
        have R := G1 _ _ ro
        obtain ⟨d0, d1, d2, d3, d4, d5, d6, d7, d8⟩ := A1.out
        obtain ⟨_, _, rfl, _⟩ := ro
        clear hb
        go_wp2_with fail
        refine R.mono ?_
        rintro e w2 ⟨rfl, hb⟩
        have HB2 : Hid (Below w.heap.size w w2) := HB1.out.trans (hb.mono HB1.out.size)
        have A2 : Hid (SetAt w2 w.heap.size a1 a2 a3 c1 c2 c3 s) := A1.out.still hb A1.out.lt
        clear R hb d0 d1 d2 d3 d4 d5 d6 d7 d8
        obtain ⟨d0, d1, d2, d3, d4, d5, d6, d7, d8⟩ := A2.out
        go_wp2_with fail
        refine (N2 _ HB2.out).mono ?_
        rintro e w3 ⟨v2, rfl, ro, hb⟩
        have HB3 : Hid (Below w.heap.size w w3) := HB2.out.trans (hb.mono HB2.out.size)
        have A3 : Hid (SetAt w3 w.heap.size a1 a2 a3 c1 c2 c3 s) := A2.out.still hb A2.out.lt
        have R := G2 _ _ ro
        clear d0 d1 d2 d3 d4 d5 d6 d7 d8
        obtain ⟨d0, d1, d2, d3, d4, d5, d6, d7, d8⟩ := A3.out
        obtain ⟨_, _, rfl, _⟩ := ro
        clear hb
        go_wp2_with fail
        refine R.mono ?_
        rintro e w4 ⟨rfl, hb⟩
        have HB4 : Hid (Below w.heap.size w w4) := HB3.out.trans (hb.mono HB3.out.size)
        have A4 : Hid (SetAt w4 w.heap.size a1 a2 a3 c1 c2 c3 s) := A3.out.still hb A3.out.lt
        clear R hb d0 d1 d2 d3 d4 d5 d6 d7 d8
        obtain ⟨d0, d1, d2, d3, d4, d5, d6, d7, d8⟩ := A4.out
        go_wp2_with fail
        refine (N3 _ HB4.out).mono ?_
        rintro e w5 ⟨v3, rfl, ro, hb⟩
        have HB5 : Hid (Below w.heap.size w w5) := HB4.out.trans (hb.mono HB4.out.size)
        have A5 : Hid (SetAt w5 w.heap.size a1 a2 a3 c1 c2 c3 s) := A4.out.still hb A4.out.lt
        have R := G3 _ _ ro
        clear d0 d1 d2 d3 d4 d5 d6 d7 d8
        obtain ⟨d0, d1, d2, d3, d4, d5, d6, d7, d8⟩ := A5.out
        obtain ⟨_, _, rfl, _⟩ := ro
        clear hb
        go_wp2_with fail
        refine R.mono ?_
        rintro e w6 ⟨rfl, hb⟩
        have HB6 : Hid (Below w.heap.size w w6) := HB5.out.trans (hb.mono HB5.out.size)
        have A6 : Hid (SetAt w6 w.heap.size a1 a2 a3 c1 c2 c3 s) := A5.out.still hb A5.out.lt
        clear R hb d0 d1 d2 d3 d4 d5 d6 d7 d8
        obtain ⟨d0, d1, d2, d3, d4, d5, d6, d7, d8⟩ := A6.out
        go_wp2_with fail
        go_ret
        exact ⟨by rw [hz.out]; rfl, HB6.out⟩
      · have HN : Hid (nmsB s = true) := nms_3 h1 h2 true h3
        clear h1 h2 h3
        go_enter Tryz.func7, Tryz.ntmps7
        go_wp2_with fail
        refine (N1 _ HB0.out).mono ?_
        rintro e w1 ⟨v1, rfl, ro, hb⟩
        have HB1 : Hid (Below w.heap.size w w1) := HB0.out.trans (hb.mono HB0.out.size)
        have A1 : Hid (SetAt w1 w.heap.size a1 a2 a3 c1 c2 c3 s) := A0.out.still hb A0.out.lt
        have R := G1 _ _ ro
        obtain ⟨d0, d1, d2, d3, d4, d5, d6, d7, d8⟩ := A1.out
        obtain ⟨_, _, rfl, _⟩ := ro
        clear hb
        go_wp2_with fail
        refine R.mono ?_
        rintro e w2 ⟨rfl, hb⟩
        have HB2 : Hid (Below w.heap.size w w2) := HB1.out.trans (hb.mono HB1.out.size)
        have A2 : Hid (SetAt w2 w.heap.size a1 a2 a3 c1 c2 c3 s) := A1.out.still hb A1.out.lt
        clear R hb d0 d1 d2 d3 d4 d5 d6 d7 d8
        obtain ⟨d0, d1, d2, d3, d4, d5, d6, d7, d8⟩ := A2.out
        go_wp2_with fail
        refine (N2 _ HB2.out).mono ?_
        rintro e w3 ⟨v2, rfl, ro, hb⟩
        have HB3 : Hid (Below w.heap.size w w3) := HB2.out.trans (hb.mono HB2.out.size)
        have A3 : Hid (SetAt w3 w.heap.size a1 a2 a3 c1 c2 c3 s) := A2.out.still hb A2.out.lt
        have R := G2 _ _ ro
        clear d0 d1 d2 d3 d4 d5 d6 d7 d8
        obtain ⟨d0, d1, d2, d3, d4, d5, d6, d7, d8⟩ := A3.out
        obtain ⟨_, _, rfl, _⟩ := ro
        clear hb
        go_wp2_with fail
        refine R.mono ?_
        rintro e w4 ⟨rfl, hb⟩
        have HB4 : Hid (Below w.heap.size w w4) := HB3.out.trans (hb.mono HB3.out.size)
        have A4 : Hid (SetAt w4 w.heap.size a1 a2 a3 c1 c2 c3 s) := A3.out.still hb A3.out.lt
        clear R hb d0 d1 d2 d3 d4 d5 d6 d7 d8
        obtain ⟨d0, d1, d2, d3, d4, d5, d6, d7, d8⟩ := A4.out
        go_wp2_with fail
        refine (N3 _ HB4.out).mono ?_
        rintro e w5 ⟨v3, rfl, ro, hb⟩
        have HB5 : Hid (Below w.heap.size w w5) := HB4.out.trans (hb.mono HB4.out.size)
        have A5 : Hid (SetAt w5 w.heap.size a1 a2 a3 c1 c2 c3 s) := A4.out.still hb A4.out.lt
        have R := G3 _ _ ro
        clear d0 d1 d2 d3 d4 d5 d6 d7 d8
        obtain ⟨d0, d1, d2, d3, d4, d5, d6, d7, d8⟩ := A5.out
        obtain ⟨_, _, rfl, _⟩ := ro
        clear hb
        go_wp2_with fail
        refine R.mono ?_
        rintro e w6 ⟨rfl, hb⟩
        have HB6 : Hid (Below w.heap.size w w6) := HB5.out.trans (hb.mono HB5.out.size)
        have A6 : Hid (SetAt w6 w.heap.size a1 a2 a3 c1 c2 c3 s) := A5.out.still hb A5.out.lt
        clear R hb d0 d1 d2 d3 d4 d5 d6 d7 d8
        obtain ⟨d0, d1, d2, d3, d4, d5, d6, d7, d8⟩ := A6.out
        go_wp2_with fail
        have HIn : Hid (SetIn w6 a1 a2 a3 c1 c2 c3 s) := HI.out.below HB6.out (Nat.le_refl _)
        clear HI N1 N2 N3 G1 G2 G3 A0 A1 A2 A3 A4 A5 HB0 HB1 HB2 HB3 HB4 HB5
        go_loopw [3] (fun c wr => ∃ k : Nat, c = .int .i64 (k : Int) ∧ k ≤ s.nA ∧ Hid (∀ i, i < k → accB (s.A i).2.1 = true) ∧ wr = w6) (fun c _ => s.nA - (RowKit.intOf c).toNat)
        case atStart => exact ⟨0, rfl, Nat.zero_le _, fun i hi => absurd hi (by omega), rfl⟩
        case round =>
          obtain ⟨k, rfl, hk, hf, hwr⟩ := hrel
          obtain rfl : w6 = wr := hwr.symm
          obtain ⟨xa, xc, e, xh1, xh2, xh3⟩ := HIn.out.ra
          injection e with e1 _ e2
          subst e1 e2
          unfold maxLen at xh2
          by_cases hlt : k < s.nA
          · have t : (k : Int) < (s.nA : Int) := by omega
            obtain ⟨b, off, rfl, c0, c1⟩ := xh3 k hlt
            have G : ∀ W, Calls Tryz.prog 22 #[.int .i64 ((s.A k).2.1 1), .int .i64 0, .int .i64 4611686018427387904] W fun e w' => e = .returned (.bool (accB (s.A k).2.1)) ∧ w' = W := fun W => in_any _ _ _ W
            cases e1 : accB (s.A k).2.1
            · have hz : Hid (Z = false) := hZ.out.symm.trans (right_ac hlt e1)
              rw [e1] at G
              clear xh3 hf e1 HIn
              generalize s.A k = x at *
              go_wp2_with fail
              refine (G _).mono ?_
              rintro e w7 ⟨rfl, rfl⟩
              go_wp2_with fail
              go_ret
              exact ⟨by rw [hz.out]; rfl, HB6.out⟩
            · have HF : Hid (∀ i, i < k + 1 → accB (s.A i).2.1 = true) := fun i hi => if e : i = k then by subst e; exact e1 else hf.out i (by omega)
              rw [e1] at G
              clear xh3 hf e1
              generalize s.A k = x at *
              go_wp2_with fail
              refine (G _).mono ?_
              rintro e w7 ⟨rfl, rfl⟩
              go_wp2_with fail
              go_roundw
              case rel => exact ⟨k + 1, by simp, by omega, HF, by first | trivial | rfl⟩
              case measure => simp [RowKit.intOf]; omega
          · have hkn : k = s.nA := by omega
            have HF1 : Hid (∀ i, i < s.nA → accB (s.A i).2.1 = true) := fun i hi => hf.out i (by omega)
            have t : ¬ (k : Int) < (s.nA : Int) := by omega
            clear xh3 xh1 xh2 hf hkn
            go_wp2_with fail
            go_loopw [4] (fun c wr' => ∃ k : Nat, c = .int .i64 (k : Int) ∧ k ≤ s.nS ∧ Hid (∀ i, i < k → symB (s.S i).2.1 = true) ∧ Hid (Below w6.heap.size w6 wr')) (fun c _ => s.nS - (RowKit.intOf c).toNat)
            case atStart => exact ⟨0, rfl, Nat.zero_le _, fun i hi => absurd hi (by omega), Below.refl _ _⟩
            case round =>
              obtain ⟨m, rfl, hm, hf, hB⟩ := hrel
              clear d0 d1 d2 d3 d4 d5 d6 d7 d8
              obtain ⟨d0, d1, d2, d3, d4, d5, d6, d7, d8⟩ := A6.out.still hB.out A6.out.lt
              obtain ⟨ya, yc, e, yh1, yh2, yh3⟩ := HIn.out.rs
              injection e with e1 _ e2
              subst e1 e2
              unfold maxLen at yh2
              by_cases hlt2 : m < s.nS
              · have t2 : (m : Int) < (s.nS : Int) := by omega
                obtain ⟨b, off, rfl, c0, c1, c2, c3, c4, c5, c6⟩ := yh3 m hlt2
                have f0 := (hB.out.cell (World.block_lt_of_cell? _ _ c0)).trans c0
                have f1 := (hB.out.cell (World.block_lt_of_cell? _ _ c1)).trans c1
                have f2 := (hB.out.cell (World.block_lt_of_cell? _ _ c2)).trans c2
                have f3 := (hB.out.cell (World.block_lt_of_cell? _ _ c3)).trans c3
                have f4 := (hB.out.cell (World.block_lt_of_cell? _ _ c4)).trans c4
                have f5 := (hB.out.cell (World.block_lt_of_cell? _ _ c5)).trans c5
                have f6 := (hB.out.cell (World.block_lt_of_cell? _ _ c6)).trans c6
                have G : ∀ W, Calls Tryz.prog 23 #[.agg #[.string (s.S m).1, .int .i64 ((s.S m).2.1 1), .int .i64 ((s.S m).2.1 2), .int .i64 ((s.S m).2.1 3), .int .i64 ((s.S m).2.1 4), .int .i64 ((s.S m).2.1 5), .int .i64 ((s.S m).2.1 6)]] W fun e w' => e = .returned (.bool (symB (s.S m).2.1)) ∧ Below W.heap.size W w' := fun W => symbolR_any (s.S m) W
                cases e1 : symB (s.S m).2.1
                · have hz : Hid (Z = false) := hZ.out.symm.trans (right_sy hlt2 e1)
                  rw [e1] at G
                  clear yh3 hf e1 HIn c0 c1 c2 c3 c4 c5 c6
                  generalize s.S m = x at *
                  go_wp2_with fail
                  refine (G _).mono ?_
                  rintro e w7 ⟨rfl, b7⟩
                  go_wp2_with fail
                  go_ret
                  exact ⟨by rw [hz.out]; rfl, (HB6.out.trans (hB.out.mono HB6.out.size)).trans (b7.mono (Nat.le_trans HB6.out.size hB.out.size))⟩
                · have HF : Hid (∀ i, i < m + 1 → symB (s.S i).2.1 = true) := fun i hi => if e : i = m then by subst e; exact e1 else hf.out i (by omega)
                  rw [e1] at G
                  clear yh3 hf e1 c0 c1 c2 c3 c4 c5 c6
                  generalize s.S m = x at *
                  go_wp2_with fail
                  refine (G _).mono ?_
                  rintro e w7 ⟨rfl, b7⟩
                  have HB7 : Hid (Below w6.heap.size w6 w7) := hB.out.trans (b7.mono hB.out.size)
                  go_wp2_with fail
                  go_roundw
                  case rel => exact ⟨m + 1, by simp, by omega, HF, HB7⟩
                  case measure => simp [RowKit.intOf]; omega
              · have HF2 : Hid (∀ i, i < s.nS → symB (s.S i).2.1 = true) := fun i hi => hf.out i (by omega)
                have t2 : ¬ (m : Int) < (s.nS : Int) := by omega
                have HB7 : Hid (Below w6.heap.size w6 wr) := hB
                obtain ⟨w7, hw7⟩ : ∃ w7, wr = w7 := ⟨_, rfl⟩
                subst hw7
                clear yh3 yh1 yh2 hf hB
                go_wp2_with fail
                go_loopw [5] (fun c wr' => ∃ k : Nat, c = .int .i64 (k : Int) ∧ k ≤ s.nV ∧ Hid (∀ i, i < k → venB (s.V i).2.1 = true) ∧ Hid (Below w6.heap.size w6 wr')) (fun c _ => s.nV - (RowKit.intOf c).toNat)
                case atStart => exact ⟨0, rfl, Nat.zero_le _, fun i hi => absurd hi (by omega), HB7⟩
                case round =>
                  obtain ⟨q, rfl, hq, hf, hB⟩ := hrel
                  clear d0 d1 d2 d3 d4 d5 d6 d7 d8 HB7
                  obtain ⟨d0, d1, d2, d3, d4, d5, d6, d7, d8⟩ := A6.out.still hB.out A6.out.lt
                  obtain ⟨za, zc, e, zh1, zh2, zh3⟩ := HIn.out.rv
                  injection e with e1 _ e2
                  subst e1 e2
                  unfold maxLen at zh2
                  by_cases hlt3 : q < s.nV
                  · have t3 : (q : Int) < (s.nV : Int) := by omega
                    obtain ⟨b, off, rfl, c0, c1, c2, c3, c4⟩ := zh3 q hlt3
                    have f0 := (hB.out.cell (World.block_lt_of_cell? _ _ c0)).trans c0
                    have f1 := (hB.out.cell (World.block_lt_of_cell? _ _ c1)).trans c1
                    have f2 := (hB.out.cell (World.block_lt_of_cell? _ _ c2)).trans c2
                    have f3 := (hB.out.cell (World.block_lt_of_cell? _ _ c3)).trans c3
                    have f4 := (hB.out.cell (World.block_lt_of_cell? _ _ c4)).trans c4
                    obtain ⟨⟨nm, z, mk'⟩, HX'⟩ : ∃ x, s.V q = x := ⟨_, rfl⟩
                    have HX : Hid (s.V q = (nm, z, mk')) := HX'
                    rw [HX'] at f0 f1 f2 f3 f4
                    dsimp only at f0 f1 f2 f3 f4
                    have HBr : Hid (Below w.heap.size w wr) := HB6.out.trans (hB.out.mono HB6.out.size)
                    have hge := hB.out.size
                    have hge2 := HBr.out.size
                    clear zh3 c0 c1 c2 c3 c4 HX'
                    cases p1 : withB (z 1) 1 1099511627776
                    · have hz : Hid (Z = false) := hZ.out.symm.trans (right_ve hlt3 (by rw [HX.out]; unfold venB; simp [p1]))
                      clear hf HIn
                      go_wp2_with fail
                      refine (in_is _ _ _ _ _ p1).mono ?_
                      rintro e w8 ⟨rfl, rfl⟩
                      go_wp2_with fail
                      go_ret
                      exact ⟨by rw [hz.out]; rfl, HBr.out.alloc hge2 _⟩
                    · cases p2 : withB (z 2) 0 10000
                      · have hz : Hid (Z = false) := hZ.out.symm.trans (right_ve hlt3 (by rw [HX.out]; unfold venB; simp [p1, p2]))
                        clear hf HIn
                        go_wp2_with fail
                        refine (in_is _ _ _ _ _ p1).mono ?_
                        rintro e w8 ⟨rfl, rfl⟩
                        go_wp2_with fail
                        refine (in_is _ _ _ _ _ p2).mono ?_
                        rintro e w8 ⟨rfl, rfl⟩
                        go_wp2_with fail
                        go_ret
                        exact ⟨by rw [hz.out]; rfl, HBr.out.alloc hge2 _⟩
                      · cases p3 : withB (z 3) 0 1099511627776
                        · have hz : Hid (Z = false) := hZ.out.symm.trans (right_ve hlt3 (by rw [HX.out]; unfold venB; simp [p1, p2, p3]))
                          clear hf HIn
                          go_wp2_with fail
                          refine (in_is _ _ _ _ _ p1).mono ?_
                          rintro e w8 ⟨rfl, rfl⟩
                          go_wp2_with fail
                          refine (in_is _ _ _ _ _ p2).mono ?_
                          rintro e w8 ⟨rfl, rfl⟩
                          go_wp2_with fail
                          refine (in_is _ _ _ _ _ p3).mono ?_
                          rintro e w8 ⟨rfl, rfl⟩
                          go_wp2_with fail
                          go_ret
                          exact ⟨by rw [hz.out]; rfl, HBr.out.alloc hge2 _⟩
                        · have HF : Hid (∀ i, i < q + 1 → venB (s.V i).2.1 = true) := fun i hi => if e : i = q then by subst e; rw [HX.out]; unfold venB; simp [p1, p2, p3] else hf.out i (by omega)
                          clear hf
                          go_wp2_with fail
                          refine (in_is _ _ _ _ _ p1).mono ?_
                          rintro e w8 ⟨rfl, hw8⟩
                          obtain rfl := hw8
                          go_wp2_with fail
                          refine (in_is _ _ _ _ _ p2).mono ?_
                          rintro e w8 ⟨rfl, rfl⟩
                          go_wp2_with fail
                          refine (in_is _ _ _ _ _ p3).mono ?_
                          rintro e w8 ⟨rfl, rfl⟩
                          go_wp2_with fail
                          go_roundw
                          case rel => exact ⟨q + 1, by simp, by omega, HF, hB.out.alloc hge _⟩
                          case measure => simp [RowKit.intOf]; omega
                  · have HF3 : Hid (∀ i, i < s.nV → venB (s.V i).2.1 = true) := fun i hi => hf.out i (by omega)
                    have t3 : ¬ (q : Int) < (s.nV : Int) := by omega
                    have HBr : Hid (Below w.heap.size w wr) := HB6.out.trans (hB.out.mono HB6.out.size)
                    have hzz : Hid (Z = roomB s.P) := hZ.out.symm.trans (right_all HN.out HF1.out HF2.out HF3.out)
                    clear zh3 zh1 zh2 hf hB HF1 HF2 HF3 HN HIn
                    cases g1 : withB (s.P 3) 1 64
                    · have hz : Hid (Z = false) := by show Z = _; rw [hzz.out]; unfold roomB; simp [g1]
                      go_wp2_with fail
                      refine (in_is _ _ _ _ _ g1).mono ?_
                      rintro e w8 ⟨rfl, rfl⟩
                      go_wp2_with fail
                      go_ret
                      exact ⟨by rw [hz.out]; rfl, HBr.out⟩
                    · cases g2 : withB (s.P 4) 1 256
                      · have hz : Hid (Z = false) := by show Z = _; rw [hzz.out]; unfold roomB; simp [g1, g2]
                        go_wp2_with fail
                        refine (in_is _ _ _ _ _ g1).mono ?_
                        rintro e w8 ⟨rfl, rfl⟩
                        go_wp2_with fail
                        refine (in_is _ _ _ _ _ g2).mono ?_
                        rintro e w8 ⟨rfl, rfl⟩
                        go_wp2_with fail
                        go_ret
                        exact ⟨by rw [hz.out]; rfl, HBr.out⟩
                      · cases g3 : withB (s.P 5) 1 4096
                        · have hz : Hid (Z = false) := by show Z = _; rw [hzz.out]; unfold roomB; simp [g1, g2, g3]
                          go_wp2_with fail
                          refine (in_is _ _ _ _ _ g1).mono ?_
                          rintro e w8 ⟨rfl, rfl⟩
                          go_wp2_with fail
                          refine (in_is _ _ _ _ _ g2).mono ?_
                          rintro e w8 ⟨rfl, rfl⟩
                          go_wp2_with fail
                          refine (in_is _ _ _ _ _ g3).mono ?_
                          rintro e w8 ⟨rfl, rfl⟩
                          go_wp2_with fail
                          go_ret
                          exact ⟨by rw [hz.out]; rfl, HBr.out⟩
                        · cases g4 : withB (s.P 6) 1 1073741824
                          · have hz : Hid (Z = false) := by show Z = _; rw [hzz.out]; unfold roomB; simp [g1, g2, g3, g4]
                            go_wp2_with fail
                            refine (in_is _ _ _ _ _ g1).mono ?_
                            rintro e w8 ⟨rfl, rfl⟩
                            go_wp2_with fail
                            refine (in_is _ _ _ _ _ g2).mono ?_
                            rintro e w8 ⟨rfl, rfl⟩
                            go_wp2_with fail
                            refine (in_is _ _ _ _ _ g3).mono ?_
                            rintro e w8 ⟨rfl, rfl⟩
                            go_wp2_with fail
                            refine (in_is _ _ _ _ _ g4).mono ?_
                            rintro e w8 ⟨rfl, rfl⟩
                            go_wp2_with fail
                            go_ret
                            exact ⟨by rw [hz.out]; rfl, HBr.out⟩
                          · cases g5 : withB (s.P 7) 1 1024
                            · have hz : Hid (Z = false) := by show Z = _; rw [hzz.out]; unfold roomB; simp [g1, g2, g3, g4, g5]
                              go_wp2_with fail
                              refine (in_is _ _ _ _ _ g1).mono ?_
                              rintro e w8 ⟨rfl, rfl⟩
                              go_wp2_with fail
                              refine (in_is _ _ _ _ _ g2).mono ?_
                              rintro e w8 ⟨rfl, rfl⟩
                              go_wp2_with fail
                              refine (in_is _ _ _ _ _ g3).mono ?_
                              rintro e w8 ⟨rfl, rfl⟩
                              go_wp2_with fail
                              refine (in_is _ _ _ _ _ g4).mono ?_
                              rintro e w8 ⟨rfl, rfl⟩
                              go_wp2_with fail
                              refine (in_is _ _ _ _ _ g5).mono ?_
                              rintro e w8 ⟨rfl, rfl⟩
                              go_wp2_with fail
                              go_ret
                              exact ⟨by rw [hz.out]; rfl, HBr.out⟩
                            · cases g6 : withB (s.P 8) 2 1024
                              · have hz : Hid (Z = false) := by show Z = _; rw [hzz.out]; unfold roomB; simp [g1, g2, g3, g4, g5, g6]
                                go_wp2_with fail
                                refine (in_is _ _ _ _ _ g1).mono ?_
                                rintro e w8 ⟨rfl, rfl⟩
                                go_wp2_with fail
                                refine (in_is _ _ _ _ _ g2).mono ?_
                                rintro e w8 ⟨rfl, rfl⟩
                                go_wp2_with fail
                                refine (in_is _ _ _ _ _ g3).mono ?_
                                rintro e w8 ⟨rfl, rfl⟩
                                go_wp2_with fail
                                refine (in_is _ _ _ _ _ g4).mono ?_
                                rintro e w8 ⟨rfl, rfl⟩
                                go_wp2_with fail
                                refine (in_is _ _ _ _ _ g5).mono ?_
                                rintro e w8 ⟨rfl, rfl⟩
                                go_wp2_with fail
                                refine (in_is _ _ _ _ _ g6).mono ?_
                                rintro e w8 ⟨rfl, rfl⟩
                                go_wp2_with fail
                                go_ret
                                exact ⟨by rw [hz.out]; rfl, HBr.out⟩
                              · have hz : Hid (Z = true) := by show Z = _; rw [hzz.out]; unfold roomB; simp [g1, g2, g3, g4, g5, g6]
                                go_wp2_with fail
                                refine (in_is _ _ _ _ _ g1).mono ?_
                                rintro e w8 ⟨rfl, rfl⟩
                                go_wp2_with fail
                                refine (in_is _ _ _ _ _ g2).mono ?_
                                rintro e w8 ⟨rfl, rfl⟩
                                go_wp2_with fail
                                refine (in_is _ _ _ _ _ g3).mono ?_
                                rintro e w8 ⟨rfl, rfl⟩
                                go_wp2_with fail
                                refine (in_is _ _ _ _ _ g4).mono ?_
                                rintro e w8 ⟨rfl, rfl⟩
                                go_wp2_with fail
                                refine (in_is _ _ _ _ _ g5).mono ?_
                                rintro e w8 ⟨rfl, rfl⟩
                                go_wp2_with fail
                                refine (in_is _ _ _ _ _ g6).mono ?_
                                rintro e w8 ⟨rfl, rfl⟩
                                go_wp2_with fail
                                go_ret
                                exact ⟨by rw [hz.out]; rfl, HBr.out⟩
end Go.Proofs.YtfphjhmhiaepiaaGreat.RU
