/-
  The contract of the fourteenth reference's RightOrder, a theorem a kind.
-/
import Derived.Test.YtlgnbnojjfgfmaaPostMathO
import Derived.Test.YtlgnbnojjfgfmaaRunes
namespace Go.Proofs.Ytlgnbnojjfgfmaa.PP.O
open Go.ChangeShapes Go.WideShapes Go.ChangeAt Go.RowKit Go.Lib

/-- A number lies within two ends. -/
def inB (n lo hi : Int) : Bool := decide (lo ≤ n ∧ n ≤ hi)
set_option maxHeartbeats 1000000 in
theorem refIn_at (n lo hi : Int) (w : World) : Calls Try.prog 39 #[.int .i64 n, .int .i64 lo, .int .i64 hi] w fun e w' => e = .returned (.bool (inB n lo hi)) ∧ w = w' := by
  unfold inB
  by_cases h1 : lo ≤ n
  · by_cases h2 : n ≤ hi
    · rw [decide_eq_true ⟨h1, h2⟩]
      go_enter Try.func39, Try.ntmps39
      go_wp2
      go_ret
      exact ⟨rfl, rfl⟩
    · rw [decide_eq_false (fun h => h2 h.2)]
      go_enter Try.func39, Try.ntmps39
      go_wp2
      go_ret
      exact ⟨rfl, rfl⟩
  · rw [decide_eq_false (fun h => h1 h.1)]
    go_enter Try.func39, Try.ntmps39
    go_wp2
    go_ret
    exact ⟨rfl, rfl⟩
/-- A block that holds the reference's. -/
abbrev refBox (w : World) (t : ThP) : World := w.alloc (.cells #[.int .i64 (t.2 0), .int .i64 (t.2 1), .string (t.1 2), .string (t.1 3), .int .i64 (t.2 4), .int .i64 (t.2 5), .int .i64 (t.2 6)] 55)
theorem refBox_below (w : World) (t : ThP) : Below w.heap.size w (refBox w t) := (Below.refl _ w).alloc (Nat.le_refl _) _
theorem refBox_at (w : World) (t : ThP) : ThAt nm (refBox w t) w.heap.size t := by
  refine ⟨fun j hj => ?_, fun j => by simp⟩
  rcases (show j = 0 ∨ j = 1 ∨ j = 2 ∨ j = 3 ∨ j = 4 ∨ j = 5 ∨ j = 6 by omega) with rfl | rfl | rfl | rfl | rfl | rfl | rfl <;> simp [cellT, nm]
theorem at_kind {w : World} {b : Nat} {t : ThP} {k : Int} (h : ThAt nm w b t) (hk : t.2 0 = k) : w.cell? ⟨b, 0, none⟩ = some (.int .i64 k) ∧ w.cell? ⟨b, 1, none⟩ = some (.int .i64 (t.2 1)) ∧ w.cell? ⟨b, 2, none⟩ = some (.string (t.1 2)) ∧ w.cell? ⟨b, 3, none⟩ = some (.string (t.1 3)) ∧ w.cell? ⟨b, 4, none⟩ = some (.int .i64 (t.2 4)) ∧ w.cell? ⟨b, 5, none⟩ = some (.int .i64 (t.2 5)) ∧ w.cell? ⟨b, 6, none⟩ = some (.int .i64 (t.2 6)) := by
  subst hk
  exact ThAt.all h
theorem refKind_in (k : Int) (b : Bool) (h : inB k 1 3 = b) (w : World) : Calls Try.prog 39 #[.int .i64 k, .int .i64 1, .int .i64 3] w fun e w' => e = .returned (.bool b) ∧ w = w' := by
  rw [← h]
  exact refIn_at k 1 3 w
set_option maxHeartbeats 4000000 in
theorem refRight_none (t : ThP) (w : World) (hk : inB (t.2 0) 1 3 = false) :
    Calls Try.prog 31 #[.agg #[.int .i64 (t.2 0), .int .i64 (t.2 1), .string (t.1 2), .string (t.1 3), .int .i64 (t.2 4), .int .i64 (t.2 5), .int .i64 (t.2 6)]] w fun e w' => e = .returned (.bool false) ∧ Below w.heap.size w w' := by
  have HB0 : Hid (Below w.heap.size w (refBox w t)) := refBox_below w t
  have K := refKind_in _ _ hk
  clear hk
  go_enter Try.func31, Try.ntmps31
  go_wp2_with fail
  refine (K _).mono ?_
  rintro e w1 ⟨rfl, rfl⟩
  go_wp2_with fail
  go_ret
  exact ⟨rfl, HB0.out⟩
set_option maxRecDepth 100000 in
set_option maxHeartbeats 8000000 in
theorem refRight_1 (t : ThP) (w : World) (hk : t.2 0 = 1) (z2 : (t.1 2).size ≤ 300) (z3 : (t.1 3).size ≤ 300) :
    Calls Try.prog 31 #[.agg #[.int .i64 (t.2 0), .int .i64 (t.2 1), .string (t.1 2), .string (t.1 3), .int .i64 (t.2 4), .int .i64 (t.2 5), .int .i64 (t.2 6)]] w fun e w' => e = .returned (.bool (inB (t.2 1) 1 1099511627776 && (vldB (t.1 2) && (vldB (t.1 3) && (inB (t.2 4) 1 2 && (inB (t.2 5) 1 1099511627776 && inB (t.2 6) 1 1099511627776)))))) ∧ Below w.heap.size w w' := by
  have HB0 : Hid (Below w.heap.size w (refBox w t)) := refBox_below w t
  have HA0 : Hid (ThAt nm (refBox w t) w.heap.size t) := refBox_at w t
  have K := refKind_in 1 true (by decide)
  have F0 := refIn_at (t.2 1) 1 1099511627776
  have F1 := fun w => refValid_any (t.1 2) w z2
  have F2 := fun w => refValid_any (t.1 3) w z3
  have F3 := refIn_at (t.2 4) 1 2
  have F4 := refIn_at (t.2 5) 1 1099511627776
  have F5 := refIn_at (t.2 6) 1 1099511627776
  have HK : Hid (t.2 0 = 1) := hk
  unfold refBox at HB0 HA0
  rw [hk] at HB0 HA0 ⊢
  obtain ⟨b0, h0⟩ : ∃ b, inB (t.2 1) 1 1099511627776 = b := ⟨_, rfl⟩
  rw [h0] at F0 ⊢
  obtain ⟨b1, h1⟩ : ∃ b, vldB (t.1 2) = b := ⟨_, rfl⟩
  rw [h1] at F1 ⊢
  obtain ⟨b2, h2⟩ : ∃ b, vldB (t.1 3) = b := ⟨_, rfl⟩
  rw [h2] at F2 ⊢
  obtain ⟨b3, h3⟩ : ∃ b, inB (t.2 4) 1 2 = b := ⟨_, rfl⟩
  rw [h3] at F3 ⊢
  obtain ⟨b4, h4⟩ : ∃ b, inB (t.2 5) 1 1099511627776 = b := ⟨_, rfl⟩
  rw [h4] at F4 ⊢
  obtain ⟨b5, h5⟩ : ∃ b, inB (t.2 6) 1 1099511627776 = b := ⟨_, rfl⟩
  rw [h5] at F5 ⊢
  clear hk h0 h1 h2 h3 h4 h5 z2 z3
  cases b0 with
  | false =>
    simp only [Bool.false_and]
    go_enter Try.func31, Try.ntmps31
    go_wp2_with fail
    refine (K _).mono ?_
    rintro e y0 ⟨rfl, rfl⟩
    go_wp2_with fail
    refine (F0 _).mono ?_
    rintro e y1 ⟨rfl, rfl⟩
    go_wp2_with fail
    go_ret
    exact ⟨rfl, HB0.out⟩
  | true =>
    cases b1 with
    | false =>
      simp only [Bool.true_and, Bool.false_and]
      go_enter Try.func31, Try.ntmps31
      go_wp2_with fail
      refine (K _).mono ?_
      rintro e y0 ⟨rfl, rfl⟩
      go_wp2_with fail
      refine (F0 _).mono ?_
      rintro e y1 ⟨rfl, rfl⟩
      go_wp2_with fail
      refine (F1 _).mono ?_
      rintro e x1 ⟨rfl, c1⟩
      have HA1' : Hid (ThAt nm x1 w.heap.size t) := HA0.out.still c1
      have HB1' : Hid (Below w.heap.size w x1) := HB0.out.trans (c1.mono HB0.out.size)
      obtain ⟨d1_0, d1_1, d1_2, d1_3, d1_4, d1_5, d1_6⟩ := at_kind HA1'.out HK.out
      clear c1
      go_wp2_with fail
      go_ret
      exact ⟨rfl, HB1'.out⟩
    | true =>
      cases b2 with
      | false =>
        simp only [Bool.true_and, Bool.false_and]
        go_enter Try.func31, Try.ntmps31
        go_wp2_with fail
        refine (K _).mono ?_
        rintro e y0 ⟨rfl, rfl⟩
        go_wp2_with fail
        refine (F0 _).mono ?_
        rintro e y1 ⟨rfl, rfl⟩
        go_wp2_with fail
        refine (F1 _).mono ?_
        rintro e x1 ⟨rfl, c1⟩
        have HA1' : Hid (ThAt nm x1 w.heap.size t) := HA0.out.still c1
        have HB1' : Hid (Below w.heap.size w x1) := HB0.out.trans (c1.mono HB0.out.size)
        obtain ⟨d1_0, d1_1, d1_2, d1_3, d1_4, d1_5, d1_6⟩ := at_kind HA1'.out HK.out
        clear c1
        go_wp2_with fail
        refine (F2 _).mono ?_
        rintro e x2 ⟨rfl, c2⟩
        have HA2' : Hid (ThAt nm x2 w.heap.size t) := HA1'.out.still c2
        have HB2' : Hid (Below w.heap.size w x2) := HB1'.out.trans (c2.mono HB1'.out.size)
        clear d1_0 d1_1 d1_2 d1_3 d1_4 d1_5 d1_6
        obtain ⟨d2_0, d2_1, d2_2, d2_3, d2_4, d2_5, d2_6⟩ := at_kind HA2'.out HK.out
        clear c2
        go_wp2_with fail
        go_ret
        exact ⟨rfl, HB2'.out⟩
      | true =>
        cases b3 with
        | false =>
          simp only [Bool.true_and, Bool.false_and]
          go_enter Try.func31, Try.ntmps31
          go_wp2_with fail
          refine (K _).mono ?_
          rintro e y0 ⟨rfl, rfl⟩
          go_wp2_with fail
          refine (F0 _).mono ?_
          rintro e y1 ⟨rfl, rfl⟩
          go_wp2_with fail
          refine (F1 _).mono ?_
          rintro e x1 ⟨rfl, c1⟩
          have HA1' : Hid (ThAt nm x1 w.heap.size t) := HA0.out.still c1
          have HB1' : Hid (Below w.heap.size w x1) := HB0.out.trans (c1.mono HB0.out.size)
          obtain ⟨d1_0, d1_1, d1_2, d1_3, d1_4, d1_5, d1_6⟩ := at_kind HA1'.out HK.out
          clear c1
          go_wp2_with fail
          refine (F2 _).mono ?_
          rintro e x2 ⟨rfl, c2⟩
          have HA2' : Hid (ThAt nm x2 w.heap.size t) := HA1'.out.still c2
          have HB2' : Hid (Below w.heap.size w x2) := HB1'.out.trans (c2.mono HB1'.out.size)
          clear d1_0 d1_1 d1_2 d1_3 d1_4 d1_5 d1_6
          obtain ⟨d2_0, d2_1, d2_2, d2_3, d2_4, d2_5, d2_6⟩ := at_kind HA2'.out HK.out
          clear c2
          go_wp2_with fail
          refine (F3 _).mono ?_
          rintro e y4 ⟨rfl, rfl⟩
          go_wp2_with fail
          go_ret
          exact ⟨rfl, HB2'.out⟩
        | true =>
          cases b4 with
          | false =>
            simp only [Bool.true_and, Bool.false_and]
            go_enter Try.func31, Try.ntmps31
            go_wp2_with fail
            refine (K _).mono ?_
            rintro e y0 ⟨rfl, rfl⟩
            go_wp2_with fail
            refine (F0 _).mono ?_
            rintro e y1 ⟨rfl, rfl⟩
            go_wp2_with fail
            refine (F1 _).mono ?_
            rintro e x1 ⟨rfl, c1⟩
            have HA1' : Hid (ThAt nm x1 w.heap.size t) := HA0.out.still c1
            have HB1' : Hid (Below w.heap.size w x1) := HB0.out.trans (c1.mono HB0.out.size)
            obtain ⟨d1_0, d1_1, d1_2, d1_3, d1_4, d1_5, d1_6⟩ := at_kind HA1'.out HK.out
            clear c1
            go_wp2_with fail
            refine (F2 _).mono ?_
            rintro e x2 ⟨rfl, c2⟩
            have HA2' : Hid (ThAt nm x2 w.heap.size t) := HA1'.out.still c2
            have HB2' : Hid (Below w.heap.size w x2) := HB1'.out.trans (c2.mono HB1'.out.size)
            clear d1_0 d1_1 d1_2 d1_3 d1_4 d1_5 d1_6
            obtain ⟨d2_0, d2_1, d2_2, d2_3, d2_4, d2_5, d2_6⟩ := at_kind HA2'.out HK.out
            clear c2
            go_wp2_with fail
            refine (F3 _).mono ?_
            rintro e y4 ⟨rfl, rfl⟩
            go_wp2_with fail
            refine (F4 _).mono ?_
            rintro e y5 ⟨rfl, rfl⟩
            go_wp2_with fail
            go_ret
            exact ⟨rfl, HB2'.out⟩
          | true =>
            cases b5 with
            | false =>
              simp only [Bool.true_and]
              go_enter Try.func31, Try.ntmps31
              go_wp2_with fail
              refine (K _).mono ?_
              rintro e y0 ⟨rfl, rfl⟩
              go_wp2_with fail
              refine (F0 _).mono ?_
              rintro e y1 ⟨rfl, rfl⟩
              go_wp2_with fail
              refine (F1 _).mono ?_
              rintro e x1 ⟨rfl, c1⟩
              have HA1' : Hid (ThAt nm x1 w.heap.size t) := HA0.out.still c1
              have HB1' : Hid (Below w.heap.size w x1) := HB0.out.trans (c1.mono HB0.out.size)
              obtain ⟨d1_0, d1_1, d1_2, d1_3, d1_4, d1_5, d1_6⟩ := at_kind HA1'.out HK.out
              clear c1
              go_wp2_with fail
              refine (F2 _).mono ?_
              rintro e x2 ⟨rfl, c2⟩
              have HA2' : Hid (ThAt nm x2 w.heap.size t) := HA1'.out.still c2
              have HB2' : Hid (Below w.heap.size w x2) := HB1'.out.trans (c2.mono HB1'.out.size)
              clear d1_0 d1_1 d1_2 d1_3 d1_4 d1_5 d1_6
              obtain ⟨d2_0, d2_1, d2_2, d2_3, d2_4, d2_5, d2_6⟩ := at_kind HA2'.out HK.out
              clear c2
              go_wp2_with fail
              refine (F3 _).mono ?_
              rintro e y4 ⟨rfl, rfl⟩
              go_wp2_with fail
              refine (F4 _).mono ?_
              rintro e y5 ⟨rfl, rfl⟩
              go_wp2_with fail
              refine (F5 _).mono ?_
              rintro e y6 ⟨rfl, rfl⟩
              go_wp2_with fail
              go_ret
              exact ⟨rfl, HB2'.out⟩
            | true =>
              simp only [Bool.true_and]
              go_enter Try.func31, Try.ntmps31
              go_wp2_with fail
              refine (K _).mono ?_
              rintro e y0 ⟨rfl, rfl⟩
              go_wp2_with fail
              refine (F0 _).mono ?_
              rintro e y1 ⟨rfl, rfl⟩
              go_wp2_with fail
              refine (F1 _).mono ?_
              rintro e x1 ⟨rfl, c1⟩
              have HA1' : Hid (ThAt nm x1 w.heap.size t) := HA0.out.still c1
              have HB1' : Hid (Below w.heap.size w x1) := HB0.out.trans (c1.mono HB0.out.size)
              obtain ⟨d1_0, d1_1, d1_2, d1_3, d1_4, d1_5, d1_6⟩ := at_kind HA1'.out HK.out
              clear c1
              go_wp2_with fail
              refine (F2 _).mono ?_
              rintro e x2 ⟨rfl, c2⟩
              have HA2' : Hid (ThAt nm x2 w.heap.size t) := HA1'.out.still c2
              have HB2' : Hid (Below w.heap.size w x2) := HB1'.out.trans (c2.mono HB1'.out.size)
              clear d1_0 d1_1 d1_2 d1_3 d1_4 d1_5 d1_6
              obtain ⟨d2_0, d2_1, d2_2, d2_3, d2_4, d2_5, d2_6⟩ := at_kind HA2'.out HK.out
              clear c2
              go_wp2_with fail
              refine (F3 _).mono ?_
              rintro e y4 ⟨rfl, rfl⟩
              go_wp2_with fail
              refine (F4 _).mono ?_
              rintro e y5 ⟨rfl, rfl⟩
              go_wp2_with fail
              refine (F5 _).mono ?_
              rintro e y6 ⟨rfl, rfl⟩
              go_wp2_with fail
              go_ret
              exact ⟨rfl, HB2'.out⟩
set_option maxRecDepth 100000 in
set_option maxHeartbeats 8000000 in
theorem refRight_2 (t : ThP) (w : World) (hk : t.2 0 = 2) (z2 : (t.1 2).size ≤ 300) :
    Calls Try.prog 31 #[.agg #[.int .i64 (t.2 0), .int .i64 (t.2 1), .string (t.1 2), .string (t.1 3), .int .i64 (t.2 4), .int .i64 (t.2 5), .int .i64 (t.2 6)]] w fun e w' => e = .returned (.bool (inB (t.2 1) 1 1099511627776 && (vldB (t.1 2) && ((t.1 3).toList.isEmpty && ((t.2 4 == 0) && ((t.2 5 == 0) && (t.2 6 == 0))))))) ∧ Below w.heap.size w w' := by
  have HB0 : Hid (Below w.heap.size w (refBox w t)) := refBox_below w t
  have HA0 : Hid (ThAt nm (refBox w t) w.heap.size t) := refBox_at w t
  have K := refKind_in 2 true (by decide)
  have F0 := refIn_at (t.2 1) 1 1099511627776
  have F1 := fun w => refValid_any (t.1 2) w z2
  have HK : Hid (t.2 0 = 2) := hk
  unfold refBox at HB0 HA0
  rw [hk] at HB0 HA0 ⊢
  obtain ⟨b0, h0⟩ : ∃ b, inB (t.2 1) 1 1099511627776 = b := ⟨_, rfl⟩
  rw [h0] at F0 ⊢
  obtain ⟨b1, h1⟩ : ∃ b, vldB (t.1 2) = b := ⟨_, rfl⟩
  rw [h1] at F1 ⊢
  obtain ⟨b2, h2⟩ : ∃ b, (t.1 3).toList.isEmpty = b := ⟨_, rfl⟩
  rw [h2]
  obtain ⟨b3, h3⟩ : ∃ b, (t.2 4 == 0) = b := ⟨_, rfl⟩
  rw [h3]
  obtain ⟨b4, h4⟩ : ∃ b, (t.2 5 == 0) = b := ⟨_, rfl⟩
  rw [h4]
  obtain ⟨b5, h5⟩ : ∃ b, (t.2 6 == 0) = b := ⟨_, rfl⟩
  rw [h5]
  clear hk h0 h1 z2
  cases b0 with
  | false =>
    simp only [Bool.false_and]
    go_enter Try.func31, Try.ntmps31
    go_wp2_with fail
    refine (K _).mono ?_
    rintro e y0 ⟨rfl, rfl⟩
    go_wp2_with fail
    refine (F0 _).mono ?_
    rintro e y1 ⟨rfl, rfl⟩
    go_wp2_with fail
    go_ret
    exact ⟨rfl, HB0.out⟩
  | true =>
    cases b1 with
    | false =>
      simp only [Bool.true_and, Bool.false_and]
      go_enter Try.func31, Try.ntmps31
      go_wp2_with fail
      refine (K _).mono ?_
      rintro e y0 ⟨rfl, rfl⟩
      go_wp2_with fail
      refine (F0 _).mono ?_
      rintro e y1 ⟨rfl, rfl⟩
      go_wp2_with fail
      refine (F1 _).mono ?_
      rintro e x1 ⟨rfl, c1⟩
      have HA1' : Hid (ThAt nm x1 w.heap.size t) := HA0.out.still c1
      have HB1' : Hid (Below w.heap.size w x1) := HB0.out.trans (c1.mono HB0.out.size)
      obtain ⟨d1_0, d1_1, d1_2, d1_3, d1_4, d1_5, d1_6⟩ := at_kind HA1'.out HK.out
      clear c1
      go_wp2_with fail
      go_ret
      exact ⟨rfl, HB1'.out⟩
    | true =>
      cases b2 with
      | false =>
        simp only [Bool.true_and, Bool.false_and]
        go_enter Try.func31, Try.ntmps31
        go_wp2_with fail
        refine (K _).mono ?_
        rintro e y0 ⟨rfl, rfl⟩
        go_wp2_with fail
        refine (F0 _).mono ?_
        rintro e y1 ⟨rfl, rfl⟩
        go_wp2_with fail
        refine (F1 _).mono ?_
        rintro e x1 ⟨rfl, c1⟩
        have HA1' : Hid (ThAt nm x1 w.heap.size t) := HA0.out.still c1
        have HB1' : Hid (Below w.heap.size w x1) := HB0.out.trans (c1.mono HB0.out.size)
        obtain ⟨d1_0, d1_1, d1_2, d1_3, d1_4, d1_5, d1_6⟩ := at_kind HA1'.out HK.out
        clear c1
        go_wp2_with fail
        go_ret
        exact ⟨rfl, HB1'.out⟩
      | true =>
        cases b3 with
        | false =>
          simp only [Bool.true_and, Bool.false_and]
          go_enter Try.func31, Try.ntmps31
          go_wp2_with fail
          refine (K _).mono ?_
          rintro e y0 ⟨rfl, rfl⟩
          go_wp2_with fail
          refine (F0 _).mono ?_
          rintro e y1 ⟨rfl, rfl⟩
          go_wp2_with fail
          refine (F1 _).mono ?_
          rintro e x1 ⟨rfl, c1⟩
          have HA1' : Hid (ThAt nm x1 w.heap.size t) := HA0.out.still c1
          have HB1' : Hid (Below w.heap.size w x1) := HB0.out.trans (c1.mono HB0.out.size)
          obtain ⟨d1_0, d1_1, d1_2, d1_3, d1_4, d1_5, d1_6⟩ := at_kind HA1'.out HK.out
          clear c1
          go_wp2_with fail
          go_ret
          exact ⟨rfl, HB1'.out⟩
        | true =>
          cases b4 with
          | false =>
            simp only [Bool.true_and, Bool.false_and]
            go_enter Try.func31, Try.ntmps31
            go_wp2_with fail
            refine (K _).mono ?_
            rintro e y0 ⟨rfl, rfl⟩
            go_wp2_with fail
            refine (F0 _).mono ?_
            rintro e y1 ⟨rfl, rfl⟩
            go_wp2_with fail
            refine (F1 _).mono ?_
            rintro e x1 ⟨rfl, c1⟩
            have HA1' : Hid (ThAt nm x1 w.heap.size t) := HA0.out.still c1
            have HB1' : Hid (Below w.heap.size w x1) := HB0.out.trans (c1.mono HB0.out.size)
            obtain ⟨d1_0, d1_1, d1_2, d1_3, d1_4, d1_5, d1_6⟩ := at_kind HA1'.out HK.out
            clear c1
            go_wp2_with fail
            go_ret
            exact ⟨rfl, HB1'.out⟩
          | true =>
            cases b5 with
            | false =>
              simp only [Bool.true_and]
              go_enter Try.func31, Try.ntmps31
              go_wp2_with fail
              refine (K _).mono ?_
              rintro e y0 ⟨rfl, rfl⟩
              go_wp2_with fail
              refine (F0 _).mono ?_
              rintro e y1 ⟨rfl, rfl⟩
              go_wp2_with fail
              refine (F1 _).mono ?_
              rintro e x1 ⟨rfl, c1⟩
              have HA1' : Hid (ThAt nm x1 w.heap.size t) := HA0.out.still c1
              have HB1' : Hid (Below w.heap.size w x1) := HB0.out.trans (c1.mono HB0.out.size)
              obtain ⟨d1_0, d1_1, d1_2, d1_3, d1_4, d1_5, d1_6⟩ := at_kind HA1'.out HK.out
              clear c1
              go_wp2_with fail
              go_ret
              exact ⟨rfl, HB1'.out⟩
            | true =>
              simp only [Bool.true_and]
              go_enter Try.func31, Try.ntmps31
              go_wp2_with fail
              refine (K _).mono ?_
              rintro e y0 ⟨rfl, rfl⟩
              go_wp2_with fail
              refine (F0 _).mono ?_
              rintro e y1 ⟨rfl, rfl⟩
              go_wp2_with fail
              refine (F1 _).mono ?_
              rintro e x1 ⟨rfl, c1⟩
              have HA1' : Hid (ThAt nm x1 w.heap.size t) := HA0.out.still c1
              have HB1' : Hid (Below w.heap.size w x1) := HB0.out.trans (c1.mono HB0.out.size)
              obtain ⟨d1_0, d1_1, d1_2, d1_3, d1_4, d1_5, d1_6⟩ := at_kind HA1'.out HK.out
              clear c1
              go_wp2_with fail
              go_ret
              exact ⟨rfl, HB1'.out⟩
set_option maxRecDepth 100000 in
set_option maxHeartbeats 8000000 in
theorem refRight_3 (t : ThP) (w : World) (hk : t.2 0 = 3) (z2 : (t.1 2).size ≤ 300) :
    Calls Try.prog 31 #[.agg #[.int .i64 (t.2 0), .int .i64 (t.2 1), .string (t.1 2), .string (t.1 3), .int .i64 (t.2 4), .int .i64 (t.2 5), .int .i64 (t.2 6)]] w fun e w' => e = .returned (.bool (inB (t.2 1) 1 1099511627776 && (vldB (t.1 2) && ((t.1 3).toList.isEmpty && ((t.2 4 == 0) && (inB (t.2 5) 1 1099511627776 && inB (t.2 6) 1 1099511627776)))))) ∧ Below w.heap.size w w' := by
  have HB0 : Hid (Below w.heap.size w (refBox w t)) := refBox_below w t
  have HA0 : Hid (ThAt nm (refBox w t) w.heap.size t) := refBox_at w t
  have K := refKind_in 3 true (by decide)
  have F0 := refIn_at (t.2 1) 1 1099511627776
  have F1 := fun w => refValid_any (t.1 2) w z2
  have F4 := refIn_at (t.2 5) 1 1099511627776
  have F5 := refIn_at (t.2 6) 1 1099511627776
  have HK : Hid (t.2 0 = 3) := hk
  unfold refBox at HB0 HA0
  rw [hk] at HB0 HA0 ⊢
  obtain ⟨b0, h0⟩ : ∃ b, inB (t.2 1) 1 1099511627776 = b := ⟨_, rfl⟩
  rw [h0] at F0 ⊢
  obtain ⟨b1, h1⟩ : ∃ b, vldB (t.1 2) = b := ⟨_, rfl⟩
  rw [h1] at F1 ⊢
  obtain ⟨b2, h2⟩ : ∃ b, (t.1 3).toList.isEmpty = b := ⟨_, rfl⟩
  rw [h2]
  obtain ⟨b3, h3⟩ : ∃ b, (t.2 4 == 0) = b := ⟨_, rfl⟩
  rw [h3]
  obtain ⟨b4, h4⟩ : ∃ b, inB (t.2 5) 1 1099511627776 = b := ⟨_, rfl⟩
  rw [h4] at F4 ⊢
  obtain ⟨b5, h5⟩ : ∃ b, inB (t.2 6) 1 1099511627776 = b := ⟨_, rfl⟩
  rw [h5] at F5 ⊢
  clear hk h0 h1 h4 h5 z2
  cases b0 with
  | false =>
    simp only [Bool.false_and]
    go_enter Try.func31, Try.ntmps31
    go_wp2_with fail
    refine (K _).mono ?_
    rintro e y0 ⟨rfl, rfl⟩
    go_wp2_with fail
    refine (F0 _).mono ?_
    rintro e y1 ⟨rfl, rfl⟩
    go_wp2_with fail
    go_ret
    exact ⟨rfl, HB0.out⟩
  | true =>
    cases b1 with
    | false =>
      simp only [Bool.true_and, Bool.false_and]
      go_enter Try.func31, Try.ntmps31
      go_wp2_with fail
      refine (K _).mono ?_
      rintro e y0 ⟨rfl, rfl⟩
      go_wp2_with fail
      refine (F0 _).mono ?_
      rintro e y1 ⟨rfl, rfl⟩
      go_wp2_with fail
      refine (F1 _).mono ?_
      rintro e x1 ⟨rfl, c1⟩
      have HA1' : Hid (ThAt nm x1 w.heap.size t) := HA0.out.still c1
      have HB1' : Hid (Below w.heap.size w x1) := HB0.out.trans (c1.mono HB0.out.size)
      obtain ⟨d1_0, d1_1, d1_2, d1_3, d1_4, d1_5, d1_6⟩ := at_kind HA1'.out HK.out
      clear c1
      go_wp2_with fail
      go_ret
      exact ⟨rfl, HB1'.out⟩
    | true =>
      cases b2 with
      | false =>
        simp only [Bool.true_and, Bool.false_and]
        go_enter Try.func31, Try.ntmps31
        go_wp2_with fail
        refine (K _).mono ?_
        rintro e y0 ⟨rfl, rfl⟩
        go_wp2_with fail
        refine (F0 _).mono ?_
        rintro e y1 ⟨rfl, rfl⟩
        go_wp2_with fail
        refine (F1 _).mono ?_
        rintro e x1 ⟨rfl, c1⟩
        have HA1' : Hid (ThAt nm x1 w.heap.size t) := HA0.out.still c1
        have HB1' : Hid (Below w.heap.size w x1) := HB0.out.trans (c1.mono HB0.out.size)
        obtain ⟨d1_0, d1_1, d1_2, d1_3, d1_4, d1_5, d1_6⟩ := at_kind HA1'.out HK.out
        clear c1
        go_wp2_with fail
        go_ret
        exact ⟨rfl, HB1'.out⟩
      | true =>
        cases b3 with
        | false =>
          simp only [Bool.true_and, Bool.false_and]
          go_enter Try.func31, Try.ntmps31
          go_wp2_with fail
          refine (K _).mono ?_
          rintro e y0 ⟨rfl, rfl⟩
          go_wp2_with fail
          refine (F0 _).mono ?_
          rintro e y1 ⟨rfl, rfl⟩
          go_wp2_with fail
          refine (F1 _).mono ?_
          rintro e x1 ⟨rfl, c1⟩
          have HA1' : Hid (ThAt nm x1 w.heap.size t) := HA0.out.still c1
          have HB1' : Hid (Below w.heap.size w x1) := HB0.out.trans (c1.mono HB0.out.size)
          obtain ⟨d1_0, d1_1, d1_2, d1_3, d1_4, d1_5, d1_6⟩ := at_kind HA1'.out HK.out
          clear c1
          go_wp2_with fail
          go_ret
          exact ⟨rfl, HB1'.out⟩
        | true =>
          cases b4 with
          | false =>
            simp only [Bool.true_and, Bool.false_and]
            go_enter Try.func31, Try.ntmps31
            go_wp2_with fail
            refine (K _).mono ?_
            rintro e y0 ⟨rfl, rfl⟩
            go_wp2_with fail
            refine (F0 _).mono ?_
            rintro e y1 ⟨rfl, rfl⟩
            go_wp2_with fail
            refine (F1 _).mono ?_
            rintro e x1 ⟨rfl, c1⟩
            have HA1' : Hid (ThAt nm x1 w.heap.size t) := HA0.out.still c1
            have HB1' : Hid (Below w.heap.size w x1) := HB0.out.trans (c1.mono HB0.out.size)
            obtain ⟨d1_0, d1_1, d1_2, d1_3, d1_4, d1_5, d1_6⟩ := at_kind HA1'.out HK.out
            clear c1
            go_wp2_with fail
            refine (F4 _).mono ?_
            rintro e y5 ⟨rfl, rfl⟩
            go_wp2_with fail
            go_ret
            exact ⟨rfl, HB1'.out⟩
          | true =>
            cases b5 with
            | false =>
              simp only [Bool.true_and]
              go_enter Try.func31, Try.ntmps31
              go_wp2_with fail
              refine (K _).mono ?_
              rintro e y0 ⟨rfl, rfl⟩
              go_wp2_with fail
              refine (F0 _).mono ?_
              rintro e y1 ⟨rfl, rfl⟩
              go_wp2_with fail
              refine (F1 _).mono ?_
              rintro e x1 ⟨rfl, c1⟩
              have HA1' : Hid (ThAt nm x1 w.heap.size t) := HA0.out.still c1
              have HB1' : Hid (Below w.heap.size w x1) := HB0.out.trans (c1.mono HB0.out.size)
              obtain ⟨d1_0, d1_1, d1_2, d1_3, d1_4, d1_5, d1_6⟩ := at_kind HA1'.out HK.out
              clear c1
              go_wp2_with fail
              refine (F4 _).mono ?_
              rintro e y5 ⟨rfl, rfl⟩
              go_wp2_with fail
              refine (F5 _).mono ?_
              rintro e y6 ⟨rfl, rfl⟩
              go_wp2_with fail
              go_ret
              exact ⟨rfl, HB1'.out⟩
            | true =>
              simp only [Bool.true_and]
              go_enter Try.func31, Try.ntmps31
              go_wp2_with fail
              refine (K _).mono ?_
              rintro e y0 ⟨rfl, rfl⟩
              go_wp2_with fail
              refine (F0 _).mono ?_
              rintro e y1 ⟨rfl, rfl⟩
              go_wp2_with fail
              refine (F1 _).mono ?_
              rintro e x1 ⟨rfl, c1⟩
              have HA1' : Hid (ThAt nm x1 w.heap.size t) := HA0.out.still c1
              have HB1' : Hid (Below w.heap.size w x1) := HB0.out.trans (c1.mono HB0.out.size)
              obtain ⟨d1_0, d1_1, d1_2, d1_3, d1_4, d1_5, d1_6⟩ := at_kind HA1'.out HK.out
              clear c1
              go_wp2_with fail
              refine (F4 _).mono ?_
              rintro e y5 ⟨rfl, rfl⟩
              go_wp2_with fail
              refine (F5 _).mono ?_
              rintro e y6 ⟨rfl, rfl⟩
              go_wp2_with fail
              go_ret
              exact ⟨rfl, HB1'.out⟩
end Go.Proofs.Ytlgnbnojjfgfmaa.PP.O
