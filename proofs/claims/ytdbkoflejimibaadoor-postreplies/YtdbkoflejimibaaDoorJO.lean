/-
  The contract of the fourteenth reference's RightReply, a theorem a kind.
-/
import Derived.Deep.RegionHeld3
import Derived.Deep.RegionWith
import Derived.Test.YtdbkoflejimibaaDoorJC
import Derived.Test.YtdbkoflejimibaaDoorGB
import Derived.Test.YtdbkoflejimibaaDoorJN
import Derived.Test.YtdbkoflejimibaaDoorJG
import Derived.Test.YtdbkoflejimibaaDoorGA
namespace Go.Proofs.YtdbkoflejimibaaDoor.PP.R
open Go.ChangeShapes Go.WideShapes Go.ChangeAt Go.RowKit Go.Lib

/-- A number lies within two ends. -/
def inB (n lo hi : Int) : Bool := decide (lo ≤ n ∧ n ≤ hi)
set_option maxHeartbeats 1000000 in
theorem refIn_at (n lo hi : Int) (w : World) : Calls Tryd.prog 24 #[.int .i64 n, .int .i64 lo, .int .i64 hi] w fun e w' => e = .returned (.bool (inB n lo hi)) ∧ w = w' := by
  unfold inB
  by_cases h1 : lo ≤ n
  · by_cases h2 : n ≤ hi
    · rw [decide_eq_true ⟨h1, h2⟩]
      go_enter Tryd.func24, Tryd.ntmps24
      go_wp2
      go_ret
      exact ⟨rfl, rfl⟩
    · rw [decide_eq_false (fun h => h2 h.2)]
      go_enter Tryd.func24, Tryd.ntmps24
      go_wp2
      go_ret
      exact ⟨rfl, rfl⟩
  · rw [decide_eq_false (fun h => h1 h.1)]
    go_enter Tryd.func24, Tryd.ntmps24
    go_wp2
    go_ret
    exact ⟨rfl, rfl⟩
/-- A block that holds the reference's. -/
abbrev refBox (w : World) (t : ThP) : World := w.alloc (.cells #[.int .i64 (t.2 0), .int .i64 (t.2 1), .string (t.1 2), .string (t.1 3), .int .i64 (t.2 4), .int .i64 (t.2 5), .string (t.1 6)] 38)
theorem refBox_below (w : World) (t : ThP) : Below w.heap.size w (refBox w t) := (Below.refl _ w).alloc (Nat.le_refl _) _
theorem refBox_at (w : World) (t : ThP) : ThAt nm (refBox w t) w.heap.size t := by
  refine ⟨fun j hj => ?_, fun j => by simp⟩
  rcases (show j = 0 ∨ j = 1 ∨ j = 2 ∨ j = 3 ∨ j = 4 ∨ j = 5 ∨ j = 6 by omega) with rfl | rfl | rfl | rfl | rfl | rfl | rfl <;> simp [cellT, nm]
theorem at_kind {w : World} {b : Nat} {t : ThP} {k : Int} (h : ThAt nm w b t) (hk : t.2 0 = k) : w.cell? ⟨b, 0, none⟩ = some (.int .i64 k) ∧ w.cell? ⟨b, 1, none⟩ = some (.int .i64 (t.2 1)) ∧ w.cell? ⟨b, 2, none⟩ = some (.string (t.1 2)) ∧ w.cell? ⟨b, 3, none⟩ = some (.string (t.1 3)) ∧ w.cell? ⟨b, 4, none⟩ = some (.int .i64 (t.2 4)) ∧ w.cell? ⟨b, 5, none⟩ = some (.int .i64 (t.2 5)) ∧ w.cell? ⟨b, 6, none⟩ = some (.string (t.1 6)) := by
  subst hk
  exact ThAt.all h
theorem refKind_in (k : Int) (b : Bool) (h : inB k 1 7 = b) (w : World) : Calls Tryd.prog 24 #[.int .i64 k, .int .i64 1, .int .i64 7] w fun e w' => e = .returned (.bool b) ∧ w = w' := by
  rw [← h]
  exact refIn_at k 1 7 w
set_option maxHeartbeats 4000000 in
theorem refRight_none (t : ThP) (w : World) (hk : inB (t.2 0) 1 7 = false) :
    Calls Tryd.prog 15 #[.agg #[.int .i64 (t.2 0), .int .i64 (t.2 1), .string (t.1 2), .string (t.1 3), .int .i64 (t.2 4), .int .i64 (t.2 5), .string (t.1 6)]] w fun e w' => e = .returned (.bool false) ∧ Below w.heap.size w w' := by
  have HB0 : Hid (Below w.heap.size w (refBox w t)) := refBox_below w t
  have K := refKind_in _ _ hk
  clear hk
  go_enter Tryd.func15, Tryd.ntmps15
  go_wp2_with fail
  refine (K _).mono ?_
  rintro e w1 ⟨rfl, rfl⟩
  go_wp2_with fail
  go_ret
  exact ⟨rfl, HB0.out⟩
set_option maxRecDepth 100000 in
set_option maxHeartbeats 8000000 in
theorem refRight_7 (t : ThP) (w : World) (hk : t.2 0 = 7) (z2 : (t.1 2).size ≤ 300) :
    Calls Tryd.prog 15 #[.agg #[.int .i64 (t.2 0), .int .i64 (t.2 1), .string (t.1 2), .string (t.1 3), .int .i64 (t.2 4), .int .i64 (t.2 5), .string (t.1 6)]] w fun e w' => e = .returned (.bool (inB (t.2 1) 1 1099511627776 && (vldB (t.1 2) && ((t.1 3).toList.isEmpty && ((t.1 6).toList.isEmpty && ((t.2 4 == 0) && (t.2 5 == 0))))))) ∧ Below w.heap.size w w' := by
  have HB0 : Hid (Below w.heap.size w (refBox w t)) := refBox_below w t
  have HA0 : Hid (ThAt nm (refBox w t) w.heap.size t) := refBox_at w t
  have K := refKind_in 7 true (by decide)
  have F0 := refIn_at (t.2 1) 1 1099511627776
  have F1 := fun w => refValid_any (t.1 2) w z2
  have HK : Hid (t.2 0 = 7) := hk
  unfold refBox at HB0 HA0
  rw [hk] at HB0 HA0 ⊢
  obtain ⟨b0, h0⟩ : ∃ b, inB (t.2 1) 1 1099511627776 = b := ⟨_, rfl⟩
  rw [h0] at F0 ⊢
  obtain ⟨b1, h1⟩ : ∃ b, vldB (t.1 2) = b := ⟨_, rfl⟩
  rw [h1] at F1 ⊢
  obtain ⟨b2, h2⟩ : ∃ b, (t.1 3).toList.isEmpty = b := ⟨_, rfl⟩
  rw [h2]
  obtain ⟨b3, h3⟩ : ∃ b, (t.1 6).toList.isEmpty = b := ⟨_, rfl⟩
  rw [h3]
  obtain ⟨b4, h4⟩ : ∃ b, (t.2 4 == 0) = b := ⟨_, rfl⟩
  rw [h4]
  obtain ⟨b5, h5⟩ : ∃ b, (t.2 5 == 0) = b := ⟨_, rfl⟩
  rw [h5]
  clear hk h0 h1 z2
  cases b0 with
  | false =>
    simp only [Bool.false_and]
    go_enter Tryd.func15, Tryd.ntmps15
    go_wp2_with fail
    refine (K _).mono ?_
    rintro e y0 ⟨rfl, rfl⟩
    go_wp2_with fail
    refine (F0 _).mono ?_
    rintro e y1 ⟨rfl, rfl⟩
    go_wp2_with fail
    go_ret
    exact ⟨rfl, HB0.out⟩
  | true =>
    cases b1 with
    | false =>
      simp only [Bool.true_and, Bool.false_and]
      go_enter Tryd.func15, Tryd.ntmps15
      go_wp2_with fail
      refine (K _).mono ?_
      rintro e y0 ⟨rfl, rfl⟩
      go_wp2_with fail
      refine (F0 _).mono ?_
      rintro e y1 ⟨rfl, rfl⟩
      go_wp2_with fail
      refine (F1 _).mono ?_
      rintro e x1 ⟨rfl, c1⟩
      have HA1' : Hid (ThAt nm x1 w.heap.size t) := HA0.out.still c1
      have HB1' : Hid (Below w.heap.size w x1) := HB0.out.trans (c1.mono HB0.out.size)
      obtain ⟨d1_0, d1_1, d1_2, d1_3, d1_4, d1_5, d1_6⟩ := at_kind HA1'.out HK.out
      clear c1
      go_wp2_with fail
      go_ret
      exact ⟨rfl, HB1'.out⟩
    | true =>
      cases b2 with
      | false =>
        simp only [Bool.true_and, Bool.false_and]
        go_enter Tryd.func15, Tryd.ntmps15
        go_wp2_with fail
        refine (K _).mono ?_
        rintro e y0 ⟨rfl, rfl⟩
        go_wp2_with fail
        refine (F0 _).mono ?_
        rintro e y1 ⟨rfl, rfl⟩
        go_wp2_with fail
        refine (F1 _).mono ?_
        rintro e x1 ⟨rfl, c1⟩
        have HA1' : Hid (ThAt nm x1 w.heap.size t) := HA0.out.still c1
        have HB1' : Hid (Below w.heap.size w x1) := HB0.out.trans (c1.mono HB0.out.size)
        obtain ⟨d1_0, d1_1, d1_2, d1_3, d1_4, d1_5, d1_6⟩ := at_kind HA1'.out HK.out
        clear c1
        go_wp2_with fail
        go_ret
        exact ⟨rfl, HB1'.out⟩
      | true =>
        cases b3 with
        | false =>
          simp only [Bool.true_and, Bool.false_and]
          go_enter Tryd.func15, Tryd.ntmps15
          go_wp2_with fail
          refine (K _).mono ?_
          rintro e y0 ⟨rfl, rfl⟩
          go_wp2_with fail
          refine (F0 _).mono ?_
          rintro e y1 ⟨rfl, rfl⟩
          go_wp2_with fail
          refine (F1 _).mono ?_
          rintro e x1 ⟨rfl, c1⟩
          have HA1' : Hid (ThAt nm x1 w.heap.size t) := HA0.out.still c1
          have HB1' : Hid (Below w.heap.size w x1) := HB0.out.trans (c1.mono HB0.out.size)
          obtain ⟨d1_0, d1_1, d1_2, d1_3, d1_4, d1_5, d1_6⟩ := at_kind HA1'.out HK.out
          clear c1
          go_wp2_with fail
          go_ret
          exact ⟨rfl, HB1'.out⟩
        | true =>
          cases b4 with
          | false =>
            simp only [Bool.true_and, Bool.false_and]
            go_enter Tryd.func15, Tryd.ntmps15
            go_wp2_with fail
            refine (K _).mono ?_
            rintro e y0 ⟨rfl, rfl⟩
            go_wp2_with fail
            refine (F0 _).mono ?_
            rintro e y1 ⟨rfl, rfl⟩
            go_wp2_with fail
            refine (F1 _).mono ?_
            rintro e x1 ⟨rfl, c1⟩
            have HA1' : Hid (ThAt nm x1 w.heap.size t) := HA0.out.still c1
            have HB1' : Hid (Below w.heap.size w x1) := HB0.out.trans (c1.mono HB0.out.size)
            obtain ⟨d1_0, d1_1, d1_2, d1_3, d1_4, d1_5, d1_6⟩ := at_kind HA1'.out HK.out
            clear c1
            go_wp2_with fail
            go_ret
            exact ⟨rfl, HB1'.out⟩
          | true =>
            cases b5 with
            | false =>
              simp only [Bool.true_and]
              go_enter Tryd.func15, Tryd.ntmps15
              go_wp2_with fail
              refine (K _).mono ?_
              rintro e y0 ⟨rfl, rfl⟩
              go_wp2_with fail
              refine (F0 _).mono ?_
              rintro e y1 ⟨rfl, rfl⟩
              go_wp2_with fail
              refine (F1 _).mono ?_
              rintro e x1 ⟨rfl, c1⟩
              have HA1' : Hid (ThAt nm x1 w.heap.size t) := HA0.out.still c1
              have HB1' : Hid (Below w.heap.size w x1) := HB0.out.trans (c1.mono HB0.out.size)
              obtain ⟨d1_0, d1_1, d1_2, d1_3, d1_4, d1_5, d1_6⟩ := at_kind HA1'.out HK.out
              clear c1
              go_wp2_with fail
              go_ret
              exact ⟨rfl, HB1'.out⟩
            | true =>
              simp only [Bool.true_and]
              go_enter Tryd.func15, Tryd.ntmps15
              go_wp2_with fail
              refine (K _).mono ?_
              rintro e y0 ⟨rfl, rfl⟩
              go_wp2_with fail
              refine (F0 _).mono ?_
              rintro e y1 ⟨rfl, rfl⟩
              go_wp2_with fail
              refine (F1 _).mono ?_
              rintro e x1 ⟨rfl, c1⟩
              have HA1' : Hid (ThAt nm x1 w.heap.size t) := HA0.out.still c1
              have HB1' : Hid (Below w.heap.size w x1) := HB0.out.trans (c1.mono HB0.out.size)
              obtain ⟨d1_0, d1_1, d1_2, d1_3, d1_4, d1_5, d1_6⟩ := at_kind HA1'.out HK.out
              clear c1
              go_wp2_with fail
              go_ret
              exact ⟨rfl, HB1'.out⟩
set_option maxRecDepth 100000 in
set_option maxHeartbeats 8000000 in
theorem refRight_6 (t : ThP) (w : World) (hk : t.2 0 = 6) (z2 : (t.1 2).size ≤ 300) (z3 : (t.1 3).size ≤ 300) (z6 : (t.1 6).size ≤ 300) :
    Calls Tryd.prog 15 #[.agg #[.int .i64 (t.2 0), .int .i64 (t.2 1), .string (t.1 2), .string (t.1 3), .int .i64 (t.2 4), .int .i64 (t.2 5), .string (t.1 6)]] w fun e w' => e = .returned (.bool (inB (t.2 1) 1 1099511627776 && (vldB (t.1 2) && (vldB (t.1 3) && (vldB (t.1 6) && ((t.2 4 == 0) && (t.2 5 == 0))))))) ∧ Below w.heap.size w w' := by
  have HB0 : Hid (Below w.heap.size w (refBox w t)) := refBox_below w t
  have HA0 : Hid (ThAt nm (refBox w t) w.heap.size t) := refBox_at w t
  have K := refKind_in 6 true (by decide)
  have F0 := refIn_at (t.2 1) 1 1099511627776
  have F1 := fun w => refValid_any (t.1 2) w z2
  have F2 := fun w => refValid_any (t.1 3) w z3
  have F3 := fun w => refValid_any (t.1 6) w z6
  have HK : Hid (t.2 0 = 6) := hk
  unfold refBox at HB0 HA0
  rw [hk] at HB0 HA0 ⊢
  obtain ⟨b0, h0⟩ : ∃ b, inB (t.2 1) 1 1099511627776 = b := ⟨_, rfl⟩
  rw [h0] at F0 ⊢
  obtain ⟨b1, h1⟩ : ∃ b, vldB (t.1 2) = b := ⟨_, rfl⟩
  rw [h1] at F1 ⊢
  obtain ⟨b2, h2⟩ : ∃ b, vldB (t.1 3) = b := ⟨_, rfl⟩
  rw [h2] at F2 ⊢
  obtain ⟨b3, h3⟩ : ∃ b, vldB (t.1 6) = b := ⟨_, rfl⟩
  rw [h3] at F3 ⊢
  obtain ⟨b4, h4⟩ : ∃ b, (t.2 4 == 0) = b := ⟨_, rfl⟩
  rw [h4]
  obtain ⟨b5, h5⟩ : ∃ b, (t.2 5 == 0) = b := ⟨_, rfl⟩
  rw [h5]
  clear hk h0 h1 h2 h3 z2 z3 z6
  cases b0 with
  | false =>
    simp only [Bool.false_and]
    go_enter Tryd.func15, Tryd.ntmps15
    go_wp2_with fail
    refine (K _).mono ?_
    rintro e y0 ⟨rfl, rfl⟩
    go_wp2_with fail
    refine (F0 _).mono ?_
    rintro e y1 ⟨rfl, rfl⟩
    go_wp2_with fail
    go_ret
    exact ⟨rfl, HB0.out⟩
  | true =>
    cases b1 with
    | false =>
      simp only [Bool.true_and, Bool.false_and]
      go_enter Tryd.func15, Tryd.ntmps15
      go_wp2_with fail
      refine (K _).mono ?_
      rintro e y0 ⟨rfl, rfl⟩
      go_wp2_with fail
      refine (F0 _).mono ?_
      rintro e y1 ⟨rfl, rfl⟩
      go_wp2_with fail
      refine (F1 _).mono ?_
      rintro e x1 ⟨rfl, c1⟩
      have HA1' : Hid (ThAt nm x1 w.heap.size t) := HA0.out.still c1
      have HB1' : Hid (Below w.heap.size w x1) := HB0.out.trans (c1.mono HB0.out.size)
      obtain ⟨d1_0, d1_1, d1_2, d1_3, d1_4, d1_5, d1_6⟩ := at_kind HA1'.out HK.out
      clear c1
      go_wp2_with fail
      go_ret
      exact ⟨rfl, HB1'.out⟩
    | true =>
      cases b2 with
      | false =>
        simp only [Bool.true_and, Bool.false_and]
        go_enter Tryd.func15, Tryd.ntmps15
        go_wp2_with fail
        refine (K _).mono ?_
        rintro e y0 ⟨rfl, rfl⟩
        go_wp2_with fail
        refine (F0 _).mono ?_
        rintro e y1 ⟨rfl, rfl⟩
        go_wp2_with fail
        refine (F1 _).mono ?_
        rintro e x1 ⟨rfl, c1⟩
        have HA1' : Hid (ThAt nm x1 w.heap.size t) := HA0.out.still c1
        have HB1' : Hid (Below w.heap.size w x1) := HB0.out.trans (c1.mono HB0.out.size)
        obtain ⟨d1_0, d1_1, d1_2, d1_3, d1_4, d1_5, d1_6⟩ := at_kind HA1'.out HK.out
        clear c1
        go_wp2_with fail
        refine (F2 _).mono ?_
        rintro e x2 ⟨rfl, c2⟩
        have HA2' : Hid (ThAt nm x2 w.heap.size t) := HA1'.out.still c2
        have HB2' : Hid (Below w.heap.size w x2) := HB1'.out.trans (c2.mono HB1'.out.size)
        clear d1_0 d1_1 d1_2 d1_3 d1_4 d1_5 d1_6
        obtain ⟨d2_0, d2_1, d2_2, d2_3, d2_4, d2_5, d2_6⟩ := at_kind HA2'.out HK.out
        clear c2
        go_wp2_with fail
        go_ret
        exact ⟨rfl, HB2'.out⟩
      | true =>
        cases b3 with
        | false =>
          simp only [Bool.true_and, Bool.false_and]
          go_enter Tryd.func15, Tryd.ntmps15
          go_wp2_with fail
          refine (K _).mono ?_
          rintro e y0 ⟨rfl, rfl⟩
          go_wp2_with fail
          refine (F0 _).mono ?_
          rintro e y1 ⟨rfl, rfl⟩
          go_wp2_with fail
          refine (F1 _).mono ?_
          rintro e x1 ⟨rfl, c1⟩
          have HA1' : Hid (ThAt nm x1 w.heap.size t) := HA0.out.still c1
          have HB1' : Hid (Below w.heap.size w x1) := HB0.out.trans (c1.mono HB0.out.size)
          obtain ⟨d1_0, d1_1, d1_2, d1_3, d1_4, d1_5, d1_6⟩ := at_kind HA1'.out HK.out
          clear c1
          go_wp2_with fail
          refine (F2 _).mono ?_
          rintro e x2 ⟨rfl, c2⟩
          have HA2' : Hid (ThAt nm x2 w.heap.size t) := HA1'.out.still c2
          have HB2' : Hid (Below w.heap.size w x2) := HB1'.out.trans (c2.mono HB1'.out.size)
          clear d1_0 d1_1 d1_2 d1_3 d1_4 d1_5 d1_6
          obtain ⟨d2_0, d2_1, d2_2, d2_3, d2_4, d2_5, d2_6⟩ := at_kind HA2'.out HK.out
          clear c2
          go_wp2_with fail
          refine (F3 _).mono ?_
          rintro e x3 ⟨rfl, c3⟩
          have HA3' : Hid (ThAt nm x3 w.heap.size t) := HA2'.out.still c3
          have HB3' : Hid (Below w.heap.size w x3) := HB2'.out.trans (c3.mono HB2'.out.size)
          clear d2_0 d2_1 d2_2 d2_3 d2_4 d2_5 d2_6
          obtain ⟨d3_0, d3_1, d3_2, d3_3, d3_4, d3_5, d3_6⟩ := at_kind HA3'.out HK.out
          clear c3
          go_wp2_with fail
          go_ret
          exact ⟨rfl, HB3'.out⟩
        | true =>
          cases b4 with
          | false =>
            simp only [Bool.true_and, Bool.false_and]
            go_enter Tryd.func15, Tryd.ntmps15
            go_wp2_with fail
            refine (K _).mono ?_
            rintro e y0 ⟨rfl, rfl⟩
            go_wp2_with fail
            refine (F0 _).mono ?_
            rintro e y1 ⟨rfl, rfl⟩
            go_wp2_with fail
            refine (F1 _).mono ?_
            rintro e x1 ⟨rfl, c1⟩
            have HA1' : Hid (ThAt nm x1 w.heap.size t) := HA0.out.still c1
            have HB1' : Hid (Below w.heap.size w x1) := HB0.out.trans (c1.mono HB0.out.size)
            obtain ⟨d1_0, d1_1, d1_2, d1_3, d1_4, d1_5, d1_6⟩ := at_kind HA1'.out HK.out
            clear c1
            go_wp2_with fail
            refine (F2 _).mono ?_
            rintro e x2 ⟨rfl, c2⟩
            have HA2' : Hid (ThAt nm x2 w.heap.size t) := HA1'.out.still c2
            have HB2' : Hid (Below w.heap.size w x2) := HB1'.out.trans (c2.mono HB1'.out.size)
            clear d1_0 d1_1 d1_2 d1_3 d1_4 d1_5 d1_6
            obtain ⟨d2_0, d2_1, d2_2, d2_3, d2_4, d2_5, d2_6⟩ := at_kind HA2'.out HK.out
            clear c2
            go_wp2_with fail
            refine (F3 _).mono ?_
            rintro e x3 ⟨rfl, c3⟩
            have HA3' : Hid (ThAt nm x3 w.heap.size t) := HA2'.out.still c3
            have HB3' : Hid (Below w.heap.size w x3) := HB2'.out.trans (c3.mono HB2'.out.size)
            clear d2_0 d2_1 d2_2 d2_3 d2_4 d2_5 d2_6
            obtain ⟨d3_0, d3_1, d3_2, d3_3, d3_4, d3_5, d3_6⟩ := at_kind HA3'.out HK.out
            clear c3
            go_wp2_with fail
            go_ret
            exact ⟨rfl, HB3'.out⟩
          | true =>
            cases b5 with
            | false =>
              simp only [Bool.true_and]
              go_enter Tryd.func15, Tryd.ntmps15
              go_wp2_with fail
              refine (K _).mono ?_
              rintro e y0 ⟨rfl, rfl⟩
              go_wp2_with fail
              refine (F0 _).mono ?_
              rintro e y1 ⟨rfl, rfl⟩
              go_wp2_with fail
              refine (F1 _).mono ?_
              rintro e x1 ⟨rfl, c1⟩
              have HA1' : Hid (ThAt nm x1 w.heap.size t) := HA0.out.still c1
              have HB1' : Hid (Below w.heap.size w x1) := HB0.out.trans (c1.mono HB0.out.size)
              obtain ⟨d1_0, d1_1, d1_2, d1_3, d1_4, d1_5, d1_6⟩ := at_kind HA1'.out HK.out
              clear c1
              go_wp2_with fail
              refine (F2 _).mono ?_
              rintro e x2 ⟨rfl, c2⟩
              have HA2' : Hid (ThAt nm x2 w.heap.size t) := HA1'.out.still c2
              have HB2' : Hid (Below w.heap.size w x2) := HB1'.out.trans (c2.mono HB1'.out.size)
              clear d1_0 d1_1 d1_2 d1_3 d1_4 d1_5 d1_6
              obtain ⟨d2_0, d2_1, d2_2, d2_3, d2_4, d2_5, d2_6⟩ := at_kind HA2'.out HK.out
              clear c2
              go_wp2_with fail
              refine (F3 _).mono ?_
              rintro e x3 ⟨rfl, c3⟩
              have HA3' : Hid (ThAt nm x3 w.heap.size t) := HA2'.out.still c3
              have HB3' : Hid (Below w.heap.size w x3) := HB2'.out.trans (c3.mono HB2'.out.size)
              clear d2_0 d2_1 d2_2 d2_3 d2_4 d2_5 d2_6
              obtain ⟨d3_0, d3_1, d3_2, d3_3, d3_4, d3_5, d3_6⟩ := at_kind HA3'.out HK.out
              clear c3
              go_wp2_with fail
              go_ret
              exact ⟨rfl, HB3'.out⟩
            | true =>
              simp only [Bool.true_and]
              go_enter Tryd.func15, Tryd.ntmps15
              go_wp2_with fail
              refine (K _).mono ?_
              rintro e y0 ⟨rfl, rfl⟩
              go_wp2_with fail
              refine (F0 _).mono ?_
              rintro e y1 ⟨rfl, rfl⟩
              go_wp2_with fail
              refine (F1 _).mono ?_
              rintro e x1 ⟨rfl, c1⟩
              have HA1' : Hid (ThAt nm x1 w.heap.size t) := HA0.out.still c1
              have HB1' : Hid (Below w.heap.size w x1) := HB0.out.trans (c1.mono HB0.out.size)
              obtain ⟨d1_0, d1_1, d1_2, d1_3, d1_4, d1_5, d1_6⟩ := at_kind HA1'.out HK.out
              clear c1
              go_wp2_with fail
              refine (F2 _).mono ?_
              rintro e x2 ⟨rfl, c2⟩
              have HA2' : Hid (ThAt nm x2 w.heap.size t) := HA1'.out.still c2
              have HB2' : Hid (Below w.heap.size w x2) := HB1'.out.trans (c2.mono HB1'.out.size)
              clear d1_0 d1_1 d1_2 d1_3 d1_4 d1_5 d1_6
              obtain ⟨d2_0, d2_1, d2_2, d2_3, d2_4, d2_5, d2_6⟩ := at_kind HA2'.out HK.out
              clear c2
              go_wp2_with fail
              refine (F3 _).mono ?_
              rintro e x3 ⟨rfl, c3⟩
              have HA3' : Hid (ThAt nm x3 w.heap.size t) := HA2'.out.still c3
              have HB3' : Hid (Below w.heap.size w x3) := HB2'.out.trans (c3.mono HB2'.out.size)
              clear d2_0 d2_1 d2_2 d2_3 d2_4 d2_5 d2_6
              obtain ⟨d3_0, d3_1, d3_2, d3_3, d3_4, d3_5, d3_6⟩ := at_kind HA3'.out HK.out
              clear c3
              go_wp2_with fail
              go_ret
              exact ⟨rfl, HB3'.out⟩
set_option maxRecDepth 100000 in
set_option maxHeartbeats 8000000 in
theorem refRight_5 (t : ThP) (w : World) (hk : t.2 0 = 5) (z2 : (t.1 2).size ≤ 300) (z3 : (t.1 3).size ≤ 300) :
    Calls Tryd.prog 15 #[.agg #[.int .i64 (t.2 0), .int .i64 (t.2 1), .string (t.1 2), .string (t.1 3), .int .i64 (t.2 4), .int .i64 (t.2 5), .string (t.1 6)]] w fun e w' => e = .returned (.bool (inB (t.2 1) 1 1099511627776 && (vldB (t.1 2) && (vldB (t.1 3) && ((t.1 6).toList.isEmpty && (inB (t.2 4) 1 1099511627776 && inB (t.2 5) 1 1099511627776)))))) ∧ Below w.heap.size w w' := by
  have HB0 : Hid (Below w.heap.size w (refBox w t)) := refBox_below w t
  have HA0 : Hid (ThAt nm (refBox w t) w.heap.size t) := refBox_at w t
  have K := refKind_in 5 true (by decide)
  have F0 := refIn_at (t.2 1) 1 1099511627776
  have F1 := fun w => refValid_any (t.1 2) w z2
  have F2 := fun w => refValid_any (t.1 3) w z3
  have F4 := refIn_at (t.2 4) 1 1099511627776
  have F5 := refIn_at (t.2 5) 1 1099511627776
  have HK : Hid (t.2 0 = 5) := hk
  unfold refBox at HB0 HA0
  rw [hk] at HB0 HA0 ⊢
  obtain ⟨b0, h0⟩ : ∃ b, inB (t.2 1) 1 1099511627776 = b := ⟨_, rfl⟩
  rw [h0] at F0 ⊢
  obtain ⟨b1, h1⟩ : ∃ b, vldB (t.1 2) = b := ⟨_, rfl⟩
  rw [h1] at F1 ⊢
  obtain ⟨b2, h2⟩ : ∃ b, vldB (t.1 3) = b := ⟨_, rfl⟩
  rw [h2] at F2 ⊢
  obtain ⟨b3, h3⟩ : ∃ b, (t.1 6).toList.isEmpty = b := ⟨_, rfl⟩
  rw [h3]
  obtain ⟨b4, h4⟩ : ∃ b, inB (t.2 4) 1 1099511627776 = b := ⟨_, rfl⟩
  rw [h4] at F4 ⊢
  obtain ⟨b5, h5⟩ : ∃ b, inB (t.2 5) 1 1099511627776 = b := ⟨_, rfl⟩
  rw [h5] at F5 ⊢
  clear hk h0 h1 h2 h4 h5 z2 z3
  cases b0 with
  | false =>
    simp only [Bool.false_and]
    go_enter Tryd.func15, Tryd.ntmps15
    go_wp2_with fail
    refine (K _).mono ?_
    rintro e y0 ⟨rfl, rfl⟩
    go_wp2_with fail
    refine (F0 _).mono ?_
    rintro e y1 ⟨rfl, rfl⟩
    go_wp2_with fail
    go_ret
    exact ⟨rfl, HB0.out⟩
  | true =>
    cases b1 with
    | false =>
      simp only [Bool.true_and, Bool.false_and]
      go_enter Tryd.func15, Tryd.ntmps15
      go_wp2_with fail
      refine (K _).mono ?_
      rintro e y0 ⟨rfl, rfl⟩
      go_wp2_with fail
      refine (F0 _).mono ?_
      rintro e y1 ⟨rfl, rfl⟩
      go_wp2_with fail
      refine (F1 _).mono ?_
      rintro e x1 ⟨rfl, c1⟩
      have HA1' : Hid (ThAt nm x1 w.heap.size t) := HA0.out.still c1
      have HB1' : Hid (Below w.heap.size w x1) := HB0.out.trans (c1.mono HB0.out.size)
      obtain ⟨d1_0, d1_1, d1_2, d1_3, d1_4, d1_5, d1_6⟩ := at_kind HA1'.out HK.out
      clear c1
      go_wp2_with fail
      go_ret
      exact ⟨rfl, HB1'.out⟩
    | true =>
      cases b2 with
      | false =>
        simp only [Bool.true_and, Bool.false_and]
        go_enter Tryd.func15, Tryd.ntmps15
        go_wp2_with fail
        refine (K _).mono ?_
        rintro e y0 ⟨rfl, rfl⟩
        go_wp2_with fail
        refine (F0 _).mono ?_
        rintro e y1 ⟨rfl, rfl⟩
        go_wp2_with fail
        refine (F1 _).mono ?_
        rintro e x1 ⟨rfl, c1⟩
        have HA1' : Hid (ThAt nm x1 w.heap.size t) := HA0.out.still c1
        have HB1' : Hid (Below w.heap.size w x1) := HB0.out.trans (c1.mono HB0.out.size)
        obtain ⟨d1_0, d1_1, d1_2, d1_3, d1_4, d1_5, d1_6⟩ := at_kind HA1'.out HK.out
        clear c1
        go_wp2_with fail
        refine (F2 _).mono ?_
        rintro e x2 ⟨rfl, c2⟩
        have HA2' : Hid (ThAt nm x2 w.heap.size t) := HA1'.out.still c2
        have HB2' : Hid (Below w.heap.size w x2) := HB1'.out.trans (c2.mono HB1'.out.size)
        clear d1_0 d1_1 d1_2 d1_3 d1_4 d1_5 d1_6
        obtain ⟨d2_0, d2_1, d2_2, d2_3, d2_4, d2_5, d2_6⟩ := at_kind HA2'.out HK.out
        clear c2
        go_wp2_with fail
        go_ret
        exact ⟨rfl, HB2'.out⟩
      | true =>
        cases b3 with
        | false =>
          simp only [Bool.true_and, Bool.false_and]
          go_enter Tryd.func15, Tryd.ntmps15
          go_wp2_with fail
          refine (K _).mono ?_
          rintro e y0 ⟨rfl, rfl⟩
          go_wp2_with fail
          refine (F0 _).mono ?_
          rintro e y1 ⟨rfl, rfl⟩
          go_wp2_with fail
          refine (F1 _).mono ?_
          rintro e x1 ⟨rfl, c1⟩
          have HA1' : Hid (ThAt nm x1 w.heap.size t) := HA0.out.still c1
          have HB1' : Hid (Below w.heap.size w x1) := HB0.out.trans (c1.mono HB0.out.size)
          obtain ⟨d1_0, d1_1, d1_2, d1_3, d1_4, d1_5, d1_6⟩ := at_kind HA1'.out HK.out
          clear c1
          go_wp2_with fail
          refine (F2 _).mono ?_
          rintro e x2 ⟨rfl, c2⟩
          have HA2' : Hid (ThAt nm x2 w.heap.size t) := HA1'.out.still c2
          have HB2' : Hid (Below w.heap.size w x2) := HB1'.out.trans (c2.mono HB1'.out.size)
          clear d1_0 d1_1 d1_2 d1_3 d1_4 d1_5 d1_6
          obtain ⟨d2_0, d2_1, d2_2, d2_3, d2_4, d2_5, d2_6⟩ := at_kind HA2'.out HK.out
          clear c2
          go_wp2_with fail
          go_ret
          exact ⟨rfl, HB2'.out⟩
        | true =>
          cases b4 with
          | false =>
            simp only [Bool.true_and, Bool.false_and]
            go_enter Tryd.func15, Tryd.ntmps15
            go_wp2_with fail
            refine (K _).mono ?_
            rintro e y0 ⟨rfl, rfl⟩
            go_wp2_with fail
            refine (F0 _).mono ?_
            rintro e y1 ⟨rfl, rfl⟩
            go_wp2_with fail
            refine (F1 _).mono ?_
            rintro e x1 ⟨rfl, c1⟩
            have HA1' : Hid (ThAt nm x1 w.heap.size t) := HA0.out.still c1
            have HB1' : Hid (Below w.heap.size w x1) := HB0.out.trans (c1.mono HB0.out.size)
            obtain ⟨d1_0, d1_1, d1_2, d1_3, d1_4, d1_5, d1_6⟩ := at_kind HA1'.out HK.out
            clear c1
            go_wp2_with fail
            refine (F2 _).mono ?_
            rintro e x2 ⟨rfl, c2⟩
            have HA2' : Hid (ThAt nm x2 w.heap.size t) := HA1'.out.still c2
            have HB2' : Hid (Below w.heap.size w x2) := HB1'.out.trans (c2.mono HB1'.out.size)
            clear d1_0 d1_1 d1_2 d1_3 d1_4 d1_5 d1_6
            obtain ⟨d2_0, d2_1, d2_2, d2_3, d2_4, d2_5, d2_6⟩ := at_kind HA2'.out HK.out
            clear c2
            go_wp2_with fail
            refine (F4 _).mono ?_
            rintro e y5 ⟨rfl, rfl⟩
            go_wp2_with fail
            go_ret
            exact ⟨rfl, HB2'.out⟩
          | true =>
            cases b5 with
            | false =>
              simp only [Bool.true_and]
              go_enter Tryd.func15, Tryd.ntmps15
              go_wp2_with fail
              refine (K _).mono ?_
              rintro e y0 ⟨rfl, rfl⟩
              go_wp2_with fail
              refine (F0 _).mono ?_
              rintro e y1 ⟨rfl, rfl⟩
              go_wp2_with fail
              refine (F1 _).mono ?_
              rintro e x1 ⟨rfl, c1⟩
              have HA1' : Hid (ThAt nm x1 w.heap.size t) := HA0.out.still c1
              have HB1' : Hid (Below w.heap.size w x1) := HB0.out.trans (c1.mono HB0.out.size)
              obtain ⟨d1_0, d1_1, d1_2, d1_3, d1_4, d1_5, d1_6⟩ := at_kind HA1'.out HK.out
              clear c1
              go_wp2_with fail
              refine (F2 _).mono ?_
              rintro e x2 ⟨rfl, c2⟩
              have HA2' : Hid (ThAt nm x2 w.heap.size t) := HA1'.out.still c2
              have HB2' : Hid (Below w.heap.size w x2) := HB1'.out.trans (c2.mono HB1'.out.size)
              clear d1_0 d1_1 d1_2 d1_3 d1_4 d1_5 d1_6
              obtain ⟨d2_0, d2_1, d2_2, d2_3, d2_4, d2_5, d2_6⟩ := at_kind HA2'.out HK.out
              clear c2
              go_wp2_with fail
              refine (F4 _).mono ?_
              rintro e y5 ⟨rfl, rfl⟩
              go_wp2_with fail
              refine (F5 _).mono ?_
              rintro e y6 ⟨rfl, rfl⟩
              go_wp2_with fail
              go_ret
              exact ⟨rfl, HB2'.out⟩
            | true =>
              simp only [Bool.true_and]
              go_enter Tryd.func15, Tryd.ntmps15
              go_wp2_with fail
              refine (K _).mono ?_
              rintro e y0 ⟨rfl, rfl⟩
              go_wp2_with fail
              refine (F0 _).mono ?_
              rintro e y1 ⟨rfl, rfl⟩
              go_wp2_with fail
              refine (F1 _).mono ?_
              rintro e x1 ⟨rfl, c1⟩
              have HA1' : Hid (ThAt nm x1 w.heap.size t) := HA0.out.still c1
              have HB1' : Hid (Below w.heap.size w x1) := HB0.out.trans (c1.mono HB0.out.size)
              obtain ⟨d1_0, d1_1, d1_2, d1_3, d1_4, d1_5, d1_6⟩ := at_kind HA1'.out HK.out
              clear c1
              go_wp2_with fail
              refine (F2 _).mono ?_
              rintro e x2 ⟨rfl, c2⟩
              have HA2' : Hid (ThAt nm x2 w.heap.size t) := HA1'.out.still c2
              have HB2' : Hid (Below w.heap.size w x2) := HB1'.out.trans (c2.mono HB1'.out.size)
              clear d1_0 d1_1 d1_2 d1_3 d1_4 d1_5 d1_6
              obtain ⟨d2_0, d2_1, d2_2, d2_3, d2_4, d2_5, d2_6⟩ := at_kind HA2'.out HK.out
              clear c2
              go_wp2_with fail
              refine (F4 _).mono ?_
              rintro e y5 ⟨rfl, rfl⟩
              go_wp2_with fail
              refine (F5 _).mono ?_
              rintro e y6 ⟨rfl, rfl⟩
              go_wp2_with fail
              go_ret
              exact ⟨rfl, HB2'.out⟩
set_option maxRecDepth 100000 in
set_option maxHeartbeats 8000000 in
theorem refRight_k (t : ThP) (w : World) {k : Int} (hk : t.2 0 = k) (t5 : (k == 5) = false) (t6 : (k == 6) = false) (t7 : (k == 7) = false) (hin : inB k 1 7 = true) (z2 : (t.1 2).size ≤ 300) (z3 : (t.1 3).size ≤ 300) :
    Calls Tryd.prog 15 #[.agg #[.int .i64 (t.2 0), .int .i64 (t.2 1), .string (t.1 2), .string (t.1 3), .int .i64 (t.2 4), .int .i64 (t.2 5), .string (t.1 6)]] w fun e w' => e = .returned (.bool (inB (t.2 1) 1 1099511627776 && (vldB (t.1 2) && (vldB (t.1 3) && ((t.1 6).toList.isEmpty && ((t.2 4 == 0) && (t.2 5 == 0))))))) ∧ Below w.heap.size w w' := by
  have HB0 : Hid (Below w.heap.size w (refBox w t)) := refBox_below w t
  have HA0 : Hid (ThAt nm (refBox w t) w.heap.size t) := refBox_at w t
  have K := refKind_in k true hin
  have F0 := refIn_at (t.2 1) 1 1099511627776
  have F1 := fun w => refValid_any (t.1 2) w z2
  have F2 := fun w => refValid_any (t.1 3) w z3
  have HK : Hid (t.2 0 = k) := hk
  unfold refBox at HB0 HA0
  rw [hk] at HB0 HA0 ⊢
  obtain ⟨b0, h0⟩ : ∃ b, inB (t.2 1) 1 1099511627776 = b := ⟨_, rfl⟩
  rw [h0] at F0 ⊢
  obtain ⟨b1, h1⟩ : ∃ b, vldB (t.1 2) = b := ⟨_, rfl⟩
  rw [h1] at F1 ⊢
  obtain ⟨b2, h2⟩ : ∃ b, vldB (t.1 3) = b := ⟨_, rfl⟩
  rw [h2] at F2 ⊢
  obtain ⟨b3, h3⟩ : ∃ b, (t.1 6).toList.isEmpty = b := ⟨_, rfl⟩
  rw [h3]
  obtain ⟨b4, h4⟩ : ∃ b, (t.2 4 == 0) = b := ⟨_, rfl⟩
  rw [h4]
  obtain ⟨b5, h5⟩ : ∃ b, (t.2 5 == 0) = b := ⟨_, rfl⟩
  rw [h5]
  clear hk h0 h1 h2 z2 z3 hin
  have n5 : ¬ k = 5 := ne_of_beq_false t5
  have n6 : ¬ k = 6 := ne_of_beq_false t6
  have n7 : ¬ k = 7 := ne_of_beq_false t7
  cases b0 with
  | false =>
    simp only [Bool.false_and]
    go_enter Tryd.func15, Tryd.ntmps15
    go_wp2_with fail
    refine (K _).mono ?_
    rintro e y0 ⟨rfl, rfl⟩
    go_wp2_with fail
    refine (F0 _).mono ?_
    rintro e y1 ⟨rfl, rfl⟩
    go_wp2_with fail
    go_ret
    exact ⟨rfl, HB0.out⟩
  | true =>
    cases b1 with
    | false =>
      simp only [Bool.true_and, Bool.false_and]
      go_enter Tryd.func15, Tryd.ntmps15
      go_wp2_with fail
      refine (K _).mono ?_
      rintro e y0 ⟨rfl, rfl⟩
      go_wp2_with fail
      refine (F0 _).mono ?_
      rintro e y1 ⟨rfl, rfl⟩
      go_wp2_with fail
      refine (F1 _).mono ?_
      rintro e x1 ⟨rfl, c1⟩
      have HA1' : Hid (ThAt nm x1 w.heap.size t) := HA0.out.still c1
      have HB1' : Hid (Below w.heap.size w x1) := HB0.out.trans (c1.mono HB0.out.size)
      obtain ⟨d1_0, d1_1, d1_2, d1_3, d1_4, d1_5, d1_6⟩ := at_kind HA1'.out HK.out
      clear c1
      go_wp2_with fail
      go_ret
      exact ⟨rfl, HB1'.out⟩
    | true =>
      cases b2 with
      | false =>
        simp only [Bool.true_and, Bool.false_and]
        go_enter Tryd.func15, Tryd.ntmps15
        go_wp2_with fail
        refine (K _).mono ?_
        rintro e y0 ⟨rfl, rfl⟩
        go_wp2_with fail
        refine (F0 _).mono ?_
        rintro e y1 ⟨rfl, rfl⟩
        go_wp2_with fail
        refine (F1 _).mono ?_
        rintro e x1 ⟨rfl, c1⟩
        have HA1' : Hid (ThAt nm x1 w.heap.size t) := HA0.out.still c1
        have HB1' : Hid (Below w.heap.size w x1) := HB0.out.trans (c1.mono HB0.out.size)
        obtain ⟨d1_0, d1_1, d1_2, d1_3, d1_4, d1_5, d1_6⟩ := at_kind HA1'.out HK.out
        clear c1
        go_wp2_with fail
        refine (F2 _).mono ?_
        rintro e x2 ⟨rfl, c2⟩
        have HA2' : Hid (ThAt nm x2 w.heap.size t) := HA1'.out.still c2
        have HB2' : Hid (Below w.heap.size w x2) := HB1'.out.trans (c2.mono HB1'.out.size)
        clear d1_0 d1_1 d1_2 d1_3 d1_4 d1_5 d1_6
        obtain ⟨d2_0, d2_1, d2_2, d2_3, d2_4, d2_5, d2_6⟩ := at_kind HA2'.out HK.out
        clear c2
        go_wp2_with fail
        go_ret
        exact ⟨rfl, HB2'.out⟩
      | true =>
        cases b3 with
        | false =>
          simp only [Bool.true_and, Bool.false_and]
          go_enter Tryd.func15, Tryd.ntmps15
          go_wp2_with fail
          refine (K _).mono ?_
          rintro e y0 ⟨rfl, rfl⟩
          go_wp2_with fail
          refine (F0 _).mono ?_
          rintro e y1 ⟨rfl, rfl⟩
          go_wp2_with fail
          refine (F1 _).mono ?_
          rintro e x1 ⟨rfl, c1⟩
          have HA1' : Hid (ThAt nm x1 w.heap.size t) := HA0.out.still c1
          have HB1' : Hid (Below w.heap.size w x1) := HB0.out.trans (c1.mono HB0.out.size)
          obtain ⟨d1_0, d1_1, d1_2, d1_3, d1_4, d1_5, d1_6⟩ := at_kind HA1'.out HK.out
          clear c1
          go_wp2_with fail
          refine (F2 _).mono ?_
          rintro e x2 ⟨rfl, c2⟩
          have HA2' : Hid (ThAt nm x2 w.heap.size t) := HA1'.out.still c2
          have HB2' : Hid (Below w.heap.size w x2) := HB1'.out.trans (c2.mono HB1'.out.size)
          clear d1_0 d1_1 d1_2 d1_3 d1_4 d1_5 d1_6
          obtain ⟨d2_0, d2_1, d2_2, d2_3, d2_4, d2_5, d2_6⟩ := at_kind HA2'.out HK.out
          clear c2
          go_wp2_with fail
          go_ret
          exact ⟨rfl, HB2'.out⟩
        | true =>
          cases b4 with
          | false =>
            simp only [Bool.true_and, Bool.false_and]
            go_enter Tryd.func15, Tryd.ntmps15
            go_wp2_with fail
            refine (K _).mono ?_
            rintro e y0 ⟨rfl, rfl⟩
            go_wp2_with fail
            refine (F0 _).mono ?_
            rintro e y1 ⟨rfl, rfl⟩
            go_wp2_with fail
            refine (F1 _).mono ?_
            rintro e x1 ⟨rfl, c1⟩
            have HA1' : Hid (ThAt nm x1 w.heap.size t) := HA0.out.still c1
            have HB1' : Hid (Below w.heap.size w x1) := HB0.out.trans (c1.mono HB0.out.size)
            obtain ⟨d1_0, d1_1, d1_2, d1_3, d1_4, d1_5, d1_6⟩ := at_kind HA1'.out HK.out
            clear c1
            go_wp2_with fail
            refine (F2 _).mono ?_
            rintro e x2 ⟨rfl, c2⟩
            have HA2' : Hid (ThAt nm x2 w.heap.size t) := HA1'.out.still c2
            have HB2' : Hid (Below w.heap.size w x2) := HB1'.out.trans (c2.mono HB1'.out.size)
            clear d1_0 d1_1 d1_2 d1_3 d1_4 d1_5 d1_6
            obtain ⟨d2_0, d2_1, d2_2, d2_3, d2_4, d2_5, d2_6⟩ := at_kind HA2'.out HK.out
            clear c2
            go_wp2_with fail
            go_ret
            exact ⟨rfl, HB2'.out⟩
          | true =>
            cases b5 with
            | false =>
              simp only [Bool.true_and]
              go_enter Tryd.func15, Tryd.ntmps15
              go_wp2_with fail
              refine (K _).mono ?_
              rintro e y0 ⟨rfl, rfl⟩
              go_wp2_with fail
              refine (F0 _).mono ?_
              rintro e y1 ⟨rfl, rfl⟩
              go_wp2_with fail
              refine (F1 _).mono ?_
              rintro e x1 ⟨rfl, c1⟩
              have HA1' : Hid (ThAt nm x1 w.heap.size t) := HA0.out.still c1
              have HB1' : Hid (Below w.heap.size w x1) := HB0.out.trans (c1.mono HB0.out.size)
              obtain ⟨d1_0, d1_1, d1_2, d1_3, d1_4, d1_5, d1_6⟩ := at_kind HA1'.out HK.out
              clear c1
              go_wp2_with fail
              refine (F2 _).mono ?_
              rintro e x2 ⟨rfl, c2⟩
              have HA2' : Hid (ThAt nm x2 w.heap.size t) := HA1'.out.still c2
              have HB2' : Hid (Below w.heap.size w x2) := HB1'.out.trans (c2.mono HB1'.out.size)
              clear d1_0 d1_1 d1_2 d1_3 d1_4 d1_5 d1_6
              obtain ⟨d2_0, d2_1, d2_2, d2_3, d2_4, d2_5, d2_6⟩ := at_kind HA2'.out HK.out
              clear c2
              go_wp2_with fail
              go_ret
              exact ⟨rfl, HB2'.out⟩
            | true =>
              simp only [Bool.true_and]
              go_enter Tryd.func15, Tryd.ntmps15
              go_wp2_with fail
              refine (K _).mono ?_
              rintro e y0 ⟨rfl, rfl⟩
              go_wp2_with fail
              refine (F0 _).mono ?_
              rintro e y1 ⟨rfl, rfl⟩
              go_wp2_with fail
              refine (F1 _).mono ?_
              rintro e x1 ⟨rfl, c1⟩
              have HA1' : Hid (ThAt nm x1 w.heap.size t) := HA0.out.still c1
              have HB1' : Hid (Below w.heap.size w x1) := HB0.out.trans (c1.mono HB0.out.size)
              obtain ⟨d1_0, d1_1, d1_2, d1_3, d1_4, d1_5, d1_6⟩ := at_kind HA1'.out HK.out
              clear c1
              go_wp2_with fail
              refine (F2 _).mono ?_
              rintro e x2 ⟨rfl, c2⟩
              have HA2' : Hid (ThAt nm x2 w.heap.size t) := HA1'.out.still c2
              have HB2' : Hid (Below w.heap.size w x2) := HB1'.out.trans (c2.mono HB1'.out.size)
              clear d1_0 d1_1 d1_2 d1_3 d1_4 d1_5 d1_6
              obtain ⟨d2_0, d2_1, d2_2, d2_3, d2_4, d2_5, d2_6⟩ := at_kind HA2'.out HK.out
              clear c2
              go_wp2_with fail
              go_ret
              exact ⟨rfl, HB2'.out⟩
end Go.Proofs.YtdbkoflejimibaaDoor.PP.R
/-
  The contract of the fourteenth reference's ReplyForm, a theorem a kind.
-/
namespace Go.Proofs.YtdbkoflejimibaaDoor.PP.R
open Go.ChangeShapes Go.WideShapes Go.ChangeAt Go.RowKit Go.Lib

theorem word_size (k : Int) : (wordK k).size ≤ 1 := by
  unfold wordK
  repeat' split
  all_goals decide
set_option maxHeartbeats 4000000 in
theorem refWord_any (k : Int) (h1 : 1 ≤ k) (h6 : k ≤ 6) (w : World) : Calls Tryd.prog 35 #[.int .i64 k] w fun e w' => e = .returned (.string (wordK k)) ∧ Below w.heap.size w w' := by
  have B : Hid (Below w.heap.size w (w.alloc (.cells #[.string ⟨#[]⟩, .string ⟨#[48]⟩, .string ⟨#[52]⟩, .string ⟨#[53]⟩, .string ⟨#[56]⟩, .string ⟨#[70]⟩, .string ⟨#[72]⟩] 86))) := (Below.refl _ w).alloc (Nat.le_refl _) _
  rcases six ⟨h1, h6⟩ with rfl | rfl | rfl | rfl | rfl | rfl
  all_goals
    clear h1 h6
    go_enter Tryd.func35, Tryd.ntmps35
    go_wp2_with fail
    go_ret
    exact ⟨rfl, B.out⟩
set_option maxRecDepth 1000000 in
set_option maxHeartbeats 8000000 in
theorem refForm_7 (t : ThP) (w : World) (hk : t.2 0 = 7) (z34 : 0 ≤ t.2 1 ∧ t.2 1 ≤ 1099511627776) (z11 : (t.1 2).size ≤ 600) :
    Calls Tryd.prog 18 #[.agg #[.int .i64 (t.2 0), .int .i64 (t.2 1), .string (t.1 2), .string (t.1 3), .int .i64 (t.2 4), .int .i64 (t.2 5), .string (t.1 6)]] w fun e' w' => e' = .returned (.string (mk ((([51, 53] ++ 61 :: ((⟨#[57]⟩ : ByteArray).data.toList ++ [1])) ++ ([51, 52] ++ 61 :: ((numT (t.2 1)).data.toList ++ [1]))) ++ ([49, 49] ++ 61 :: ((t.1 2).data.toList ++ [1]))))) ∧ Below w.heap.size w w' := by
  have HB0 : Hid (Below w.heap.size w (refBox w t)) := refBox_below w t
  have HT : Hid (ThAt nm (refBox w t) w.heap.size t) := refBox_at w t
  have HK : Hid (t.2 0 = 7) := hk
  have C0 : ∀ w, Calls Tryd.prog 28 #[.string ⟨#[51, 53]⟩, .string (⟨#[57]⟩ : ByteArray)] w fun e' w' => e' = .returned (.string (putL [51, 53] (⟨#[57]⟩ : ByteArray))) ∧ w = w' := fun w => (refPut_any [51, 53] (⟨#[57]⟩ : ByteArray) (by decide) (by decide) w).mono fun e w' ⟨h1, h2⟩ => ⟨h1, h2.symm⟩
  have S0 := putL_size [51, 53] (⟨#[57]⟩ : ByteArray)
  have N0 : (⟨#[57]⟩ : ByteArray).size = 1 := rfl
  simp only [List.length_cons, List.length_nil] at S0
  have C1 : ∀ w, Calls Tryd.prog 29 #[.string ⟨#[51, 52]⟩, .int .i64 (t.2 1)] w fun e' w' => e' = .returned (.string (putL [51, 52] (numT (t.2 1)))) ∧ Below w.heap.size w w' := fun w => numberP_any [51, 52] (t.2 1) (by decide) z34.1 z34.2 w
  have S1 := putL_size [51, 52] (numT (t.2 1))
  have N1 := num_small (t.2 1) z34.2
  simp only [List.length_cons, List.length_nil] at S1
  have C2 : ∀ w, Calls Tryd.prog 28 #[.string ⟨#[49, 49]⟩, .string (t.1 2)] w fun e' w' => e' = .returned (.string (putL [49, 49] (t.1 2))) ∧ w = w' := fun w => (refPut_any [49, 49] (t.1 2) (by decide) (by omega) w).mono fun e w' ⟨h1, h2⟩ => ⟨h1, h2.symm⟩
  have S2 := putL_size [49, 49] (t.1 2)
  simp only [List.length_cons, List.length_nil] at S2
  have HOUT : Hid (((putL [51, 53] (⟨#[57]⟩ : ByteArray) ++ putL [51, 52] (numT (t.2 1))) ++ putL [49, 49] (t.1 2)) = mk ((([51, 53] ++ 61 :: ((⟨#[57]⟩ : ByteArray).data.toList ++ [1])) ++ ([51, 52] ++ 61 :: ((numT (t.2 1)).data.toList ++ [1]))) ++ ([49, 49] ++ 61 :: ((t.1 2).data.toList ++ [1])))) := by
    show _ = _
    apply bytes_ext8
    simp [mk, putL]
  obtain ⟨p0, hp0⟩ : ∃ pp, putL [51, 53] (⟨#[57]⟩ : ByteArray) = pp := ⟨_, rfl⟩
  rw [hp0] at C0 HOUT S0
  obtain ⟨p1, hp1⟩ : ∃ pp, putL [51, 52] (numT (t.2 1)) = pp := ⟨_, rfl⟩
  rw [hp1] at C1 HOUT S1
  obtain ⟨p2, hp2⟩ : ∃ pp, putL [49, 49] (t.1 2) = pp := ⟨_, rfl⟩
  rw [hp2] at C2 HOUT S2
  rw [← HOUT.out]
  clear HOUT hp0 hp1 hp2
  have Jq0 := fun w => join_run p0 p1 (by omega) w
  have Zq0 : (p0 ++ p1).size = p0.size + p1.size := ByteArray.size_append
  obtain ⟨q0, hq0⟩ : ∃ q, p0 ++ p1 = q := ⟨_, rfl⟩
  rw [hq0] at Jq0 Zq0 ⊢
  have Jq1 := fun w => join_run q0 p2 (by omega) w
  have Zq1 : (q0 ++ p2).size = q0.size + p2.size := ByteArray.size_append
  obtain ⟨q1, hq1⟩ : ∃ q, q0 ++ p2 = q := ⟨_, rfl⟩
  rw [hq1] at Jq1 Zq1 ⊢
  clear hq0 Zq0 hq1 Zq1 S0 N0 S1 N1 S2 z34 z11
  unfold refBox at HB0 HT
  rw [hk] at HB0 HT ⊢
  clear hk
  obtain ⟨d0, d1, d2, d3, d4, d5, d6⟩ := at_kind HT.out HK.out
  go_enter Tryd.func18, Tryd.ntmps18
  go_wp2_with fail
  go_region_held3 (fun w' => w'.cell? ⟨w.heap.size, 0, none⟩ = some (.int .i64 7) ∧ w'.cell? ⟨w.heap.size, 1, none⟩ = some (.int .i64 (t.2 1)) ∧ w'.cell? ⟨w.heap.size, 2, none⟩ = some (.string (t.1 2)) ∧ w'.cell? ⟨w.heap.size, 3, none⟩ = some (.string (t.1 3)) ∧ w'.cell? ⟨w.heap.size, 4, none⟩ = some (.int .i64 (t.2 4)) ∧ w'.cell? ⟨w.heap.size, 5, none⟩ = some (.int .i64 (t.2 5)) ∧ w'.cell? ⟨w.heap.size, 6, none⟩ = some (.string (t.1 6))) (go_keep) (first
    | (go_at_call_of 28 (Value.string ⟨#[51, 53]⟩); refine (C0 _).mono ?_; rintro e' y0 ⟨rfl, rfl⟩)
    | (go_at_call_of 29 (Value.string ⟨#[51, 52]⟩); refine (C1 _).mono ?_; rintro e' y1 ⟨rfl, b1⟩; have B1 := below_of_drew b1; have X1 : Hid (ThAt nm y1 w.heap.size t) := HT.out.still B1; obtain ⟨u1_0, u1_1, u1_2, u1_3, u1_4, u1_5, u1_6⟩ := at_kind X1.out HK.out; have HB1' : Hid (Below w.heap.size w y1) := HB0.out.trans (B1.mono HB0.out.size))
    | (go_at_call_of 28 (Value.string ⟨#[49, 49]⟩); refine (C2 _).mono ?_; rintro e' y2 ⟨rfl, rfl⟩))
  all_goals
    go_wp2_with fail
    go_ret
    exact ⟨rfl, HB1'.out⟩
set_option maxRecDepth 1000000 in
set_option maxHeartbeats 8000000 in
theorem refForm_5 (t : ThP) (w : World) (hk : t.2 0 = 5) (z34 : 0 ≤ t.2 1 ∧ t.2 1 ≤ 1099511627776) (z11 : (t.1 2).size ≤ 600) (z17 : (t.1 3).size ≤ 600) (z32 : 0 ≤ t.2 4 ∧ t.2 4 ≤ 1099511627776) (z31 : 0 ≤ t.2 5 ∧ t.2 5 ≤ 1099511627776) :
    Calls Tryd.prog 18 #[.agg #[.int .i64 (t.2 0), .int .i64 (t.2 1), .string (t.1 2), .string (t.1 3), .int .i64 (t.2 4), .int .i64 (t.2 5), .string (t.1 6)]] w fun e' w' => e' = .returned (.string (mk ((((([51, 53] ++ 61 :: ((⟨#[56]⟩ : ByteArray).data.toList ++ [1])) ++ ([51, 52] ++ 61 :: ((numT (t.2 1)).data.toList ++ [1]))) ++ ([49, 49] ++ 61 :: ((t.1 2).data.toList ++ [1]))) ++ (([49, 55] ++ 61 :: ((t.1 3).data.toList ++ [1])) ++ ([49, 53, 48] ++ 61 :: ((wordK 5).data.toList ++ [1])))) ++ (([51, 50] ++ 61 :: ((numT (t.2 4)).data.toList ++ [1])) ++ ([51, 49] ++ 61 :: ((numT (t.2 5)).data.toList ++ [1])))))) ∧ Below w.heap.size w w' := by
  have HB0 : Hid (Below w.heap.size w (refBox w t)) := refBox_below w t
  have HT : Hid (ThAt nm (refBox w t) w.heap.size t) := refBox_at w t
  have HK : Hid (t.2 0 = 5) := hk
  have C0 : ∀ w, Calls Tryd.prog 28 #[.string ⟨#[51, 53]⟩, .string (⟨#[56]⟩ : ByteArray)] w fun e' w' => e' = .returned (.string (putL [51, 53] (⟨#[56]⟩ : ByteArray))) ∧ w = w' := fun w => (refPut_any [51, 53] (⟨#[56]⟩ : ByteArray) (by decide) (by decide) w).mono fun e w' ⟨h1, h2⟩ => ⟨h1, h2.symm⟩
  have S0 := putL_size [51, 53] (⟨#[56]⟩ : ByteArray)
  have N0 : (⟨#[56]⟩ : ByteArray).size = 1 := rfl
  simp only [List.length_cons, List.length_nil] at S0
  have C1 : ∀ w, Calls Tryd.prog 29 #[.string ⟨#[51, 52]⟩, .int .i64 (t.2 1)] w fun e' w' => e' = .returned (.string (putL [51, 52] (numT (t.2 1)))) ∧ Below w.heap.size w w' := fun w => numberP_any [51, 52] (t.2 1) (by decide) z34.1 z34.2 w
  have S1 := putL_size [51, 52] (numT (t.2 1))
  have N1 := num_small (t.2 1) z34.2
  simp only [List.length_cons, List.length_nil] at S1
  have C2 : ∀ w, Calls Tryd.prog 28 #[.string ⟨#[49, 49]⟩, .string (t.1 2)] w fun e' w' => e' = .returned (.string (putL [49, 49] (t.1 2))) ∧ w = w' := fun w => (refPut_any [49, 49] (t.1 2) (by decide) (by omega) w).mono fun e w' ⟨h1, h2⟩ => ⟨h1, h2.symm⟩
  have S2 := putL_size [49, 49] (t.1 2)
  simp only [List.length_cons, List.length_nil] at S2
  have C3 : ∀ w, Calls Tryd.prog 28 #[.string ⟨#[49, 55]⟩, .string (t.1 3)] w fun e' w' => e' = .returned (.string (putL [49, 55] (t.1 3))) ∧ w = w' := fun w => (refPut_any [49, 55] (t.1 3) (by decide) (by omega) w).mono fun e w' ⟨h1, h2⟩ => ⟨h1, h2.symm⟩
  have S3 := putL_size [49, 55] (t.1 3)
  simp only [List.length_cons, List.length_nil] at S3
  have C4 : ∀ w, Calls Tryd.prog 28 #[.string ⟨#[49, 53, 48]⟩, .string (wordK 5)] w fun e' w' => e' = .returned (.string (putL [49, 53, 48] (wordK 5))) ∧ w = w' := fun w => (refPut_any [49, 53, 48] (wordK 5) (by decide) (by have := word_size 5; omega) w).mono fun e w' ⟨h1, h2⟩ => ⟨h1, h2.symm⟩
  have S4 := putL_size [49, 53, 48] (wordK 5)
  have N4 := word_size 5
  simp only [List.length_cons, List.length_nil] at S4
  have C5 : ∀ w, Calls Tryd.prog 29 #[.string ⟨#[51, 50]⟩, .int .i64 (t.2 4)] w fun e' w' => e' = .returned (.string (putL [51, 50] (numT (t.2 4)))) ∧ Below w.heap.size w w' := fun w => numberP_any [51, 50] (t.2 4) (by decide) z32.1 z32.2 w
  have S5 := putL_size [51, 50] (numT (t.2 4))
  have N5 := num_small (t.2 4) z32.2
  simp only [List.length_cons, List.length_nil] at S5
  have C6 : ∀ w, Calls Tryd.prog 29 #[.string ⟨#[51, 49]⟩, .int .i64 (t.2 5)] w fun e' w' => e' = .returned (.string (putL [51, 49] (numT (t.2 5)))) ∧ Below w.heap.size w w' := fun w => numberP_any [51, 49] (t.2 5) (by decide) z31.1 z31.2 w
  have S6 := putL_size [51, 49] (numT (t.2 5))
  have N6 := num_small (t.2 5) z31.2
  simp only [List.length_cons, List.length_nil] at S6
  have WD := fun w => refWord_any 5 (by omega) (by omega) w
  have HOUT : Hid (((((putL [51, 53] (⟨#[56]⟩ : ByteArray) ++ putL [51, 52] (numT (t.2 1))) ++ putL [49, 49] (t.1 2)) ++ (putL [49, 55] (t.1 3) ++ putL [49, 53, 48] (wordK 5))) ++ (putL [51, 50] (numT (t.2 4)) ++ putL [51, 49] (numT (t.2 5)))) = mk ((((([51, 53] ++ 61 :: ((⟨#[56]⟩ : ByteArray).data.toList ++ [1])) ++ ([51, 52] ++ 61 :: ((numT (t.2 1)).data.toList ++ [1]))) ++ ([49, 49] ++ 61 :: ((t.1 2).data.toList ++ [1]))) ++ (([49, 55] ++ 61 :: ((t.1 3).data.toList ++ [1])) ++ ([49, 53, 48] ++ 61 :: ((wordK 5).data.toList ++ [1])))) ++ (([51, 50] ++ 61 :: ((numT (t.2 4)).data.toList ++ [1])) ++ ([51, 49] ++ 61 :: ((numT (t.2 5)).data.toList ++ [1]))))) := by
    show _ = _
    apply bytes_ext8
    simp [mk, putL]
  obtain ⟨p0, hp0⟩ : ∃ pp, putL [51, 53] (⟨#[56]⟩ : ByteArray) = pp := ⟨_, rfl⟩
  rw [hp0] at C0 HOUT S0
  obtain ⟨p1, hp1⟩ : ∃ pp, putL [51, 52] (numT (t.2 1)) = pp := ⟨_, rfl⟩
  rw [hp1] at C1 HOUT S1
  obtain ⟨p2, hp2⟩ : ∃ pp, putL [49, 49] (t.1 2) = pp := ⟨_, rfl⟩
  rw [hp2] at C2 HOUT S2
  obtain ⟨p3, hp3⟩ : ∃ pp, putL [49, 55] (t.1 3) = pp := ⟨_, rfl⟩
  rw [hp3] at C3 HOUT S3
  obtain ⟨p4, hp4⟩ : ∃ pp, putL [49, 53, 48] (wordK 5) = pp := ⟨_, rfl⟩
  rw [hp4] at C4 HOUT S4
  obtain ⟨p5, hp5⟩ : ∃ pp, putL [51, 50] (numT (t.2 4)) = pp := ⟨_, rfl⟩
  rw [hp5] at C5 HOUT S5
  obtain ⟨p6, hp6⟩ : ∃ pp, putL [51, 49] (numT (t.2 5)) = pp := ⟨_, rfl⟩
  rw [hp6] at C6 HOUT S6
  rw [← HOUT.out]
  clear HOUT hp0 hp1 hp2 hp3 hp4 hp5 hp6
  have Jq0 := fun w => join_run p0 p1 (by omega) w
  have Zq0 : (p0 ++ p1).size = p0.size + p1.size := ByteArray.size_append
  obtain ⟨q0, hq0⟩ : ∃ q, p0 ++ p1 = q := ⟨_, rfl⟩
  rw [hq0] at Jq0 Zq0 ⊢
  have Jq1 := fun w => join_run q0 p2 (by omega) w
  have Zq1 : (q0 ++ p2).size = q0.size + p2.size := ByteArray.size_append
  obtain ⟨q1, hq1⟩ : ∃ q, q0 ++ p2 = q := ⟨_, rfl⟩
  rw [hq1] at Jq1 Zq1 ⊢
  have Jq2 := fun w => join_run p3 p4 (by omega) w
  have Zq2 : (p3 ++ p4).size = p3.size + p4.size := ByteArray.size_append
  obtain ⟨q2, hq2⟩ : ∃ q, p3 ++ p4 = q := ⟨_, rfl⟩
  rw [hq2] at Jq2 Zq2 ⊢
  have Jq3 := fun w => join_run q1 q2 (by omega) w
  have Zq3 : (q1 ++ q2).size = q1.size + q2.size := ByteArray.size_append
  obtain ⟨q3, hq3⟩ : ∃ q, q1 ++ q2 = q := ⟨_, rfl⟩
  rw [hq3] at Jq3 Zq3 ⊢
  have Jq4 := fun w => join_run p5 p6 (by omega) w
  have Zq4 : (p5 ++ p6).size = p5.size + p6.size := ByteArray.size_append
  obtain ⟨q4, hq4⟩ : ∃ q, p5 ++ p6 = q := ⟨_, rfl⟩
  rw [hq4] at Jq4 Zq4 ⊢
  have Jq5 := fun w => join_run q3 q4 (by omega) w
  have Zq5 : (q3 ++ q4).size = q3.size + q4.size := ByteArray.size_append
  obtain ⟨q5, hq5⟩ : ∃ q, q3 ++ q4 = q := ⟨_, rfl⟩
  rw [hq5] at Jq5 Zq5 ⊢
  clear hq0 Zq0 hq1 Zq1 hq2 Zq2 hq3 Zq3 hq4 Zq4 hq5 Zq5 S0 N0 S1 N1 S2 S3 S4 N4 S5 N5 S6 N6 z34 z11 z17 z32 z31
  generalize wordK 5 = wk at *
  unfold refBox at HB0 HT
  rw [hk] at HB0 HT ⊢
  clear hk
  obtain ⟨d0, d1, d2, d3, d4, d5, d6⟩ := at_kind HT.out HK.out
  go_enter Tryd.func18, Tryd.ntmps18
  go_wp2_with fail
  go_region_held3 (fun w' => w'.cell? ⟨w.heap.size, 0, none⟩ = some (.int .i64 5) ∧ w'.cell? ⟨w.heap.size, 1, none⟩ = some (.int .i64 (t.2 1)) ∧ w'.cell? ⟨w.heap.size, 2, none⟩ = some (.string (t.1 2)) ∧ w'.cell? ⟨w.heap.size, 3, none⟩ = some (.string (t.1 3)) ∧ w'.cell? ⟨w.heap.size, 4, none⟩ = some (.int .i64 (t.2 4)) ∧ w'.cell? ⟨w.heap.size, 5, none⟩ = some (.int .i64 (t.2 5)) ∧ w'.cell? ⟨w.heap.size, 6, none⟩ = some (.string (t.1 6))) (go_keep) (first
    | (go_at_call_of 28 (Value.string ⟨#[51, 53]⟩); refine (C0 _).mono ?_; rintro e' y0 ⟨rfl, rfl⟩)
    | (go_at_call_of 29 (Value.string ⟨#[51, 52]⟩); refine (C1 _).mono ?_; rintro e' y1 ⟨rfl, b1⟩; have B1 := below_of_drew b1; have X1 : Hid (ThAt nm y1 w.heap.size t) := HT.out.still B1; obtain ⟨u1_0, u1_1, u1_2, u1_3, u1_4, u1_5, u1_6⟩ := at_kind X1.out HK.out; have HB1' : Hid (Below w.heap.size w y1) := HB0.out.trans (B1.mono HB0.out.size))
    | (go_at_call_of 28 (Value.string ⟨#[49, 49]⟩); refine (C2 _).mono ?_; rintro e' y2 ⟨rfl, rfl⟩))
  go_wp2_with fail
  go_region_held3 (fun w' => w'.cell? ⟨w.heap.size, 0, none⟩ = some (.int .i64 5) ∧ w'.cell? ⟨w.heap.size, 1, none⟩ = some (.int .i64 (t.2 1)) ∧ w'.cell? ⟨w.heap.size, 2, none⟩ = some (.string (t.1 2)) ∧ w'.cell? ⟨w.heap.size, 3, none⟩ = some (.string (t.1 3)) ∧ w'.cell? ⟨w.heap.size, 4, none⟩ = some (.int .i64 (t.2 4)) ∧ w'.cell? ⟨w.heap.size, 5, none⟩ = some (.int .i64 (t.2 5)) ∧ w'.cell? ⟨w.heap.size, 6, none⟩ = some (.string (t.1 6))) (go_keep) (first
    | (go_at_call_of 28 (Value.string ⟨#[49, 55]⟩); refine (C3 _).mono ?_; rintro e' y3 ⟨rfl, rfl⟩)
    | (go_at_call 35; refine (WD _).mono ?_; rintro e' yw ⟨rfl, bw⟩; have Bw := below_of_drew bw; have Xw : Hid (ThAt nm yw w.heap.size t) := X1.out.still Bw; obtain ⟨uw_0, uw_1, uw_2, uw_3, uw_4, uw_5, uw_6⟩ := at_kind Xw.out HK.out; have HBw' : Hid (Below w.heap.size w yw) := HB1'.out.trans (Bw.mono HB1'.out.size))
    | (go_at_call_of 28 (Value.string ⟨#[49, 53, 48]⟩); refine (C4 _).mono ?_; rintro e' y4 ⟨rfl, rfl⟩))
  go_wp2_with fail
  go_region_held3 (fun w' => w'.cell? ⟨w.heap.size, 0, none⟩ = some (.int .i64 5) ∧ w'.cell? ⟨w.heap.size, 1, none⟩ = some (.int .i64 (t.2 1)) ∧ w'.cell? ⟨w.heap.size, 2, none⟩ = some (.string (t.1 2)) ∧ w'.cell? ⟨w.heap.size, 3, none⟩ = some (.string (t.1 3)) ∧ w'.cell? ⟨w.heap.size, 4, none⟩ = some (.int .i64 (t.2 4)) ∧ w'.cell? ⟨w.heap.size, 5, none⟩ = some (.int .i64 (t.2 5)) ∧ w'.cell? ⟨w.heap.size, 6, none⟩ = some (.string (t.1 6))) (go_keep) (first
    | (go_at_call_of 29 (Value.string ⟨#[51, 50]⟩); refine (C5 _).mono ?_; rintro e' y5 ⟨rfl, b5⟩; have B5 := below_of_drew b5; have X5 : Hid (ThAt nm y5 w.heap.size t) := Xw.out.still B5; obtain ⟨u5_0, u5_1, u5_2, u5_3, u5_4, u5_5, u5_6⟩ := at_kind X5.out HK.out; have HB5' : Hid (Below w.heap.size w y5) := HBw'.out.trans (B5.mono HBw'.out.size))
    | (go_at_call_of 29 (Value.string ⟨#[51, 49]⟩); refine (C6 _).mono ?_; rintro e' y6 ⟨rfl, b6⟩; have B6 := b6; have X6 : Hid (ThAt nm y6 w.heap.size t) := X5.out.still B6; obtain ⟨u6_0, u6_1, u6_2, u6_3, u6_4, u6_5, u6_6⟩ := at_kind X6.out HK.out; have HB6' : Hid (Below w.heap.size w y6) := HB5'.out.trans (B6.mono HB5'.out.size)))
  all_goals
    go_wp2_with fail
    go_ret
    exact ⟨rfl, HB6'.out⟩
set_option maxRecDepth 1000000 in
set_option maxHeartbeats 8000000 in
theorem refForm_6 (t : ThP) (w : World) (hk : t.2 0 = 6) (z34 : 0 ≤ t.2 1 ∧ t.2 1 ≤ 1099511627776) (z11 : (t.1 2).size ≤ 600) (z17 : (t.1 3).size ≤ 600) (z19 : (t.1 6).size ≤ 600) :
    Calls Tryd.prog 18 #[.agg #[.int .i64 (t.2 0), .int .i64 (t.2 1), .string (t.1 2), .string (t.1 3), .int .i64 (t.2 4), .int .i64 (t.2 5), .string (t.1 6)]] w fun e' w' => e' = .returned (.string (mk ((((([51, 53] ++ 61 :: ((⟨#[56]⟩ : ByteArray).data.toList ++ [1])) ++ ([51, 52] ++ 61 :: ((numT (t.2 1)).data.toList ++ [1]))) ++ ([49, 49] ++ 61 :: ((t.1 2).data.toList ++ [1]))) ++ (([49, 55] ++ 61 :: ((t.1 3).data.toList ++ [1])) ++ ([49, 53, 48] ++ 61 :: ((wordK 6).data.toList ++ [1])))) ++ ([49, 57] ++ 61 :: ((t.1 6).data.toList ++ [1]))))) ∧ Below w.heap.size w w' := by
  have HB0 : Hid (Below w.heap.size w (refBox w t)) := refBox_below w t
  have HT : Hid (ThAt nm (refBox w t) w.heap.size t) := refBox_at w t
  have HK : Hid (t.2 0 = 6) := hk
  have C0 : ∀ w, Calls Tryd.prog 28 #[.string ⟨#[51, 53]⟩, .string (⟨#[56]⟩ : ByteArray)] w fun e' w' => e' = .returned (.string (putL [51, 53] (⟨#[56]⟩ : ByteArray))) ∧ w = w' := fun w => (refPut_any [51, 53] (⟨#[56]⟩ : ByteArray) (by decide) (by decide) w).mono fun e w' ⟨h1, h2⟩ => ⟨h1, h2.symm⟩
  have S0 := putL_size [51, 53] (⟨#[56]⟩ : ByteArray)
  have N0 : (⟨#[56]⟩ : ByteArray).size = 1 := rfl
  simp only [List.length_cons, List.length_nil] at S0
  have C1 : ∀ w, Calls Tryd.prog 29 #[.string ⟨#[51, 52]⟩, .int .i64 (t.2 1)] w fun e' w' => e' = .returned (.string (putL [51, 52] (numT (t.2 1)))) ∧ Below w.heap.size w w' := fun w => numberP_any [51, 52] (t.2 1) (by decide) z34.1 z34.2 w
  have S1 := putL_size [51, 52] (numT (t.2 1))
  have N1 := num_small (t.2 1) z34.2
  simp only [List.length_cons, List.length_nil] at S1
  have C2 : ∀ w, Calls Tryd.prog 28 #[.string ⟨#[49, 49]⟩, .string (t.1 2)] w fun e' w' => e' = .returned (.string (putL [49, 49] (t.1 2))) ∧ w = w' := fun w => (refPut_any [49, 49] (t.1 2) (by decide) (by omega) w).mono fun e w' ⟨h1, h2⟩ => ⟨h1, h2.symm⟩
  have S2 := putL_size [49, 49] (t.1 2)
  simp only [List.length_cons, List.length_nil] at S2
  have C3 : ∀ w, Calls Tryd.prog 28 #[.string ⟨#[49, 55]⟩, .string (t.1 3)] w fun e' w' => e' = .returned (.string (putL [49, 55] (t.1 3))) ∧ w = w' := fun w => (refPut_any [49, 55] (t.1 3) (by decide) (by omega) w).mono fun e w' ⟨h1, h2⟩ => ⟨h1, h2.symm⟩
  have S3 := putL_size [49, 55] (t.1 3)
  simp only [List.length_cons, List.length_nil] at S3
  have C4 : ∀ w, Calls Tryd.prog 28 #[.string ⟨#[49, 53, 48]⟩, .string (wordK 6)] w fun e' w' => e' = .returned (.string (putL [49, 53, 48] (wordK 6))) ∧ w = w' := fun w => (refPut_any [49, 53, 48] (wordK 6) (by decide) (by have := word_size 6; omega) w).mono fun e w' ⟨h1, h2⟩ => ⟨h1, h2.symm⟩
  have S4 := putL_size [49, 53, 48] (wordK 6)
  have N4 := word_size 6
  simp only [List.length_cons, List.length_nil] at S4
  have C5 : ∀ w, Calls Tryd.prog 28 #[.string ⟨#[49, 57]⟩, .string (t.1 6)] w fun e' w' => e' = .returned (.string (putL [49, 57] (t.1 6))) ∧ w = w' := fun w => (refPut_any [49, 57] (t.1 6) (by decide) (by omega) w).mono fun e w' ⟨h1, h2⟩ => ⟨h1, h2.symm⟩
  have S5 := putL_size [49, 57] (t.1 6)
  simp only [List.length_cons, List.length_nil] at S5
  have WD := fun w => refWord_any 6 (by omega) (by omega) w
  have HOUT : Hid (((((putL [51, 53] (⟨#[56]⟩ : ByteArray) ++ putL [51, 52] (numT (t.2 1))) ++ putL [49, 49] (t.1 2)) ++ (putL [49, 55] (t.1 3) ++ putL [49, 53, 48] (wordK 6))) ++ putL [49, 57] (t.1 6)) = mk ((((([51, 53] ++ 61 :: ((⟨#[56]⟩ : ByteArray).data.toList ++ [1])) ++ ([51, 52] ++ 61 :: ((numT (t.2 1)).data.toList ++ [1]))) ++ ([49, 49] ++ 61 :: ((t.1 2).data.toList ++ [1]))) ++ (([49, 55] ++ 61 :: ((t.1 3).data.toList ++ [1])) ++ ([49, 53, 48] ++ 61 :: ((wordK 6).data.toList ++ [1])))) ++ ([49, 57] ++ 61 :: ((t.1 6).data.toList ++ [1])))) := by
    show _ = _
    apply bytes_ext8
    simp [mk, putL]
  obtain ⟨p0, hp0⟩ : ∃ pp, putL [51, 53] (⟨#[56]⟩ : ByteArray) = pp := ⟨_, rfl⟩
  rw [hp0] at C0 HOUT S0
  obtain ⟨p1, hp1⟩ : ∃ pp, putL [51, 52] (numT (t.2 1)) = pp := ⟨_, rfl⟩
  rw [hp1] at C1 HOUT S1
  obtain ⟨p2, hp2⟩ : ∃ pp, putL [49, 49] (t.1 2) = pp := ⟨_, rfl⟩
  rw [hp2] at C2 HOUT S2
  obtain ⟨p3, hp3⟩ : ∃ pp, putL [49, 55] (t.1 3) = pp := ⟨_, rfl⟩
  rw [hp3] at C3 HOUT S3
  obtain ⟨p4, hp4⟩ : ∃ pp, putL [49, 53, 48] (wordK 6) = pp := ⟨_, rfl⟩
  rw [hp4] at C4 HOUT S4
  obtain ⟨p5, hp5⟩ : ∃ pp, putL [49, 57] (t.1 6) = pp := ⟨_, rfl⟩
  rw [hp5] at C5 HOUT S5
  rw [← HOUT.out]
  clear HOUT hp0 hp1 hp2 hp3 hp4 hp5
  have Jq0 := fun w => join_run p0 p1 (by omega) w
  have Zq0 : (p0 ++ p1).size = p0.size + p1.size := ByteArray.size_append
  obtain ⟨q0, hq0⟩ : ∃ q, p0 ++ p1 = q := ⟨_, rfl⟩
  rw [hq0] at Jq0 Zq0 ⊢
  have Jq1 := fun w => join_run q0 p2 (by omega) w
  have Zq1 : (q0 ++ p2).size = q0.size + p2.size := ByteArray.size_append
  obtain ⟨q1, hq1⟩ : ∃ q, q0 ++ p2 = q := ⟨_, rfl⟩
  rw [hq1] at Jq1 Zq1 ⊢
  have Jq2 := fun w => join_run p3 p4 (by omega) w
  have Zq2 : (p3 ++ p4).size = p3.size + p4.size := ByteArray.size_append
  obtain ⟨q2, hq2⟩ : ∃ q, p3 ++ p4 = q := ⟨_, rfl⟩
  rw [hq2] at Jq2 Zq2 ⊢
  have Jq3 := fun w => join_run q1 q2 (by omega) w
  have Zq3 : (q1 ++ q2).size = q1.size + q2.size := ByteArray.size_append
  obtain ⟨q3, hq3⟩ : ∃ q, q1 ++ q2 = q := ⟨_, rfl⟩
  rw [hq3] at Jq3 Zq3 ⊢
  have Jq4 := fun w => join_run q3 p5 (by omega) w
  have Zq4 : (q3 ++ p5).size = q3.size + p5.size := ByteArray.size_append
  obtain ⟨q4, hq4⟩ : ∃ q, q3 ++ p5 = q := ⟨_, rfl⟩
  rw [hq4] at Jq4 Zq4 ⊢
  clear hq0 Zq0 hq1 Zq1 hq2 Zq2 hq3 Zq3 hq4 Zq4 S0 N0 S1 N1 S2 S3 S4 N4 S5 z34 z11 z17 z19
  generalize wordK 6 = wk at *
  unfold refBox at HB0 HT
  rw [hk] at HB0 HT ⊢
  clear hk
  obtain ⟨d0, d1, d2, d3, d4, d5, d6⟩ := at_kind HT.out HK.out
  go_enter Tryd.func18, Tryd.ntmps18
  go_wp2_with fail
  go_region_held3 (fun w' => w'.cell? ⟨w.heap.size, 0, none⟩ = some (.int .i64 6) ∧ w'.cell? ⟨w.heap.size, 1, none⟩ = some (.int .i64 (t.2 1)) ∧ w'.cell? ⟨w.heap.size, 2, none⟩ = some (.string (t.1 2)) ∧ w'.cell? ⟨w.heap.size, 3, none⟩ = some (.string (t.1 3)) ∧ w'.cell? ⟨w.heap.size, 4, none⟩ = some (.int .i64 (t.2 4)) ∧ w'.cell? ⟨w.heap.size, 5, none⟩ = some (.int .i64 (t.2 5)) ∧ w'.cell? ⟨w.heap.size, 6, none⟩ = some (.string (t.1 6))) (go_keep) (first
    | (go_at_call_of 28 (Value.string ⟨#[51, 53]⟩); refine (C0 _).mono ?_; rintro e' y0 ⟨rfl, rfl⟩)
    | (go_at_call_of 29 (Value.string ⟨#[51, 52]⟩); refine (C1 _).mono ?_; rintro e' y1 ⟨rfl, b1⟩; have B1 := below_of_drew b1; have X1 : Hid (ThAt nm y1 w.heap.size t) := HT.out.still B1; obtain ⟨u1_0, u1_1, u1_2, u1_3, u1_4, u1_5, u1_6⟩ := at_kind X1.out HK.out; have HB1' : Hid (Below w.heap.size w y1) := HB0.out.trans (B1.mono HB0.out.size))
    | (go_at_call_of 28 (Value.string ⟨#[49, 49]⟩); refine (C2 _).mono ?_; rintro e' y2 ⟨rfl, rfl⟩))
  go_wp2_with fail
  go_region_held3 (fun w' => w'.cell? ⟨w.heap.size, 0, none⟩ = some (.int .i64 6) ∧ w'.cell? ⟨w.heap.size, 1, none⟩ = some (.int .i64 (t.2 1)) ∧ w'.cell? ⟨w.heap.size, 2, none⟩ = some (.string (t.1 2)) ∧ w'.cell? ⟨w.heap.size, 3, none⟩ = some (.string (t.1 3)) ∧ w'.cell? ⟨w.heap.size, 4, none⟩ = some (.int .i64 (t.2 4)) ∧ w'.cell? ⟨w.heap.size, 5, none⟩ = some (.int .i64 (t.2 5)) ∧ w'.cell? ⟨w.heap.size, 6, none⟩ = some (.string (t.1 6))) (go_keep) (first
    | (go_at_call_of 28 (Value.string ⟨#[49, 55]⟩); refine (C3 _).mono ?_; rintro e' y3 ⟨rfl, rfl⟩)
    | (go_at_call 35; refine (WD _).mono ?_; rintro e' yw ⟨rfl, bw⟩; have Bw := below_of_drew bw; have Xw : Hid (ThAt nm yw w.heap.size t) := X1.out.still Bw; obtain ⟨uw_0, uw_1, uw_2, uw_3, uw_4, uw_5, uw_6⟩ := at_kind Xw.out HK.out; have HBw' : Hid (Below w.heap.size w yw) := HB1'.out.trans (Bw.mono HB1'.out.size))
    | (go_at_call_of 28 (Value.string ⟨#[49, 53, 48]⟩); refine (C4 _).mono ?_; rintro e' y4 ⟨rfl, rfl⟩))
  go_wp2_with fail
  refine (C5 _).mono ?_
  rintro e' y5 ⟨rfl, rfl⟩
  all_goals
    go_wp2_with fail
    go_ret
    exact ⟨rfl, HBw'.out⟩
set_option maxRecDepth 1000000 in
set_option maxHeartbeats 8000000 in
theorem refForm_k (t : ThP) (w : World) {k : Int} (hk : t.2 0 = k) (t5 : (k == 5) = false) (t6 : (k == 6) = false) (t7 : (k == 7) = false) (k1 : 1 ≤ k) (k6 : k ≤ 6) (z34 : 0 ≤ t.2 1 ∧ t.2 1 ≤ 1099511627776) (z11 : (t.1 2).size ≤ 600) (z17 : (t.1 3).size ≤ 600) :
    Calls Tryd.prog 18 #[.agg #[.int .i64 (t.2 0), .int .i64 (t.2 1), .string (t.1 2), .string (t.1 3), .int .i64 (t.2 4), .int .i64 (t.2 5), .string (t.1 6)]] w fun e' w' => e' = .returned (.string (mk (((([51, 53] ++ 61 :: ((⟨#[56]⟩ : ByteArray).data.toList ++ [1])) ++ ([51, 52] ++ 61 :: ((numT (t.2 1)).data.toList ++ [1]))) ++ ([49, 49] ++ 61 :: ((t.1 2).data.toList ++ [1]))) ++ (([49, 55] ++ 61 :: ((t.1 3).data.toList ++ [1])) ++ ([49, 53, 48] ++ 61 :: ((wordK k).data.toList ++ [1])))))) ∧ Below w.heap.size w w' := by
  have HB0 : Hid (Below w.heap.size w (refBox w t)) := refBox_below w t
  have HT : Hid (ThAt nm (refBox w t) w.heap.size t) := refBox_at w t
  have HK : Hid (t.2 0 = k) := hk
  have C0 : ∀ w, Calls Tryd.prog 28 #[.string ⟨#[51, 53]⟩, .string (⟨#[56]⟩ : ByteArray)] w fun e' w' => e' = .returned (.string (putL [51, 53] (⟨#[56]⟩ : ByteArray))) ∧ w = w' := fun w => (refPut_any [51, 53] (⟨#[56]⟩ : ByteArray) (by decide) (by decide) w).mono fun e w' ⟨h1, h2⟩ => ⟨h1, h2.symm⟩
  have S0 := putL_size [51, 53] (⟨#[56]⟩ : ByteArray)
  have N0 : (⟨#[56]⟩ : ByteArray).size = 1 := rfl
  simp only [List.length_cons, List.length_nil] at S0
  have C1 : ∀ w, Calls Tryd.prog 29 #[.string ⟨#[51, 52]⟩, .int .i64 (t.2 1)] w fun e' w' => e' = .returned (.string (putL [51, 52] (numT (t.2 1)))) ∧ Below w.heap.size w w' := fun w => numberP_any [51, 52] (t.2 1) (by decide) z34.1 z34.2 w
  have S1 := putL_size [51, 52] (numT (t.2 1))
  have N1 := num_small (t.2 1) z34.2
  simp only [List.length_cons, List.length_nil] at S1
  have C2 : ∀ w, Calls Tryd.prog 28 #[.string ⟨#[49, 49]⟩, .string (t.1 2)] w fun e' w' => e' = .returned (.string (putL [49, 49] (t.1 2))) ∧ w = w' := fun w => (refPut_any [49, 49] (t.1 2) (by decide) (by omega) w).mono fun e w' ⟨h1, h2⟩ => ⟨h1, h2.symm⟩
  have S2 := putL_size [49, 49] (t.1 2)
  simp only [List.length_cons, List.length_nil] at S2
  have C3 : ∀ w, Calls Tryd.prog 28 #[.string ⟨#[49, 55]⟩, .string (t.1 3)] w fun e' w' => e' = .returned (.string (putL [49, 55] (t.1 3))) ∧ w = w' := fun w => (refPut_any [49, 55] (t.1 3) (by decide) (by omega) w).mono fun e w' ⟨h1, h2⟩ => ⟨h1, h2.symm⟩
  have S3 := putL_size [49, 55] (t.1 3)
  simp only [List.length_cons, List.length_nil] at S3
  have C4 : ∀ w, Calls Tryd.prog 28 #[.string ⟨#[49, 53, 48]⟩, .string (wordK k)] w fun e' w' => e' = .returned (.string (putL [49, 53, 48] (wordK k))) ∧ w = w' := fun w => (refPut_any [49, 53, 48] (wordK k) (by decide) (by have := word_size k; omega) w).mono fun e w' ⟨h1, h2⟩ => ⟨h1, h2.symm⟩
  have S4 := putL_size [49, 53, 48] (wordK k)
  have N4 := word_size k
  simp only [List.length_cons, List.length_nil] at S4
  have WD := fun w => refWord_any k k1 k6 w
  have HOUT : Hid ((((putL [51, 53] (⟨#[56]⟩ : ByteArray) ++ putL [51, 52] (numT (t.2 1))) ++ putL [49, 49] (t.1 2)) ++ (putL [49, 55] (t.1 3) ++ putL [49, 53, 48] (wordK k))) = mk (((([51, 53] ++ 61 :: ((⟨#[56]⟩ : ByteArray).data.toList ++ [1])) ++ ([51, 52] ++ 61 :: ((numT (t.2 1)).data.toList ++ [1]))) ++ ([49, 49] ++ 61 :: ((t.1 2).data.toList ++ [1]))) ++ (([49, 55] ++ 61 :: ((t.1 3).data.toList ++ [1])) ++ ([49, 53, 48] ++ 61 :: ((wordK k).data.toList ++ [1]))))) := by
    show _ = _
    apply bytes_ext8
    simp [mk, putL]
  obtain ⟨p0, hp0⟩ : ∃ pp, putL [51, 53] (⟨#[56]⟩ : ByteArray) = pp := ⟨_, rfl⟩
  rw [hp0] at C0 HOUT S0
  obtain ⟨p1, hp1⟩ : ∃ pp, putL [51, 52] (numT (t.2 1)) = pp := ⟨_, rfl⟩
  rw [hp1] at C1 HOUT S1
  obtain ⟨p2, hp2⟩ : ∃ pp, putL [49, 49] (t.1 2) = pp := ⟨_, rfl⟩
  rw [hp2] at C2 HOUT S2
  obtain ⟨p3, hp3⟩ : ∃ pp, putL [49, 55] (t.1 3) = pp := ⟨_, rfl⟩
  rw [hp3] at C3 HOUT S3
  obtain ⟨p4, hp4⟩ : ∃ pp, putL [49, 53, 48] (wordK k) = pp := ⟨_, rfl⟩
  rw [hp4] at C4 HOUT S4
  rw [← HOUT.out]
  clear HOUT hp0 hp1 hp2 hp3 hp4
  have Jq0 := fun w => join_run p0 p1 (by omega) w
  have Zq0 : (p0 ++ p1).size = p0.size + p1.size := ByteArray.size_append
  obtain ⟨q0, hq0⟩ : ∃ q, p0 ++ p1 = q := ⟨_, rfl⟩
  rw [hq0] at Jq0 Zq0 ⊢
  have Jq1 := fun w => join_run q0 p2 (by omega) w
  have Zq1 : (q0 ++ p2).size = q0.size + p2.size := ByteArray.size_append
  obtain ⟨q1, hq1⟩ : ∃ q, q0 ++ p2 = q := ⟨_, rfl⟩
  rw [hq1] at Jq1 Zq1 ⊢
  have Jq2 := fun w => join_run p3 p4 (by omega) w
  have Zq2 : (p3 ++ p4).size = p3.size + p4.size := ByteArray.size_append
  obtain ⟨q2, hq2⟩ : ∃ q, p3 ++ p4 = q := ⟨_, rfl⟩
  rw [hq2] at Jq2 Zq2 ⊢
  have Jq3 := fun w => join_run q1 q2 (by omega) w
  have Zq3 : (q1 ++ q2).size = q1.size + q2.size := ByteArray.size_append
  obtain ⟨q3, hq3⟩ : ∃ q, q1 ++ q2 = q := ⟨_, rfl⟩
  rw [hq3] at Jq3 Zq3 ⊢
  clear hq0 Zq0 hq1 Zq1 hq2 Zq2 hq3 Zq3 S0 N0 S1 N1 S2 S3 S4 N4 z34 z11 z17 k1 k6
  generalize wordK k = wk at *
  unfold refBox at HB0 HT
  rw [hk] at HB0 HT ⊢
  clear hk
  obtain ⟨d0, d1, d2, d3, d4, d5, d6⟩ := at_kind HT.out HK.out
  go_enter Tryd.func18, Tryd.ntmps18
  go_wp2_with fail
  go_region_held3 (fun w' => w'.cell? ⟨w.heap.size, 0, none⟩ = some (.int .i64 k) ∧ w'.cell? ⟨w.heap.size, 1, none⟩ = some (.int .i64 (t.2 1)) ∧ w'.cell? ⟨w.heap.size, 2, none⟩ = some (.string (t.1 2)) ∧ w'.cell? ⟨w.heap.size, 3, none⟩ = some (.string (t.1 3)) ∧ w'.cell? ⟨w.heap.size, 4, none⟩ = some (.int .i64 (t.2 4)) ∧ w'.cell? ⟨w.heap.size, 5, none⟩ = some (.int .i64 (t.2 5)) ∧ w'.cell? ⟨w.heap.size, 6, none⟩ = some (.string (t.1 6))) (go_keep) (first
    | (go_at_call_of 28 (Value.string ⟨#[51, 53]⟩); refine (C0 _).mono ?_; rintro e' y0 ⟨rfl, rfl⟩)
    | (go_at_call_of 29 (Value.string ⟨#[51, 52]⟩); refine (C1 _).mono ?_; rintro e' y1 ⟨rfl, b1⟩; have B1 := below_of_drew b1; have X1 : Hid (ThAt nm y1 w.heap.size t) := HT.out.still B1; obtain ⟨u1_0, u1_1, u1_2, u1_3, u1_4, u1_5, u1_6⟩ := at_kind X1.out HK.out; have HB1' : Hid (Below w.heap.size w y1) := HB0.out.trans (B1.mono HB0.out.size))
    | (go_at_call_of 28 (Value.string ⟨#[49, 49]⟩); refine (C2 _).mono ?_; rintro e' y2 ⟨rfl, rfl⟩))
  go_wp2_with fail
  go_region_held3 (fun w' => w'.cell? ⟨w.heap.size, 0, none⟩ = some (.int .i64 k) ∧ w'.cell? ⟨w.heap.size, 1, none⟩ = some (.int .i64 (t.2 1)) ∧ w'.cell? ⟨w.heap.size, 2, none⟩ = some (.string (t.1 2)) ∧ w'.cell? ⟨w.heap.size, 3, none⟩ = some (.string (t.1 3)) ∧ w'.cell? ⟨w.heap.size, 4, none⟩ = some (.int .i64 (t.2 4)) ∧ w'.cell? ⟨w.heap.size, 5, none⟩ = some (.int .i64 (t.2 5)) ∧ w'.cell? ⟨w.heap.size, 6, none⟩ = some (.string (t.1 6))) (go_keep) (first
    | (go_at_call_of 28 (Value.string ⟨#[49, 55]⟩); refine (C3 _).mono ?_; rintro e' y3 ⟨rfl, rfl⟩)
    | (go_at_call 35; refine (WD _).mono ?_; rintro e' yw ⟨rfl, bw⟩; have Bw := below_of_drew bw; have Xw : Hid (ThAt nm yw w.heap.size t) := X1.out.still Bw; obtain ⟨uw_0, uw_1, uw_2, uw_3, uw_4, uw_5, uw_6⟩ := at_kind Xw.out HK.out; have HBw' : Hid (Below w.heap.size w yw) := HB1'.out.trans (Bw.mono HB1'.out.size))
    | (go_at_call_of 28 (Value.string ⟨#[49, 53, 48]⟩); refine (C4 _).mono ?_; rintro e' y4 ⟨rfl, rfl⟩))
  all_goals
    go_wp2_with fail
    go_ret
    exact ⟨rfl, HBw'.out⟩
end Go.Proofs.YtdbkoflejimibaaDoor.PP.R
/-
  The contracts of the fourteenth reference's RightReply and ReplyForm, for every Reply; the statements' Reply.
-/
namespace Go.Proofs.YtdbkoflejimibaaDoor.PP.R
open Go.ChangeShapes Go.WideShapes Go.ChangeAt Go.RowKit Go.Lib

theorem emp_iff (s : ByteArray) : s.toList.isEmpty = true ↔ s = noText := by
  rw [empty_bytes, decide_eq_true_eq]
theorem right_none {t : ThP} (h : inB (t.2 0) 1 7 = false) : rightB t = false := by
  unfold rightB
  unfold inB at h
  rw [h, Bool.false_and]
theorem right_7 {t : ThP} (e : t.2 0 = 7) : rightB t = (inB (t.2 1) 1 1099511627776 && (vldB (t.1 2) && ((t.1 3).toList.isEmpty && ((t.1 6).toList.isEmpty && ((t.2 4 == 0) && (t.2 5 == 0)))))) := by
  have i3 := emp_iff (t.1 3)
  have i6 := emp_iff (t.1 6)
  rw [Bool.eq_iff_iff, right_iff]
  constructor
  · intro R
    have a := R.all
    have x := i3.2 (R.exec e)
    have o := R.trade (by omega)
    have u := i6.2 (R.bust (by omega))
    rw [e, rlist_7] at a
    simp [Pl.okB] at a
    simp [inB, a, o, x, u]
  · intro q
    simp only [Bool.and_eq_true] at q
    have x := i3.1 q.2.2.1
    have u := i6.1 q.2.2.2.1
    have q' := q
    simp [inB] at q'
    refine ⟨by rw [e]; omega, ?_, fun _ => x, fun _ => ⟨q'.2.2.2.2.1, q'.2.2.2.2.2⟩, fun _ => u⟩
    rw [e, rlist_7]
    simp [Pl.okB, q']
theorem right_6 {t : ThP} (e : t.2 0 = 6) : rightB t = (inB (t.2 1) 1 1099511627776 && (vldB (t.1 2) && (vldB (t.1 3) && (vldB (t.1 6) && ((t.2 4 == 0) && (t.2 5 == 0)))))) := by
  rw [Bool.eq_iff_iff, right_iff]
  constructor
  · intro R
    have a := R.all
    have o := R.trade (by omega)
    rw [e, rlist_6] at a
    simp [Pl.okB] at a
    simp [inB, a, o]
  · intro q
    have q' := q
    simp [inB] at q'
    refine ⟨by rw [e]; omega, ?_, fun n => by omega, fun _ => ⟨q'.2.2.2.2.1, q'.2.2.2.2.2⟩, fun n => absurd e n⟩
    rw [e, rlist_6]
    simp [Pl.okB, q']
theorem right_5 {t : ThP} (e : t.2 0 = 5) : rightB t = (inB (t.2 1) 1 1099511627776 && (vldB (t.1 2) && (vldB (t.1 3) && ((t.1 6).toList.isEmpty && (inB (t.2 4) 1 1099511627776 && inB (t.2 5) 1 1099511627776))))) := by
  have i6 := emp_iff (t.1 6)
  rw [Bool.eq_iff_iff, right_iff]
  constructor
  · intro R
    have a := R.all
    have u := i6.2 (R.bust (by omega))
    rw [e, rlist_5] at a
    simp [Pl.okB] at a
    simp [inB, a, u]
  · intro q
    simp only [Bool.and_eq_true] at q
    have u := i6.1 q.2.2.2.1
    have q' := q
    simp [inB] at q'
    refine ⟨by rw [e]; omega, ?_, fun n => by omega, fun n => absurd e n, fun _ => u⟩
    rw [e, rlist_5]
    simp [Pl.okB, q']
theorem right_k {t : ThP} (h : inB (t.2 0) 1 7 = true) (n5 : t.2 0 ≠ 5) (n6 : t.2 0 ≠ 6) (n7 : t.2 0 ≠ 7) : rightB t = (inB (t.2 1) 1 1099511627776 && (vldB (t.1 2) && (vldB (t.1 3) && ((t.1 6).toList.isEmpty && ((t.2 4 == 0) && (t.2 5 == 0)))))) := by
  have i6 := emp_iff (t.1 6)
  rw [Bool.eq_iff_iff, right_iff]
  constructor
  · intro R
    have a := R.all
    have o := R.trade n5
    have u := i6.2 (R.bust n6)
    rw [rlist_0 n5 n6 n7] at a
    simp [Pl.okB] at a
    simp [inB, a, o, u]
  · intro q
    simp only [Bool.and_eq_true] at q
    have u := i6.1 q.2.2.2.1
    have q' := q
    simp [inB] at q'
    refine ⟨of_decide_eq_true h, ?_, fun n => absurd n n7, fun _ => ⟨q'.2.2.2.2.1, q'.2.2.2.2.2⟩, fun _ => u⟩
    rw [rlist_0 n5 n6 n7]
    simp [Pl.okB, q']
theorem refRight_any (t : ThP) (w : World) (z2 : (t.1 2).size ≤ 300) (z3 : (t.1 3).size ≤ 300) (z6 : (t.1 6).size ≤ 300) :
    Calls Tryd.prog 15 #[.agg #[.int .i64 (t.2 0), .int .i64 (t.2 1), .string (t.1 2), .string (t.1 3), .int .i64 (t.2 4), .int .i64 (t.2 5), .string (t.1 6)]] w fun e w' => e = .returned (.bool (rightB t)) ∧ Below w.heap.size w w' := by
  cases hi : inB (t.2 0) 1 7 with
  | false =>
    rw [right_none hi]
    exact refRight_none t w hi
  | true =>
    rcases kinds (t.2 0) with ⟨n5, n6, n7⟩ | e | e | e
    · rw [right_k hi n5 n6 n7]
      exact refRight_k t w rfl (beq_false_of_ne n5) (beq_false_of_ne n6) (beq_false_of_ne n7) hi z2 z3
    · rw [right_5 e]
      exact refRight_5 t w e z2 z3
    · rw [right_6 e]
      exact refRight_6 t w e z2 z3 z6
    · rw [right_7 e]
      exact refRight_7 t w e z2
theorem dg35 : decDigits 35 = [51, 53] := by rw [decDigits_two (by omega) (by omega)]; rfl
theorem dg34 : decDigits 34 = [51, 52] := by rw [decDigits_two (by omega) (by omega)]; rfl
theorem dg11 : decDigits 11 = [49, 49] := by rw [decDigits_two (by omega) (by omega)]; rfl
theorem dg17 : decDigits 17 = [49, 55] := by rw [decDigits_two (by omega) (by omega)]; rfl
theorem dg32 : decDigits 32 = [51, 50] := by rw [decDigits_two (by omega) (by omega)]; rfl
theorem dg31 : decDigits 31 = [51, 49] := by rw [decDigits_two (by omega) (by omega)]; rfl
theorem dg19 : decDigits 19 = [49, 57] := by rw [decDigits_two (by omega) (by omega)]; rfl
theorem dg150 : decDigits 150 = [49, 53, 48] := by
  rw [decDigits, dif_neg (by omega), decDigits_two (by omega) (by omega)]
  simp
theorem refForm_any (t : ThP) (R : RightP t) (w : World) :
    Calls Tryd.prog 18 #[.agg #[.int .i64 (t.2 0), .int .i64 (t.2 1), .string (t.1 2), .string (t.1 3), .int .i64 (t.2 4), .int .i64 (t.2 5), .string (t.1 6)]] w fun e w' => e = .returned (.string (mk (cat (fieldsT t)))) ∧ Below w.heap.size w w' := by
  obtain ⟨ok, _⟩ := right_allOk (list_good (t.2 0)) (word35_val (t.2 0)) R.thick
  have ok : AllOk (fieldsT t) := ok
  rw [cat_flat ok]
  have A := R.all
  have SZ : ∀ s : ByteArray, vldB s = true → s.size ≤ 600 := fun s h => by
    have := (name_val h).2.1
    rw [size_eq]
    omega
  have hk := R.kind
  rcases kinds (t.2 0) with ⟨n5, n6, n7⟩ | e | e | e
  · unfold fieldsT fieldsG
    rw [rlist_0 n5 n6 n7] at A
    rw [listK_0 n5 n6 n7]
    simp [Pl.okB] at A
    refine (refForm_k t w rfl (beq_false_of_ne n5) (beq_false_of_ne n6) (beq_false_of_ne n7) (by omega) (by omega) (by omega) (SZ _ A.2.1) (SZ _ A.2.2)).mono ?_
    rintro e' w' ⟨rfl, b⟩
    refine ⟨?_, b⟩
    congr 3
    simp [flat, Pl.text, word35, n7, upd, dg35, dg34, dg11, dg17, dg150]
  · have FT : fieldsT t = fieldsG (word35 5) (listK 5) (thick t 5) := by unfold fieldsT; rw [e]
    rw [FT, listK_5]
    unfold fieldsG
    rw [e, rlist_5] at A
    simp [Pl.okB] at A
    refine (refForm_5 t w e (by omega) (SZ _ A.2.1) (SZ _ A.2.2.1) (by omega) (by omega)).mono ?_
    rintro e' w' ⟨rfl, b⟩
    refine ⟨?_, b⟩
    congr 3
    simp [flat, Pl.text, word35, upd, dg35, dg34, dg11, dg17, dg150, dg32, dg31]
  · have FT : fieldsT t = fieldsG (word35 6) (listK 6) (thick t 6) := by unfold fieldsT; rw [e]
    rw [FT, listK_6]
    unfold fieldsG
    rw [e, rlist_6] at A
    simp [Pl.okB] at A
    refine (refForm_6 t w e (by omega) (SZ _ A.2.1) (SZ _ A.2.2.1) (SZ _ A.2.2.2)).mono ?_
    rintro e' w' ⟨rfl, b⟩
    refine ⟨?_, b⟩
    congr 3
    simp [flat, Pl.text, word35, upd, dg35, dg34, dg11, dg17, dg150, dg19]
  · have FT : fieldsT t = fieldsG (word35 7) (listK 7) (thick t 7) := by unfold fieldsT; rw [e]
    rw [FT, listK_7]
    unfold fieldsG
    rw [e, rlist_7] at A
    simp [Pl.okB] at A
    refine (refForm_7 t w e (by omega) (SZ _ A.2)).mono ?_
    rintro e' w' ⟨rfl, b⟩
    refine ⟨?_, b⟩
    congr 3
    simp [flat, Pl.text, word35, upd, dg35, dg34, dg11]
set_option maxHeartbeats 4000000 in
theorem conv_any (t : ThP) (w : World) :
    Calls Tryd.prog 16 #[.agg #[.int .i64 (t.2 0), .int .i64 (t.2 1), .string (t.1 2), .string (t.1 3), .int .i64 (t.2 4), .int .i64 (t.2 5), .string (t.1 6)]] w fun e w' => e = .returned (.agg #[.int .i64 (t.2 0), .int .i64 (t.2 1), .string (t.1 2), .string (t.1 3), .int .i64 (t.2 4), .int .i64 (t.2 5), .string (t.1 6)]) ∧ Below w.heap.size w w' := by
  have HB : Hid (Below w.heap.size w (refBox (boxT w t) t)) := (box_below w t).trans ((refBox_below (boxT w t) t).mono (box_below w t).size)
  go_enter Tryd.func16, Tryd.ntmps16
  go_wp2_with fail
  refine bodyPost_ret (v := .agg #[.int .i64 (t.2 0), .int .i64 (t.2 1), .string (t.1 2), .string (t.1 3), .int .i64 (t.2 4), .int .i64 (t.2 5), .string (t.1 6)]) (by simp [results, Tryd.results16, go_sem]) rfl ?_
  exact ⟨rfl, HB.out⟩
end Go.Proofs.YtdbkoflejimibaaDoor.PP.R
