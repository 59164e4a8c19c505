/-
  Contracts of the reference's Put and Number; fields that all have forms, joined.
-/
import Derived.Deep.RegionHeld3
import Derived.Deep.RegionWith
import Derived.Test.YtdbkoflejimibaaDoorGB
import Derived.Test.YtdbkoflejimibaaDoorGE
import Derived.Test.YtdbkoflejimibaaDoorJB
import Derived.Test.YtdbkoflejimibaaDoorJF
import Derived.Test.YtdbkoflejimibaaDoorGA
namespace Go.Proofs.YtdbkoflejimibaaDoor
open Go.ChangeShapes Go.WideShapes Go.ChangeAt Go.RowKit Go.Lib

/-- A field of digits and a value. -/
def putL (a : List UInt8) (v : ByteArray) : ByteArray := mk (a ++ 61 :: (v.data.toList ++ [1]))
theorem putL_glue (a : List UInt8) (v : ByteArray) : mk a ++ (⟨#[61]⟩ : ByteArray) ++ v ++ (⟨#[1]⟩ : ByteArray) = putL a v := by
  apply bytes_ext8
  simp [mk, putL]
theorem putL_size (a : List UInt8) (v : ByteArray) : (putL a v).size = a.length + v.size + 2 := by
  unfold putL
  rw [mk_size, size_eq]
  simp
  omega
theorem join_run (a b : ByteArray) (h : a.size + b.size ≤ 10000000) (w : World) : (Op.stringOp .add a b).run Tryd.prog w = .ok (.string (a ++ b)) w := by
  rw [run_string_add_sum]
  omega
set_option maxHeartbeats 2000000 in
theorem refPut_any (a : List UInt8) (v : ByteArray) (ha : a.length ≤ 10) (hv : v.size ≤ 100000) (w : World) :
    Calls Tryd.prog 28 #[.string (mk a), .string v] w fun e w' => e = .returned (.string (putL a v)) ∧ w' = w := by
  obtain ⟨D1, D2, j1, j2, j3⟩ := glue_runs (mk a) v (putL a v) (putL_glue a v) (by rw [mk_size]; omega) (by omega)
  generalize mk a = A at *
  generalize putL a v = X at *
  clear ha hv
  go_enter Tryd.func28, Tryd.ntmps28
  go_wp2_with fail
  go_ret
  exact ⟨rfl, rfl⟩
set_option maxHeartbeats 2000000 in
theorem numberP_any (a : List UInt8) (n : Int) (ha : a.length ≤ 10) (h0 : 0 ≤ n) (h2 : n ≤ 1099511627776) (w : World) :
    Calls Tryd.prog 29 #[.string (mk a), .int .i64 n] w fun e w' => e = .returned (.string (putL a (numT n))) ∧ Below w.heap.size w w' := by
  obtain ⟨m, rfl⟩ : ∃ m : Nat, n = (m : Int) := ⟨n.toNat, by omega⟩
  have DG := refDigits_all m (by omega) w
  have hz : (numT (m : Int)).size ≤ 100000 := by
    have := (numT_val (n := (m : Int)) (by omega)).2.1
    rw [size_eq]
    omega
  have PT := fun w => refPut_any a (numT (m : Int)) ha hz w
  rw [show mk (decDigits m) = numT (m : Int) from rfl] at DG
  generalize numT (m : Int) = X at *
  generalize mk a = A at *
  clear ha hz h2
  go_enter Tryd.func29, Tryd.ntmps29
  go_wp2_with fail
  refine DG.mono ?_
  rintro e w1 ⟨rfl, b1⟩
  go_wp2_with fail
  refine (PT _).mono ?_
  rintro e w2 ⟨rfl, rfl⟩
  go_wp2_with fail
  go_ret
  exact ⟨rfl, b1⟩
theorem num_small (n : Int) (h2 : n ≤ 1099511627776) : (numT n).size ≤ 600 := by
  have := (numT_val (n := n) (by omega)).2.1
  rw [size_eq]
  omega
/-- Fields that all have forms, joined. -/
def flat (L : List Fd) : List UInt8 := (L.map fun f => decDigits f.1.toNat ++ 61 :: (f.2.data.toList ++ [1])).flatten
theorem cat_flat : ∀ {L : List Fd}, AllOk L → cat L = flat L
  | [], _ => rfl
  | f :: r, h => by
    obtain ⟨h1, h2⟩ := AllOk.cons.1 h
    rw [cat, cat_flat h2]
    obtain ⟨_, _, _, h4⟩ := formE_ok (ok_form h1)
    rw [h4]
    rfl
end Go.Proofs.YtdbkoflejimibaaDoor
/-
  The contract of the fourteenth reference's RightOrder, a theorem a kind.
-/
namespace Go.Proofs.YtdbkoflejimibaaDoor.PP.O
open Go.ChangeShapes Go.WideShapes Go.ChangeAt Go.RowKit Go.Lib

/-- A number lies within two ends. -/
def inB (n lo hi : Int) : Bool := decide (lo ≤ n ∧ n ≤ hi)
set_option maxHeartbeats 1000000 in
theorem refIn_at (n lo hi : Int) (w : World) : Calls Tryd.prog 24 #[.int .i64 n, .int .i64 lo, .int .i64 hi] w fun e w' => e = .returned (.bool (inB n lo hi)) ∧ w = w' := by
  unfold inB
  by_cases h1 : lo ≤ n
  · by_cases h2 : n ≤ hi
    · rw [decide_eq_true ⟨h1, h2⟩]
      go_enter Tryd.func24, Tryd.ntmps24
      go_wp2
      go_ret
      exact ⟨rfl, rfl⟩
    · rw [decide_eq_false (fun h => h2 h.2)]
      go_enter Tryd.func24, Tryd.ntmps24
      go_wp2
      go_ret
      exact ⟨rfl, rfl⟩
  · rw [decide_eq_false (fun h => h1 h.1)]
    go_enter Tryd.func24, Tryd.ntmps24
    go_wp2
    go_ret
    exact ⟨rfl, rfl⟩
/-- A block that holds the reference's. -/
abbrev refBox (w : World) (t : ThP) : World := w.alloc (.cells #[.int .i64 (t.2 0), .int .i64 (t.2 1), .string (t.1 2), .string (t.1 3), .int .i64 (t.2 4), .int .i64 (t.2 5), .int .i64 (t.2 6)] 30)
theorem refBox_below (w : World) (t : ThP) : Below w.heap.size w (refBox w t) := (Below.refl _ w).alloc (Nat.le_refl _) _
theorem refBox_at (w : World) (t : ThP) : ThAt nm (refBox w t) w.heap.size t := by
  refine ⟨fun j hj => ?_, fun j => by simp⟩
  rcases (show j = 0 ∨ j = 1 ∨ j = 2 ∨ j = 3 ∨ j = 4 ∨ j = 5 ∨ j = 6 by omega) with rfl | rfl | rfl | rfl | rfl | rfl | rfl <;> simp [cellT, nm]
theorem at_kind {w : World} {b : Nat} {t : ThP} {k : Int} (h : ThAt nm w b t) (hk : t.2 0 = k) : w.cell? ⟨b, 0, none⟩ = some (.int .i64 k) ∧ w.cell? ⟨b, 1, none⟩ = some (.int .i64 (t.2 1)) ∧ w.cell? ⟨b, 2, none⟩ = some (.string (t.1 2)) ∧ w.cell? ⟨b, 3, none⟩ = some (.string (t.1 3)) ∧ w.cell? ⟨b, 4, none⟩ = some (.int .i64 (t.2 4)) ∧ w.cell? ⟨b, 5, none⟩ = some (.int .i64 (t.2 5)) ∧ w.cell? ⟨b, 6, none⟩ = some (.int .i64 (t.2 6)) := by
  subst hk
  exact ThAt.all h
theorem refKind_in (k : Int) (b : Bool) (h : inB k 1 3 = b) (w : World) : Calls Tryd.prog 24 #[.int .i64 k, .int .i64 1, .int .i64 3] w fun e w' => e = .returned (.bool b) ∧ w = w' := by
  rw [← h]
  exact refIn_at k 1 3 w
set_option maxHeartbeats 4000000 in
theorem refRight_none (t : ThP) (w : World) (hk : inB (t.2 0) 1 3 = false) :
    Calls Tryd.prog 10 #[.agg #[.int .i64 (t.2 0), .int .i64 (t.2 1), .string (t.1 2), .string (t.1 3), .int .i64 (t.2 4), .int .i64 (t.2 5), .int .i64 (t.2 6)]] w fun e w' => e = .returned (.bool false) ∧ Below w.heap.size w w' := by
  have HB0 : Hid (Below w.heap.size w (refBox w t)) := refBox_below w t
  have K := refKind_in _ _ hk
  clear hk
  go_enter Tryd.func10, Tryd.ntmps10
  go_wp2_with fail
  refine (K _).mono ?_
  rintro e w1 ⟨rfl, rfl⟩
  go_wp2_with fail
  go_ret
  exact ⟨rfl, HB0.out⟩
set_option maxRecDepth 100000 in
set_option maxHeartbeats 8000000 in
theorem refRight_1 (t : ThP) (w : World) (hk : t.2 0 = 1) (z2 : (t.1 2).size ≤ 300) (z3 : (t.1 3).size ≤ 300) :
    Calls Tryd.prog 10 #[.agg #[.int .i64 (t.2 0), .int .i64 (t.2 1), .string (t.1 2), .string (t.1 3), .int .i64 (t.2 4), .int .i64 (t.2 5), .int .i64 (t.2 6)]] w fun e w' => e = .returned (.bool (inB (t.2 1) 1 1099511627776 && (vldB (t.1 2) && (vldB (t.1 3) && (inB (t.2 4) 1 2 && (inB (t.2 5) 1 1099511627776 && inB (t.2 6) 1 1099511627776)))))) ∧ Below w.heap.size w w' := by
  have HB0 : Hid (Below w.heap.size w (refBox w t)) := refBox_below w t
  have HA0 : Hid (ThAt nm (refBox w t) w.heap.size t) := refBox_at w t
  have K := refKind_in 1 true (by decide)
  have F0 := refIn_at (t.2 1) 1 1099511627776
  have F1 := fun w => refValid_any (t.1 2) w z2
  have F2 := fun w => refValid_any (t.1 3) w z3
  have F3 := refIn_at (t.2 4) 1 2
  have F4 := refIn_at (t.2 5) 1 1099511627776
  have F5 := refIn_at (t.2 6) 1 1099511627776
  have HK : Hid (t.2 0 = 1) := hk
  unfold refBox at HB0 HA0
  rw [hk] at HB0 HA0 ⊢
  obtain ⟨b0, h0⟩ : ∃ b, inB (t.2 1) 1 1099511627776 = b := ⟨_, rfl⟩
  rw [h0] at F0 ⊢
  obtain ⟨b1, h1⟩ : ∃ b, vldB (t.1 2) = b := ⟨_, rfl⟩
  rw [h1] at F1 ⊢
  obtain ⟨b2, h2⟩ : ∃ b, vldB (t.1 3) = b := ⟨_, rfl⟩
  rw [h2] at F2 ⊢
  obtain ⟨b3, h3⟩ : ∃ b, inB (t.2 4) 1 2 = b := ⟨_, rfl⟩
  rw [h3] at F3 ⊢
  obtain ⟨b4, h4⟩ : ∃ b, inB (t.2 5) 1 1099511627776 = b := ⟨_, rfl⟩
  rw [h4] at F4 ⊢
  obtain ⟨b5, h5⟩ : ∃ b, inB (t.2 6) 1 1099511627776 = b := ⟨_, rfl⟩
  rw [h5] at F5 ⊢
  clear hk h0 h1 h2 h3 h4 h5 z2 z3
  cases b0 with
  | false =>
    simp only [Bool.false_and]
    go_enter Tryd.func10, Tryd.ntmps10
    go_wp2_with fail
    refine (K _).mono ?_
    rintro e y0 ⟨rfl, rfl⟩
    go_wp2_with fail
    refine (F0 _).mono ?_
    rintro e y1 ⟨rfl, rfl⟩
    go_wp2_with fail
    go_ret
    exact ⟨rfl, HB0.out⟩
  | true =>
    cases b1 with
    | false =>
      simp only [Bool.true_and, Bool.false_and]
      go_enter Tryd.func10, Tryd.ntmps10
      go_wp2_with fail
      refine (K _).mono ?_
      rintro e y0 ⟨rfl, rfl⟩
      go_wp2_with fail
      refine (F0 _).mono ?_
      rintro e y1 ⟨rfl, rfl⟩
      go_wp2_with fail
      refine (F1 _).mono ?_
      rintro e x1 ⟨rfl, c1⟩
      have HA1' : Hid (ThAt nm x1 w.heap.size t) := HA0.out.still c1
      have HB1' : Hid (Below w.heap.size w x1) := HB0.out.trans (c1.mono HB0.out.size)
      obtain ⟨d1_0, d1_1, d1_2, d1_3, d1_4, d1_5, d1_6⟩ := at_kind HA1'.out HK.out
      clear c1
      go_wp2_with fail
      go_ret
      exact ⟨rfl, HB1'.out⟩
    | true =>
      cases b2 with
      | false =>
        simp only [Bool.true_and, Bool.false_and]
        go_enter Tryd.func10, Tryd.ntmps10
        go_wp2_with fail
        refine (K _).mono ?_
        rintro e y0 ⟨rfl, rfl⟩
        go_wp2_with fail
        refine (F0 _).mono ?_
        rintro e y1 ⟨rfl, rfl⟩
        go_wp2_with fail
        refine (F1 _).mono ?_
        rintro e x1 ⟨rfl, c1⟩
        have HA1' : Hid (ThAt nm x1 w.heap.size t) := HA0.out.still c1
        have HB1' : Hid (Below w.heap.size w x1) := HB0.out.trans (c1.mono HB0.out.size)
        obtain ⟨d1_0, d1_1, d1_2, d1_3, d1_4, d1_5, d1_6⟩ := at_kind HA1'.out HK.out
        clear c1
        go_wp2_with fail
        refine (F2 _).mono ?_
        rintro e x2 ⟨rfl, c2⟩
        have HA2' : Hid (ThAt nm x2 w.heap.size t) := HA1'.out.still c2
        have HB2' : Hid (Below w.heap.size w x2) := HB1'.out.trans (c2.mono HB1'.out.size)
        clear d1_0 d1_1 d1_2 d1_3 d1_4 d1_5 d1_6
        obtain ⟨d2_0, d2_1, d2_2, d2_3, d2_4, d2_5, d2_6⟩ := at_kind HA2'.out HK.out
        clear c2
        go_wp2_with fail
        go_ret
        exact ⟨rfl, HB2'.out⟩
      | true =>
        cases b3 with
        | false =>
          simp only [Bool.true_and, Bool.false_and]
          go_enter Tryd.func10, Tryd.ntmps10
          go_wp2_with fail
          refine (K _).mono ?_
          rintro e y0 ⟨rfl, rfl⟩
          go_wp2_with fail
          refine (F0 _).mono ?_
          rintro e y1 ⟨rfl, rfl⟩
          go_wp2_with fail
          refine (F1 _).mono ?_
          rintro e x1 ⟨rfl, c1⟩
          have HA1' : Hid (ThAt nm x1 w.heap.size t) := HA0.out.still c1
          have HB1' : Hid (Below w.heap.size w x1) := HB0.out.trans (c1.mono HB0.out.size)
          obtain ⟨d1_0, d1_1, d1_2, d1_3, d1_4, d1_5, d1_6⟩ := at_kind HA1'.out HK.out
          clear c1
          go_wp2_with fail
          refine (F2 _).mono ?_
          rintro e x2 ⟨rfl, c2⟩
          have HA2' : Hid (ThAt nm x2 w.heap.size t) := HA1'.out.still c2
          have HB2' : Hid (Below w.heap.size w x2) := HB1'.out.trans (c2.mono HB1'.out.size)
          clear d1_0 d1_1 d1_2 d1_3 d1_4 d1_5 d1_6
          obtain ⟨d2_0, d2_1, d2_2, d2_3, d2_4, d2_5, d2_6⟩ := at_kind HA2'.out HK.out
          clear c2
          go_wp2_with fail
          refine (F3 _).mono ?_
          rintro e y4 ⟨rfl, rfl⟩
          go_wp2_with fail
          go_ret
          exact ⟨rfl, HB2'.out⟩
        | true =>
          cases b4 with
          | false =>
            simp only [Bool.true_and, Bool.false_and]
            go_enter Tryd.func10, Tryd.ntmps10
            go_wp2_with fail
            refine (K _).mono ?_
            rintro e y0 ⟨rfl, rfl⟩
            go_wp2_with fail
            refine (F0 _).mono ?_
            rintro e y1 ⟨rfl, rfl⟩
            go_wp2_with fail
            refine (F1 _).mono ?_
            rintro e x1 ⟨rfl, c1⟩
            have HA1' : Hid (ThAt nm x1 w.heap.size t) := HA0.out.still c1
            have HB1' : Hid (Below w.heap.size w x1) := HB0.out.trans (c1.mono HB0.out.size)
            obtain ⟨d1_0, d1_1, d1_2, d1_3, d1_4, d1_5, d1_6⟩ := at_kind HA1'.out HK.out
            clear c1
            go_wp2_with fail
            refine (F2 _).mono ?_
            rintro e x2 ⟨rfl, c2⟩
            have HA2' : Hid (ThAt nm x2 w.heap.size t) := HA1'.out.still c2
            have HB2' : Hid (Below w.heap.size w x2) := HB1'.out.trans (c2.mono HB1'.out.size)
            clear d1_0 d1_1 d1_2 d1_3 d1_4 d1_5 d1_6
            obtain ⟨d2_0, d2_1, d2_2, d2_3, d2_4, d2_5, d2_6⟩ := at_kind HA2'.out HK.out
            clear c2
            go_wp2_with fail
            refine (F3 _).mono ?_
            rintro e y4 ⟨rfl, rfl⟩
            go_wp2_with fail
            refine (F4 _).mono ?_
            rintro e y5 ⟨rfl, rfl⟩
            go_wp2_with fail
            go_ret
            exact ⟨rfl, HB2'.out⟩
          | true =>
            cases b5 with
            | false =>
              simp only [Bool.true_and]
              go_enter Tryd.func10, Tryd.ntmps10
              go_wp2_with fail
              refine (K _).mono ?_
              rintro e y0 ⟨rfl, rfl⟩
              go_wp2_with fail
              refine (F0 _).mono ?_
              rintro e y1 ⟨rfl, rfl⟩
              go_wp2_with fail
              refine (F1 _).mono ?_
              rintro e x1 ⟨rfl, c1⟩
              have HA1' : Hid (ThAt nm x1 w.heap.size t) := HA0.out.still c1
              have HB1' : Hid (Below w.heap.size w x1) := HB0.out.trans (c1.mono HB0.out.size)
              obtain ⟨d1_0, d1_1, d1_2, d1_3, d1_4, d1_5, d1_6⟩ := at_kind HA1'.out HK.out
              clear c1
              go_wp2_with fail
              refine (F2 _).mono ?_
              rintro e x2 ⟨rfl, c2⟩
              have HA2' : Hid (ThAt nm x2 w.heap.size t) := HA1'.out.still c2
              have HB2' : Hid (Below w.heap.size w x2) := HB1'.out.trans (c2.mono HB1'.out.size)
              clear d1_0 d1_1 d1_2 d1_3 d1_4 d1_5 d1_6
              obtain ⟨d2_0, d2_1, d2_2, d2_3, d2_4, d2_5, d2_6⟩ := at_kind HA2'.out HK.out
              clear c2
              go_wp2_with fail
              refine (F3 _).mono ?_
              rintro e y4 ⟨rfl, rfl⟩
              go_wp2_with fail
              refine (F4 _).mono ?_
              rintro e y5 ⟨rfl, rfl⟩
              go_wp2_with fail
              refine (F5 _).mono ?_
              rintro e y6 ⟨rfl, rfl⟩
              go_wp2_with fail
              go_ret
              exact ⟨rfl, HB2'.out⟩
            | true =>
              simp only [Bool.true_and]
              go_enter Tryd.func10, Tryd.ntmps10
              go_wp2_with fail
              refine (K _).mono ?_
              rintro e y0 ⟨rfl, rfl⟩
              go_wp2_with fail
              refine (F0 _).mono ?_
              rintro e y1 ⟨rfl, rfl⟩
              go_wp2_with fail
              refine (F1 _).mono ?_
              rintro e x1 ⟨rfl, c1⟩
              have HA1' : Hid (ThAt nm x1 w.heap.size t) := HA0.out.still c1
              have HB1' : Hid (Below w.heap.size w x1) := HB0.out.trans (c1.mono HB0.out.size)
              obtain ⟨d1_0, d1_1, d1_2, d1_3, d1_4, d1_5, d1_6⟩ := at_kind HA1'.out HK.out
              clear c1
              go_wp2_with fail
              refine (F2 _).mono ?_
              rintro e x2 ⟨rfl, c2⟩
              have HA2' : Hid (ThAt nm x2 w.heap.size t) := HA1'.out.still c2
              have HB2' : Hid (Below w.heap.size w x2) := HB1'.out.trans (c2.mono HB1'.out.size)
              clear d1_0 d1_1 d1_2 d1_3 d1_4 d1_5 d1_6
              obtain ⟨d2_0, d2_1, d2_2, d2_3, d2_4, d2_5, d2_6⟩ := at_kind HA2'.out HK.out
              clear c2
              go_wp2_with fail
              refine (F3 _).mono ?_
              rintro e y4 ⟨rfl, rfl⟩
              go_wp2_with fail
              refine (F4 _).mono ?_
              rintro e y5 ⟨rfl, rfl⟩
              go_wp2_with fail
              refine (F5 _).mono ?_
              rintro e y6 ⟨rfl, rfl⟩
              go_wp2_with fail
              go_ret
              exact ⟨rfl, HB2'.out⟩
set_option maxRecDepth 100000 in
set_option maxHeartbeats 8000000 in
theorem refRight_2 (t : ThP) (w : World) (hk : t.2 0 = 2) (z2 : (t.1 2).size ≤ 300) :
    Calls Tryd.prog 10 #[.agg #[.int .i64 (t.2 0), .int .i64 (t.2 1), .string (t.1 2), .string (t.1 3), .int .i64 (t.2 4), .int .i64 (t.2 5), .int .i64 (t.2 6)]] w fun e w' => e = .returned (.bool (inB (t.2 1) 1 1099511627776 && (vldB (t.1 2) && ((t.1 3).toList.isEmpty && ((t.2 4 == 0) && ((t.2 5 == 0) && (t.2 6 == 0))))))) ∧ Below w.heap.size w w' := by
  have HB0 : Hid (Below w.heap.size w (refBox w t)) := refBox_below w t
  have HA0 : Hid (ThAt nm (refBox w t) w.heap.size t) := refBox_at w t
  have K := refKind_in 2 true (by decide)
  have F0 := refIn_at (t.2 1) 1 1099511627776
  have F1 := fun w => refValid_any (t.1 2) w z2
  have HK : Hid (t.2 0 = 2) := hk
  unfold refBox at HB0 HA0
  rw [hk] at HB0 HA0 ⊢
  obtain ⟨b0, h0⟩ : ∃ b, inB (t.2 1) 1 1099511627776 = b := ⟨_, rfl⟩
  rw [h0] at F0 ⊢
  obtain ⟨b1, h1⟩ : ∃ b, vldB (t.1 2) = b := ⟨_, rfl⟩
  rw [h1] at F1 ⊢
  obtain ⟨b2, h2⟩ : ∃ b, (t.1 3).toList.isEmpty = b := ⟨_, rfl⟩
  rw [h2]
  obtain ⟨b3, h3⟩ : ∃ b, (t.2 4 == 0) = b := ⟨_, rfl⟩
  rw [h3]
  obtain ⟨b4, h4⟩ : ∃ b, (t.2 5 == 0) = b := ⟨_, rfl⟩
  rw [h4]
  obtain ⟨b5, h5⟩ : ∃ b, (t.2 6 == 0) = b := ⟨_, rfl⟩
  rw [h5]
  clear hk h0 h1 z2
  cases b0 with
  | false =>
    simp only [Bool.false_and]
    go_enter Tryd.func10, Tryd.ntmps10
    go_wp2_with fail
    refine (K _).mono ?_
    rintro e y0 ⟨rfl, rfl⟩
    go_wp2_with fail
    refine (F0 _).mono ?_
    rintro e y1 ⟨rfl, rfl⟩
    go_wp2_with fail
    go_ret
    exact ⟨rfl, HB0.out⟩
  | true =>
    cases b1 with
    | false =>
      simp only [Bool.true_and, Bool.false_and]
      go_enter Tryd.func10, Tryd.ntmps10
      go_wp2_with fail
      refine (K _).mono ?_
      rintro e y0 ⟨rfl, rfl⟩
      go_wp2_with fail
      refine (F0 _).mono ?_
      rintro e y1 ⟨rfl, rfl⟩
      go_wp2_with fail
      refine (F1 _).mono ?_
      rintro e x1 ⟨rfl, c1⟩
      have HA1' : Hid (ThAt nm x1 w.heap.size t) := HA0.out.still c1
      have HB1' : Hid (Below w.heap.size w x1) := HB0.out.trans (c1.mono HB0.out.size)
      obtain ⟨d1_0, d1_1, d1_2, d1_3, d1_4, d1_5, d1_6⟩ := at_kind HA1'.out HK.out
      clear c1
      go_wp2_with fail
      go_ret
      exact ⟨rfl, HB1'.out⟩
    | true =>
      cases b2 with
      | false =>
        simp only [Bool.true_and, Bool.false_and]
        go_enter Tryd.func10, Tryd.ntmps10
        go_wp2_with fail
        refine (K _).mono ?_
        rintro e y0 ⟨rfl, rfl⟩
        go_wp2_with fail
        refine (F0 _).mono ?_
        rintro e y1 ⟨rfl, rfl⟩
        go_wp2_with fail
        refine (F1 _).mono ?_
        rintro e x1 ⟨rfl, c1⟩
        have HA1' : Hid (ThAt nm x1 w.heap.size t) := HA0.out.still c1
        have HB1' : Hid (Below w.heap.size w x1) := HB0.out.trans (c1.mono HB0.out.size)
        obtain ⟨d1_0, d1_1, d1_2, d1_3, d1_4, d1_5, d1_6⟩ := at_kind HA1'.out HK.out
        clear c1
        go_wp2_with fail
        go_ret
        exact ⟨rfl, HB1'.out⟩
      | true =>
        cases b3 with
        | false =>
          simp only [Bool.true_and, Bool.false_and]
          go_enter Tryd.func10, Tryd.ntmps10
          go_wp2_with fail
          refine (K _).mono ?_
          rintro e y0 ⟨rfl, rfl⟩
          go_wp2_with fail
          refine (F0 _).mono ?_
          rintro e y1 ⟨rfl, rfl⟩
          go_wp2_with fail
          refine (F1 _).mono ?_
          rintro e x1 ⟨rfl, c1⟩
          have HA1' : Hid (ThAt nm x1 w.heap.size t) := HA0.out.still c1
          have HB1' : Hid (Below w.heap.size w x1) := HB0.out.trans (c1.mono HB0.out.size)
          obtain ⟨d1_0, d1_1, d1_2, d1_3, d1_4, d1_5, d1_6⟩ := at_kind HA1'.out HK.out
          clear c1
          go_wp2_with fail
          go_ret
          exact ⟨rfl, HB1'.out⟩
        | true =>
          cases b4 with
          | false =>
            simp only [Bool.true_and, Bool.false_and]
            go_enter Tryd.func10, Tryd.ntmps10
            go_wp2_with fail
            refine (K _).mono ?_
            rintro e y0 ⟨rfl, rfl⟩
            go_wp2_with fail
            refine (F0 _).mono ?_
            rintro e y1 ⟨rfl, rfl⟩
            go_wp2_with fail
            refine (F1 _).mono ?_
            rintro e x1 ⟨rfl, c1⟩
            have HA1' : Hid (ThAt nm x1 w.heap.size t) := HA0.out.still c1
            have HB1' : Hid (Below w.heap.size w x1) := HB0.out.trans (c1.mono HB0.out.size)
            obtain ⟨d1_0, d1_1, d1_2, d1_3, d1_4, d1_5, d1_6⟩ := at_kind HA1'.out HK.out
            clear c1
            go_wp2_with fail
            go_ret
            exact ⟨rfl, HB1'.out⟩
          | true =>
            cases b5 with
            | false =>
              simp only [Bool.true_and]
              go_enter Tryd.func10, Tryd.ntmps10
              go_wp2_with fail
              refine (K _).mono ?_
              rintro e y0 ⟨rfl, rfl⟩
              go_wp2_with fail
              refine (F0 _).mono ?_
              rintro e y1 ⟨rfl, rfl⟩
              go_wp2_with fail
              refine (F1 _).mono ?_
              rintro e x1 ⟨rfl, c1⟩
              have HA1' : Hid (ThAt nm x1 w.heap.size t) := HA0.out.still c1
              have HB1' : Hid (Below w.heap.size w x1) := HB0.out.trans (c1.mono HB0.out.size)
              obtain ⟨d1_0, d1_1, d1_2, d1_3, d1_4, d1_5, d1_6⟩ := at_kind HA1'.out HK.out
              clear c1
              go_wp2_with fail
              go_ret
              exact ⟨rfl, HB1'.out⟩
            | true =>
              simp only [Bool.true_and]
              go_enter Tryd.func10, Tryd.ntmps10
              go_wp2_with fail
              refine (K _).mono ?_
              rintro e y0 ⟨rfl, rfl⟩
              go_wp2_with fail
              refine (F0 _).mono ?_
              rintro e y1 ⟨rfl, rfl⟩
              go_wp2_with fail
              refine (F1 _).mono ?_
              rintro e x1 ⟨rfl, c1⟩
              have HA1' : Hid (ThAt nm x1 w.heap.size t) := HA0.out.still c1
              have HB1' : Hid (Below w.heap.size w x1) := HB0.out.trans (c1.mono HB0.out.size)
              obtain ⟨d1_0, d1_1, d1_2, d1_3, d1_4, d1_5, d1_6⟩ := at_kind HA1'.out HK.out
              clear c1
              go_wp2_with fail
              go_ret
              exact ⟨rfl, HB1'.out⟩
set_option maxRecDepth 100000 in
set_option maxHeartbeats 8000000 in
theorem refRight_3 (t : ThP) (w : World) (hk : t.2 0 = 3) (z2 : (t.1 2).size ≤ 300) :
    Calls Tryd.prog 10 #[.agg #[.int .i64 (t.2 0), .int .i64 (t.2 1), .string (t.1 2), .string (t.1 3), .int .i64 (t.2 4), .int .i64 (t.2 5), .int .i64 (t.2 6)]] w fun e w' => e = .returned (.bool (inB (t.2 1) 1 1099511627776 && (vldB (t.1 2) && ((t.1 3).toList.isEmpty && ((t.2 4 == 0) && (inB (t.2 5) 1 1099511627776 && inB (t.2 6) 1 1099511627776)))))) ∧ Below w.heap.size w w' := by
  have HB0 : Hid (Below w.heap.size w (refBox w t)) := refBox_below w t
  have HA0 : Hid (ThAt nm (refBox w t) w.heap.size t) := refBox_at w t
  have K := refKind_in 3 true (by decide)
  have F0 := refIn_at (t.2 1) 1 1099511627776
  have F1 := fun w => refValid_any (t.1 2) w z2
  have F4 := refIn_at (t.2 5) 1 1099511627776
  have F5 := refIn_at (t.2 6) 1 1099511627776
  have HK : Hid (t.2 0 = 3) := hk
  unfold refBox at HB0 HA0
  rw [hk] at HB0 HA0 ⊢
  obtain ⟨b0, h0⟩ : ∃ b, inB (t.2 1) 1 1099511627776 = b := ⟨_, rfl⟩
  rw [h0] at F0 ⊢
  obtain ⟨b1, h1⟩ : ∃ b, vldB (t.1 2) = b := ⟨_, rfl⟩
  rw [h1] at F1 ⊢
  obtain ⟨b2, h2⟩ : ∃ b, (t.1 3).toList.isEmpty = b := ⟨_, rfl⟩
  rw [h2]
  obtain ⟨b3, h3⟩ : ∃ b, (t.2 4 == 0) = b := ⟨_, rfl⟩
  rw [h3]
  obtain ⟨b4, h4⟩ : ∃ b, inB (t.2 5) 1 1099511627776 = b := ⟨_, rfl⟩
  rw [h4] at F4 ⊢
  obtain ⟨b5, h5⟩ : ∃ b, inB (t.2 6) 1 1099511627776 = b := ⟨_, rfl⟩
  rw [h5] at F5 ⊢
  clear hk h0 h1 h4 h5 z2
  cases b0 with
  | false =>
    simp only [Bool.false_and]
    go_enter Tryd.func10, Tryd.ntmps10
    go_wp2_with fail
    refine (K _).mono ?_
    rintro e y0 ⟨rfl, rfl⟩
    go_wp2_with fail
    refine (F0 _).mono ?_
    rintro e y1 ⟨rfl, rfl⟩
    go_wp2_with fail
    go_ret
    exact ⟨rfl, HB0.out⟩
  | true =>
    cases b1 with
    | false =>
      simp only [Bool.true_and, Bool.false_and]
      go_enter Tryd.func10, Tryd.ntmps10
      go_wp2_with fail
      refine (K _).mono ?_
      rintro e y0 ⟨rfl, rfl⟩
      go_wp2_with fail
      refine (F0 _).mono ?_
      rintro e y1 ⟨rfl, rfl⟩
      go_wp2_with fail
      refine (F1 _).mono ?_
      rintro e x1 ⟨rfl, c1⟩
      have HA1' : Hid (ThAt nm x1 w.heap.size t) := HA0.out.still c1
      have HB1' : Hid (Below w.heap.size w x1) := HB0.out.trans (c1.mono HB0.out.size)
      obtain ⟨d1_0, d1_1, d1_2, d1_3, d1_4, d1_5, d1_6⟩ := at_kind HA1'.out HK.out
      clear c1
      go_wp2_with fail
      go_ret
      exact ⟨rfl, HB1'.out⟩
    | true =>
      cases b2 with
      | false =>
        simp only [Bool.true_and, Bool.false_and]
        go_enter Tryd.func10, Tryd.ntmps10
        go_wp2_with fail
        refine (K _).mono ?_
        rintro e y0 ⟨rfl, rfl⟩
        go_wp2_with fail
        refine (F0 _).mono ?_
        rintro e y1 ⟨rfl, rfl⟩
        go_wp2_with fail
        refine (F1 _).mono ?_
        rintro e x1 ⟨rfl, c1⟩
        have HA1' : Hid (ThAt nm x1 w.heap.size t) := HA0.out.still c1
        have HB1' : Hid (Below w.heap.size w x1) := HB0.out.trans (c1.mono HB0.out.size)
        obtain ⟨d1_0, d1_1, d1_2, d1_3, d1_4, d1_5, d1_6⟩ := at_kind HA1'.out HK.out
        clear c1
        go_wp2_with fail
        go_ret
        exact ⟨rfl, HB1'.out⟩
      | true =>
        cases b3 with
        | false =>
          simp only [Bool.true_and, Bool.false_and]
          go_enter Tryd.func10, Tryd.ntmps10
          go_wp2_with fail
          refine (K _).mono ?_
          rintro e y0 ⟨rfl, rfl⟩
          go_wp2_with fail
          refine (F0 _).mono ?_
          rintro e y1 ⟨rfl, rfl⟩
          go_wp2_with fail
          refine (F1 _).mono ?_
          rintro e x1 ⟨rfl, c1⟩
          have HA1' : Hid (ThAt nm x1 w.heap.size t) := HA0.out.still c1
          have HB1' : Hid (Below w.heap.size w x1) := HB0.out.trans (c1.mono HB0.out.size)
          obtain ⟨d1_0, d1_1, d1_2, d1_3, d1_4, d1_5, d1_6⟩ := at_kind HA1'.out HK.out
          clear c1
          go_wp2_with fail
          go_ret
          exact ⟨rfl, HB1'.out⟩
        | true =>
          cases b4 with
          | false =>
            simp only [Bool.true_and, Bool.false_and]
            go_enter Tryd.func10, Tryd.ntmps10
            go_wp2_with fail
            refine (K _).mono ?_
            rintro e y0 ⟨rfl, rfl⟩
            go_wp2_with fail
            refine (F0 _).mono ?_
            rintro e y1 ⟨rfl, rfl⟩
            go_wp2_with fail
            refine (F1 _).mono ?_
            rintro e x1 ⟨rfl, c1⟩
            have HA1' : Hid (ThAt nm x1 w.heap.size t) := HA0.out.still c1
            have HB1' : Hid (Below w.heap.size w x1) := HB0.out.trans (c1.mono HB0.out.size)
            obtain ⟨d1_0, d1_1, d1_2, d1_3, d1_4, d1_5, d1_6⟩ := at_kind HA1'.out HK.out
            clear c1
            go_wp2_with fail
            refine (F4 _).mono ?_
            rintro e y5 ⟨rfl, rfl⟩
            go_wp2_with fail
            go_ret
            exact ⟨rfl, HB1'.out⟩
          | true =>
            cases b5 with
            | false =>
              simp only [Bool.true_and]
              go_enter Tryd.func10, Tryd.ntmps10
              go_wp2_with fail
              refine (K _).mono ?_
              rintro e y0 ⟨rfl, rfl⟩
              go_wp2_with fail
              refine (F0 _).mono ?_
              rintro e y1 ⟨rfl, rfl⟩
              go_wp2_with fail
              refine (F1 _).mono ?_
              rintro e x1 ⟨rfl, c1⟩
              have HA1' : Hid (ThAt nm x1 w.heap.size t) := HA0.out.still c1
              have HB1' : Hid (Below w.heap.size w x1) := HB0.out.trans (c1.mono HB0.out.size)
              obtain ⟨d1_0, d1_1, d1_2, d1_3, d1_4, d1_5, d1_6⟩ := at_kind HA1'.out HK.out
              clear c1
              go_wp2_with fail
              refine (F4 _).mono ?_
              rintro e y5 ⟨rfl, rfl⟩
              go_wp2_with fail
              refine (F5 _).mono ?_
              rintro e y6 ⟨rfl, rfl⟩
              go_wp2_with fail
              go_ret
              exact ⟨rfl, HB1'.out⟩
            | true =>
              simp only [Bool.true_and]
              go_enter Tryd.func10, Tryd.ntmps10
              go_wp2_with fail
              refine (K _).mono ?_
              rintro e y0 ⟨rfl, rfl⟩
              go_wp2_with fail
              refine (F0 _).mono ?_
              rintro e y1 ⟨rfl, rfl⟩
              go_wp2_with fail
              refine (F1 _).mono ?_
              rintro e x1 ⟨rfl, c1⟩
              have HA1' : Hid (ThAt nm x1 w.heap.size t) := HA0.out.still c1
              have HB1' : Hid (Below w.heap.size w x1) := HB0.out.trans (c1.mono HB0.out.size)
              obtain ⟨d1_0, d1_1, d1_2, d1_3, d1_4, d1_5, d1_6⟩ := at_kind HA1'.out HK.out
              clear c1
              go_wp2_with fail
              refine (F4 _).mono ?_
              rintro e y5 ⟨rfl, rfl⟩
              go_wp2_with fail
              refine (F5 _).mono ?_
              rintro e y6 ⟨rfl, rfl⟩
              go_wp2_with fail
              go_ret
              exact ⟨rfl, HB1'.out⟩
end Go.Proofs.YtdbkoflejimibaaDoor.PP.O
/-
  The contract of the fourteenth reference's OrderForm, a theorem a kind.
-/
namespace Go.Proofs.YtdbkoflejimibaaDoor.PP.O
open Go.ChangeShapes Go.WideShapes Go.ChangeAt Go.RowKit Go.Lib

theorem four_at (X : World) (j : Nat) (hj : j < 4) : (X.alloc (.cells #[.string ⟨#[]⟩, .string ⟨#[68]⟩, .string ⟨#[70]⟩, .string ⟨#[71]⟩] 52)).cell? ⟨X.heap.size, j, none⟩ = some (.string (wordK (j : Int))) := by
  rcases (show j = 0 ∨ j = 1 ∨ j = 2 ∨ j = 3 by omega) with rfl | rfl | rfl | rfl <;> simp [wordK]
set_option maxRecDepth 1000000 in
set_option maxHeartbeats 8000000 in
theorem refForm_1 (t : ThP) (w : World) (hk : t.2 0 = 1) (z34 : 0 ≤ t.2 1 ∧ t.2 1 ≤ 1099511627776) (z11 : (t.1 2).size ≤ 600) (z55 : (t.1 3).size ≤ 600) (z54 : 0 ≤ t.2 4 ∧ t.2 4 ≤ 1099511627776) (z38 : 0 ≤ t.2 5 ∧ t.2 5 ≤ 1099511627776) (z44 : 0 ≤ t.2 6 ∧ t.2 6 ≤ 1099511627776) :
    Calls Tryd.prog 13 #[.agg #[.int .i64 (t.2 0), .int .i64 (t.2 1), .string (t.1 2), .string (t.1 3), .int .i64 (t.2 4), .int .i64 (t.2 5), .int .i64 (t.2 6)]] w fun e' w' => e' = .returned (.string (mk ((((([51, 53] ++ 61 :: ((⟨#[68]⟩ : ByteArray).data.toList ++ [1])) ++ ([51, 52] ++ 61 :: ((numT (t.2 1)).data.toList ++ [1]))) ++ ([49, 49] ++ 61 :: ((t.1 2).data.toList ++ [1]))) ++ (([53, 53] ++ 61 :: ((t.1 3).data.toList ++ [1])) ++ ([53, 52] ++ 61 :: ((numT (t.2 4)).data.toList ++ [1])))) ++ (([51, 56] ++ 61 :: ((numT (t.2 5)).data.toList ++ [1])) ++ ([52, 52] ++ 61 :: ((numT (t.2 6)).data.toList ++ [1])))))) ∧ Below w.heap.size w w' := by
  have HB0 : Hid (Below w.heap.size w (refBox w t)) := refBox_below w t
  have bA : Below (refBox w t).heap.size (refBox w t) ((refBox w t).alloc (.cells #[.string ⟨#[]⟩, .string ⟨#[68]⟩, .string ⟨#[70]⟩, .string ⟨#[71]⟩] 52)) := (Below.refl _ _).alloc (Nat.le_refl _) _
  have HB1 : Hid (Below w.heap.size w ((refBox w t).alloc (.cells #[.string ⟨#[]⟩, .string ⟨#[68]⟩, .string ⟨#[70]⟩, .string ⟨#[71]⟩] 52))) := HB0.out.trans (bA.mono HB0.out.size)
  have HT : Hid (ThAt nm ((refBox w t).alloc (.cells #[.string ⟨#[]⟩, .string ⟨#[68]⟩, .string ⟨#[70]⟩, .string ⟨#[71]⟩] 52)) w.heap.size t) := (refBox_at w t).still bA
  have HL : Hid (∀ w', Below ((refBox w t).alloc (.cells #[.string ⟨#[]⟩, .string ⟨#[68]⟩, .string ⟨#[70]⟩, .string ⟨#[71]⟩] 52)).heap.size ((refBox w t).alloc (.cells #[.string ⟨#[]⟩, .string ⟨#[68]⟩, .string ⟨#[70]⟩, .string ⟨#[71]⟩] 52)) w' → w'.cell? ⟨w.heap.size + 1, 1, none⟩ = some (.string (⟨#[68]⟩ : ByteArray))) := fun w' h => (h.cell (p := ⟨w.heap.size + 1, 1, none⟩) (by simp)).trans (by rw [show w.heap.size + 1 = (refBox w t).heap.size by simp]; exact four_at (refBox w t) 1 (by omega))
  have HK : Hid (t.2 0 = 1) := hk
  have C0 : ∀ w, Calls Tryd.prog 28 #[.string ⟨#[51, 53]⟩, .string (⟨#[68]⟩ : ByteArray)] w fun e' w' => e' = .returned (.string (putL [51, 53] (⟨#[68]⟩ : ByteArray))) ∧ w = w' := fun w => (refPut_any [51, 53] (⟨#[68]⟩ : ByteArray) (by decide) (by decide) w).mono fun e w' ⟨h1, h2⟩ => ⟨h1, h2.symm⟩
  have S0 := putL_size [51, 53] (⟨#[68]⟩ : ByteArray)
  have N0 : (⟨#[68]⟩ : ByteArray).size = 1 := rfl
  simp only [List.length_cons, List.length_nil] at S0
  have C1 : ∀ w, Calls Tryd.prog 29 #[.string ⟨#[51, 52]⟩, .int .i64 (t.2 1)] w fun e' w' => e' = .returned (.string (putL [51, 52] (numT (t.2 1)))) ∧ Below w.heap.size w w' := fun w => numberP_any [51, 52] (t.2 1) (by decide) z34.1 z34.2 w
  have S1 := putL_size [51, 52] (numT (t.2 1))
  have N1 := num_small (t.2 1) z34.2
  simp only [List.length_cons, List.length_nil] at S1
  have C2 : ∀ w, Calls Tryd.prog 28 #[.string ⟨#[49, 49]⟩, .string (t.1 2)] w fun e' w' => e' = .returned (.string (putL [49, 49] (t.1 2))) ∧ w = w' := fun w => (refPut_any [49, 49] (t.1 2) (by decide) (by omega) w).mono fun e w' ⟨h1, h2⟩ => ⟨h1, h2.symm⟩
  have S2 := putL_size [49, 49] (t.1 2)
  simp only [List.length_cons, List.length_nil] at S2
  have C3 : ∀ w, Calls Tryd.prog 28 #[.string ⟨#[53, 53]⟩, .string (t.1 3)] w fun e' w' => e' = .returned (.string (putL [53, 53] (t.1 3))) ∧ w = w' := fun w => (refPut_any [53, 53] (t.1 3) (by decide) (by omega) w).mono fun e w' ⟨h1, h2⟩ => ⟨h1, h2.symm⟩
  have S3 := putL_size [53, 53] (t.1 3)
  simp only [List.length_cons, List.length_nil] at S3
  have C4 : ∀ w, Calls Tryd.prog 29 #[.string ⟨#[53, 52]⟩, .int .i64 (t.2 4)] w fun e' w' => e' = .returned (.string (putL [53, 52] (numT (t.2 4)))) ∧ Below w.heap.size w w' := fun w => numberP_any [53, 52] (t.2 4) (by decide) z54.1 z54.2 w
  have S4 := putL_size [53, 52] (numT (t.2 4))
  have N4 := num_small (t.2 4) z54.2
  simp only [List.length_cons, List.length_nil] at S4
  have C5 : ∀ w, Calls Tryd.prog 29 #[.string ⟨#[51, 56]⟩, .int .i64 (t.2 5)] w fun e' w' => e' = .returned (.string (putL [51, 56] (numT (t.2 5)))) ∧ Below w.heap.size w w' := fun w => numberP_any [51, 56] (t.2 5) (by decide) z38.1 z38.2 w
  have S5 := putL_size [51, 56] (numT (t.2 5))
  have N5 := num_small (t.2 5) z38.2
  simp only [List.length_cons, List.length_nil] at S5
  have C6 : ∀ w, Calls Tryd.prog 29 #[.string ⟨#[52, 52]⟩, .int .i64 (t.2 6)] w fun e' w' => e' = .returned (.string (putL [52, 52] (numT (t.2 6)))) ∧ Below w.heap.size w w' := fun w => numberP_any [52, 52] (t.2 6) (by decide) z44.1 z44.2 w
  have S6 := putL_size [52, 52] (numT (t.2 6))
  have N6 := num_small (t.2 6) z44.2
  simp only [List.length_cons, List.length_nil] at S6
  have HOUT : Hid (((((putL [51, 53] (⟨#[68]⟩ : ByteArray) ++ putL [51, 52] (numT (t.2 1))) ++ putL [49, 49] (t.1 2)) ++ (putL [53, 53] (t.1 3) ++ putL [53, 52] (numT (t.2 4)))) ++ (putL [51, 56] (numT (t.2 5)) ++ putL [52, 52] (numT (t.2 6)))) = mk ((((([51, 53] ++ 61 :: ((⟨#[68]⟩ : ByteArray).data.toList ++ [1])) ++ ([51, 52] ++ 61 :: ((numT (t.2 1)).data.toList ++ [1]))) ++ ([49, 49] ++ 61 :: ((t.1 2).data.toList ++ [1]))) ++ (([53, 53] ++ 61 :: ((t.1 3).data.toList ++ [1])) ++ ([53, 52] ++ 61 :: ((numT (t.2 4)).data.toList ++ [1])))) ++ (([51, 56] ++ 61 :: ((numT (t.2 5)).data.toList ++ [1])) ++ ([52, 52] ++ 61 :: ((numT (t.2 6)).data.toList ++ [1]))))) := by
    show _ = _
    apply bytes_ext8
    simp [mk, putL]
  obtain ⟨p0, hp0⟩ : ∃ pp, putL [51, 53] (⟨#[68]⟩ : ByteArray) = pp := ⟨_, rfl⟩
  rw [hp0] at C0 HOUT S0
  obtain ⟨p1, hp1⟩ : ∃ pp, putL [51, 52] (numT (t.2 1)) = pp := ⟨_, rfl⟩
  rw [hp1] at C1 HOUT S1
  obtain ⟨p2, hp2⟩ : ∃ pp, putL [49, 49] (t.1 2) = pp := ⟨_, rfl⟩
  rw [hp2] at C2 HOUT S2
  obtain ⟨p3, hp3⟩ : ∃ pp, putL [53, 53] (t.1 3) = pp := ⟨_, rfl⟩
  rw [hp3] at C3 HOUT S3
  obtain ⟨p4, hp4⟩ : ∃ pp, putL [53, 52] (numT (t.2 4)) = pp := ⟨_, rfl⟩
  rw [hp4] at C4 HOUT S4
  obtain ⟨p5, hp5⟩ : ∃ pp, putL [51, 56] (numT (t.2 5)) = pp := ⟨_, rfl⟩
  rw [hp5] at C5 HOUT S5
  obtain ⟨p6, hp6⟩ : ∃ pp, putL [52, 52] (numT (t.2 6)) = pp := ⟨_, rfl⟩
  rw [hp6] at C6 HOUT S6
  rw [← HOUT.out]
  clear HOUT hp0 hp1 hp2 hp3 hp4 hp5 hp6
  have Jq0 := fun w => join_run p0 p1 (by omega) w
  have Zq0 : (p0 ++ p1).size = p0.size + p1.size := ByteArray.size_append
  obtain ⟨q0, hq0⟩ : ∃ q, p0 ++ p1 = q := ⟨_, rfl⟩
  rw [hq0] at Jq0 Zq0 ⊢
  have Jq1 := fun w => join_run q0 p2 (by omega) w
  have Zq1 : (q0 ++ p2).size = q0.size + p2.size := ByteArray.size_append
  obtain ⟨q1, hq1⟩ : ∃ q, q0 ++ p2 = q := ⟨_, rfl⟩
  rw [hq1] at Jq1 Zq1 ⊢
  have Jq2 := fun w => join_run p3 p4 (by omega) w
  have Zq2 : (p3 ++ p4).size = p3.size + p4.size := ByteArray.size_append
  obtain ⟨q2, hq2⟩ : ∃ q, p3 ++ p4 = q := ⟨_, rfl⟩
  rw [hq2] at Jq2 Zq2 ⊢
  have Jq3 := fun w => join_run q1 q2 (by omega) w
  have Zq3 : (q1 ++ q2).size = q1.size + q2.size := ByteArray.size_append
  obtain ⟨q3, hq3⟩ : ∃ q, q1 ++ q2 = q := ⟨_, rfl⟩
  rw [hq3] at Jq3 Zq3 ⊢
  have Jq4 := fun w => join_run p5 p6 (by omega) w
  have Zq4 : (p5 ++ p6).size = p5.size + p6.size := ByteArray.size_append
  obtain ⟨q4, hq4⟩ : ∃ q, p5 ++ p6 = q := ⟨_, rfl⟩
  rw [hq4] at Jq4 Zq4 ⊢
  have Jq5 := fun w => join_run q3 q4 (by omega) w
  have Zq5 : (q3 ++ q4).size = q3.size + q4.size := ByteArray.size_append
  obtain ⟨q5, hq5⟩ : ∃ q, q3 ++ q4 = q := ⟨_, rfl⟩
  rw [hq5] at Jq5 Zq5 ⊢
  clear hq0 Zq0 hq1 Zq1 hq2 Zq2 hq3 Zq3 hq4 Zq4 hq5 Zq5 S0 N0 S1 N1 S2 S3 S4 N4 S5 N5 S6 N6 z34 z11 z55 z54 z38 z44
  unfold refBox at HB0 HT HB1 HL
  clear bA
  rw [hk] at HB0 HT HB1 HL ⊢
  clear hk
  obtain ⟨d0, d1, d2, d3, d4, d5, d6⟩ := at_kind HT.out HK.out
  go_enter Tryd.func13, Tryd.ntmps13
  go_wp2_with fail
  go_region_held3 (fun w' => w'.cell? ⟨w.heap.size, 0, none⟩ = some (.int .i64 1) ∧ w'.cell? ⟨w.heap.size, 1, none⟩ = some (.int .i64 (t.2 1)) ∧ w'.cell? ⟨w.heap.size, 2, none⟩ = some (.string (t.1 2)) ∧ w'.cell? ⟨w.heap.size, 3, none⟩ = some (.string (t.1 3)) ∧ w'.cell? ⟨w.heap.size, 4, none⟩ = some (.int .i64 (t.2 4)) ∧ w'.cell? ⟨w.heap.size, 5, none⟩ = some (.int .i64 (t.2 5)) ∧ w'.cell? ⟨w.heap.size, 6, none⟩ = some (.int .i64 (t.2 6)) ∧ w'.cell? ⟨w.heap.size + 1, 1, none⟩ = some (.string (⟨#[68]⟩ : ByteArray))) (go_keep) (first
    | (go_at_call_of 28 (Value.string ⟨#[51, 53]⟩); refine (C0 _).mono ?_; rintro e' y0 ⟨rfl, rfl⟩)
    | (go_at_call_of 29 (Value.string ⟨#[51, 52]⟩); refine (C1 _).mono ?_; rintro e' y1 ⟨rfl, b1⟩; have B1 := below_of_drew b1; have X1 : Hid (ThAt nm y1 w.heap.size t) := HT.out.still B1; obtain ⟨u1_0, u1_1, u1_2, u1_3, u1_4, u1_5, u1_6⟩ := at_kind X1.out HK.out; have HB1' : Hid (Below w.heap.size w y1) := HB1.out.trans (B1.mono HB1.out.size); have ul1 := HL.out _ B1)
    | (go_at_call_of 28 (Value.string ⟨#[49, 49]⟩); refine (C2 _).mono ?_; rintro e' y2 ⟨rfl, rfl⟩))
  go_wp2_with fail
  go_region_held3 (fun w' => w'.cell? ⟨w.heap.size, 0, none⟩ = some (.int .i64 1) ∧ w'.cell? ⟨w.heap.size, 1, none⟩ = some (.int .i64 (t.2 1)) ∧ w'.cell? ⟨w.heap.size, 2, none⟩ = some (.string (t.1 2)) ∧ w'.cell? ⟨w.heap.size, 3, none⟩ = some (.string (t.1 3)) ∧ w'.cell? ⟨w.heap.size, 4, none⟩ = some (.int .i64 (t.2 4)) ∧ w'.cell? ⟨w.heap.size, 5, none⟩ = some (.int .i64 (t.2 5)) ∧ w'.cell? ⟨w.heap.size, 6, none⟩ = some (.int .i64 (t.2 6))) (go_keep) (first
    | (go_at_call_of 28 (Value.string ⟨#[53, 53]⟩); refine (C3 _).mono ?_; rintro e' y3 ⟨rfl, rfl⟩)
    | (go_at_call_of 29 (Value.string ⟨#[53, 52]⟩); refine (C4 _).mono ?_; rintro e' y4 ⟨rfl, b4⟩; have B4 := below_of_drew b4; have X4 : Hid (ThAt nm y4 w.heap.size t) := X1.out.still B4; obtain ⟨u4_0, u4_1, u4_2, u4_3, u4_4, u4_5, u4_6⟩ := at_kind X4.out HK.out; have HB4' : Hid (Below w.heap.size w y4) := HB1'.out.trans (B4.mono HB1'.out.size)))
  go_wp2_with fail
  go_region_held3 (fun w' => w'.cell? ⟨w.heap.size, 0, none⟩ = some (.int .i64 1) ∧ w'.cell? ⟨w.heap.size, 1, none⟩ = some (.int .i64 (t.2 1)) ∧ w'.cell? ⟨w.heap.size, 2, none⟩ = some (.string (t.1 2)) ∧ w'.cell? ⟨w.heap.size, 3, none⟩ = some (.string (t.1 3)) ∧ w'.cell? ⟨w.heap.size, 4, none⟩ = some (.int .i64 (t.2 4)) ∧ w'.cell? ⟨w.heap.size, 5, none⟩ = some (.int .i64 (t.2 5)) ∧ w'.cell? ⟨w.heap.size, 6, none⟩ = some (.int .i64 (t.2 6))) (go_keep) (first
    | (go_at_call_of 29 (Value.string ⟨#[51, 56]⟩); refine (C5 _).mono ?_; rintro e' y5 ⟨rfl, b5⟩; have B5 := below_of_drew b5; have X5 : Hid (ThAt nm y5 w.heap.size t) := X4.out.still B5; obtain ⟨u5_0, u5_1, u5_2, u5_3, u5_4, u5_5, u5_6⟩ := at_kind X5.out HK.out; have HB5' : Hid (Below w.heap.size w y5) := HB4'.out.trans (B5.mono HB4'.out.size))
    | (go_at_call_of 29 (Value.string ⟨#[52, 52]⟩); refine (C6 _).mono ?_; rintro e' y6 ⟨rfl, b6⟩; have B6 := b6; have X6 : Hid (ThAt nm y6 w.heap.size t) := X5.out.still B6; obtain ⟨u6_0, u6_1, u6_2, u6_3, u6_4, u6_5, u6_6⟩ := at_kind X6.out HK.out; have HB6' : Hid (Below w.heap.size w y6) := HB5'.out.trans (B6.mono HB5'.out.size)))
  all_goals
    go_wp2_with fail
    go_ret
    exact ⟨rfl, HB6'.out⟩
set_option maxRecDepth 1000000 in
set_option maxHeartbeats 8000000 in
theorem refForm_2 (t : ThP) (w : World) (hk : t.2 0 = 2) (z34 : 0 ≤ t.2 1 ∧ t.2 1 ≤ 1099511627776) (z11 : (t.1 2).size ≤ 600) :
    Calls Tryd.prog 13 #[.agg #[.int .i64 (t.2 0), .int .i64 (t.2 1), .string (t.1 2), .string (t.1 3), .int .i64 (t.2 4), .int .i64 (t.2 5), .int .i64 (t.2 6)]] w fun e' w' => e' = .returned (.string (mk ((([51, 53] ++ 61 :: ((⟨#[70]⟩ : ByteArray).data.toList ++ [1])) ++ ([51, 52] ++ 61 :: ((numT (t.2 1)).data.toList ++ [1]))) ++ ([49, 49] ++ 61 :: ((t.1 2).data.toList ++ [1]))))) ∧ Below w.heap.size w w' := by
  have HB0 : Hid (Below w.heap.size w (refBox w t)) := refBox_below w t
  have bA : Below (refBox w t).heap.size (refBox w t) ((refBox w t).alloc (.cells #[.string ⟨#[]⟩, .string ⟨#[68]⟩, .string ⟨#[70]⟩, .string ⟨#[71]⟩] 52)) := (Below.refl _ _).alloc (Nat.le_refl _) _
  have HB1 : Hid (Below w.heap.size w ((refBox w t).alloc (.cells #[.string ⟨#[]⟩, .string ⟨#[68]⟩, .string ⟨#[70]⟩, .string ⟨#[71]⟩] 52))) := HB0.out.trans (bA.mono HB0.out.size)
  have HT : Hid (ThAt nm ((refBox w t).alloc (.cells #[.string ⟨#[]⟩, .string ⟨#[68]⟩, .string ⟨#[70]⟩, .string ⟨#[71]⟩] 52)) w.heap.size t) := (refBox_at w t).still bA
  have HL : Hid (∀ w', Below ((refBox w t).alloc (.cells #[.string ⟨#[]⟩, .string ⟨#[68]⟩, .string ⟨#[70]⟩, .string ⟨#[71]⟩] 52)).heap.size ((refBox w t).alloc (.cells #[.string ⟨#[]⟩, .string ⟨#[68]⟩, .string ⟨#[70]⟩, .string ⟨#[71]⟩] 52)) w' → w'.cell? ⟨w.heap.size + 1, 2, none⟩ = some (.string (⟨#[70]⟩ : ByteArray))) := fun w' h => (h.cell (p := ⟨w.heap.size + 1, 2, none⟩) (by simp)).trans (by rw [show w.heap.size + 1 = (refBox w t).heap.size by simp]; exact four_at (refBox w t) 2 (by omega))
  have HK : Hid (t.2 0 = 2) := hk
  have C0 : ∀ w, Calls Tryd.prog 28 #[.string ⟨#[51, 53]⟩, .string (⟨#[70]⟩ : ByteArray)] w fun e' w' => e' = .returned (.string (putL [51, 53] (⟨#[70]⟩ : ByteArray))) ∧ w = w' := fun w => (refPut_any [51, 53] (⟨#[70]⟩ : ByteArray) (by decide) (by decide) w).mono fun e w' ⟨h1, h2⟩ => ⟨h1, h2.symm⟩
  have S0 := putL_size [51, 53] (⟨#[70]⟩ : ByteArray)
  have N0 : (⟨#[70]⟩ : ByteArray).size = 1 := rfl
  simp only [List.length_cons, List.length_nil] at S0
  have C1 : ∀ w, Calls Tryd.prog 29 #[.string ⟨#[51, 52]⟩, .int .i64 (t.2 1)] w fun e' w' => e' = .returned (.string (putL [51, 52] (numT (t.2 1)))) ∧ Below w.heap.size w w' := fun w => numberP_any [51, 52] (t.2 1) (by decide) z34.1 z34.2 w
  have S1 := putL_size [51, 52] (numT (t.2 1))
  have N1 := num_small (t.2 1) z34.2
  simp only [List.length_cons, List.length_nil] at S1
  have C2 : ∀ w, Calls Tryd.prog 28 #[.string ⟨#[49, 49]⟩, .string (t.1 2)] w fun e' w' => e' = .returned (.string (putL [49, 49] (t.1 2))) ∧ w = w' := fun w => (refPut_any [49, 49] (t.1 2) (by decide) (by omega) w).mono fun e w' ⟨h1, h2⟩ => ⟨h1, h2.symm⟩
  have S2 := putL_size [49, 49] (t.1 2)
  simp only [List.length_cons, List.length_nil] at S2
  have HOUT : Hid (((putL [51, 53] (⟨#[70]⟩ : ByteArray) ++ putL [51, 52] (numT (t.2 1))) ++ putL [49, 49] (t.1 2)) = mk ((([51, 53] ++ 61 :: ((⟨#[70]⟩ : ByteArray).data.toList ++ [1])) ++ ([51, 52] ++ 61 :: ((numT (t.2 1)).data.toList ++ [1]))) ++ ([49, 49] ++ 61 :: ((t.1 2).data.toList ++ [1])))) := by
    show _ = _
    apply bytes_ext8
    simp [mk, putL]
  obtain ⟨p0, hp0⟩ : ∃ pp, putL [51, 53] (⟨#[70]⟩ : ByteArray) = pp := ⟨_, rfl⟩
  rw [hp0] at C0 HOUT S0
  obtain ⟨p1, hp1⟩ : ∃ pp, putL [51, 52] (numT (t.2 1)) = pp := ⟨_, rfl⟩
  rw [hp1] at C1 HOUT S1
  obtain ⟨p2, hp2⟩ : ∃ pp, putL [49, 49] (t.1 2) = pp := ⟨_, rfl⟩
  rw [hp2] at C2 HOUT S2
  rw [← HOUT.out]
  clear HOUT hp0 hp1 hp2
  have Jq0 := fun w => join_run p0 p1 (by omega) w
  have Zq0 : (p0 ++ p1).size = p0.size + p1.size := ByteArray.size_append
  obtain ⟨q0, hq0⟩ : ∃ q, p0 ++ p1 = q := ⟨_, rfl⟩
  rw [hq0] at Jq0 Zq0 ⊢
  have Jq1 := fun w => join_run q0 p2 (by omega) w
  have Zq1 : (q0 ++ p2).size = q0.size + p2.size := ByteArray.size_append
  obtain ⟨q1, hq1⟩ : ∃ q, q0 ++ p2 = q := ⟨_, rfl⟩
  rw [hq1] at Jq1 Zq1 ⊢
  clear hq0 Zq0 hq1 Zq1 S0 N0 S1 N1 S2 z34 z11
  unfold refBox at HB0 HT HB1 HL
  clear bA
  rw [hk] at HB0 HT HB1 HL ⊢
  clear hk
  obtain ⟨d0, d1, d2, d3, d4, d5, d6⟩ := at_kind HT.out HK.out
  go_enter Tryd.func13, Tryd.ntmps13
  go_wp2_with fail
  go_region_held3 (fun w' => w'.cell? ⟨w.heap.size, 0, none⟩ = some (.int .i64 2) ∧ w'.cell? ⟨w.heap.size, 1, none⟩ = some (.int .i64 (t.2 1)) ∧ w'.cell? ⟨w.heap.size, 2, none⟩ = some (.string (t.1 2)) ∧ w'.cell? ⟨w.heap.size, 3, none⟩ = some (.string (t.1 3)) ∧ w'.cell? ⟨w.heap.size, 4, none⟩ = some (.int .i64 (t.2 4)) ∧ w'.cell? ⟨w.heap.size, 5, none⟩ = some (.int .i64 (t.2 5)) ∧ w'.cell? ⟨w.heap.size, 6, none⟩ = some (.int .i64 (t.2 6)) ∧ w'.cell? ⟨w.heap.size + 1, 2, none⟩ = some (.string (⟨#[70]⟩ : ByteArray))) (go_keep) (first
    | (go_at_call_of 28 (Value.string ⟨#[51, 53]⟩); refine (C0 _).mono ?_; rintro e' y0 ⟨rfl, rfl⟩)
    | (go_at_call_of 29 (Value.string ⟨#[51, 52]⟩); refine (C1 _).mono ?_; rintro e' y1 ⟨rfl, b1⟩; have B1 := below_of_drew b1; have X1 : Hid (ThAt nm y1 w.heap.size t) := HT.out.still B1; obtain ⟨u1_0, u1_1, u1_2, u1_3, u1_4, u1_5, u1_6⟩ := at_kind X1.out HK.out; have HB1' : Hid (Below w.heap.size w y1) := HB1.out.trans (B1.mono HB1.out.size); have ul1 := HL.out _ B1)
    | (go_at_call_of 28 (Value.string ⟨#[49, 49]⟩); refine (C2 _).mono ?_; rintro e' y2 ⟨rfl, rfl⟩))
  all_goals
    go_wp2_with fail
    go_ret
    exact ⟨rfl, HB1'.out⟩
set_option maxRecDepth 1000000 in
set_option maxHeartbeats 8000000 in
theorem refForm_3 (t : ThP) (w : World) (hk : t.2 0 = 3) (z34 : 0 ≤ t.2 1 ∧ t.2 1 ≤ 1099511627776) (z11 : (t.1 2).size ≤ 600) (z38 : 0 ≤ t.2 5 ∧ t.2 5 ≤ 1099511627776) (z44 : 0 ≤ t.2 6 ∧ t.2 6 ≤ 1099511627776) :
    Calls Tryd.prog 13 #[.agg #[.int .i64 (t.2 0), .int .i64 (t.2 1), .string (t.1 2), .string (t.1 3), .int .i64 (t.2 4), .int .i64 (t.2 5), .int .i64 (t.2 6)]] w fun e' w' => e' = .returned (.string (mk (((([51, 53] ++ 61 :: ((⟨#[71]⟩ : ByteArray).data.toList ++ [1])) ++ ([51, 52] ++ 61 :: ((numT (t.2 1)).data.toList ++ [1]))) ++ ([49, 49] ++ 61 :: ((t.1 2).data.toList ++ [1]))) ++ (([51, 56] ++ 61 :: ((numT (t.2 5)).data.toList ++ [1])) ++ ([52, 52] ++ 61 :: ((numT (t.2 6)).data.toList ++ [1])))))) ∧ Below w.heap.size w w' := by
  have HB0 : Hid (Below w.heap.size w (refBox w t)) := refBox_below w t
  have bA : Below (refBox w t).heap.size (refBox w t) ((refBox w t).alloc (.cells #[.string ⟨#[]⟩, .string ⟨#[68]⟩, .string ⟨#[70]⟩, .string ⟨#[71]⟩] 52)) := (Below.refl _ _).alloc (Nat.le_refl _) _
  have HB1 : Hid (Below w.heap.size w ((refBox w t).alloc (.cells #[.string ⟨#[]⟩, .string ⟨#[68]⟩, .string ⟨#[70]⟩, .string ⟨#[71]⟩] 52))) := HB0.out.trans (bA.mono HB0.out.size)
  have HT : Hid (ThAt nm ((refBox w t).alloc (.cells #[.string ⟨#[]⟩, .string ⟨#[68]⟩, .string ⟨#[70]⟩, .string ⟨#[71]⟩] 52)) w.heap.size t) := (refBox_at w t).still bA
  have HL : Hid (∀ w', Below ((refBox w t).alloc (.cells #[.string ⟨#[]⟩, .string ⟨#[68]⟩, .string ⟨#[70]⟩, .string ⟨#[71]⟩] 52)).heap.size ((refBox w t).alloc (.cells #[.string ⟨#[]⟩, .string ⟨#[68]⟩, .string ⟨#[70]⟩, .string ⟨#[71]⟩] 52)) w' → w'.cell? ⟨w.heap.size + 1, 3, none⟩ = some (.string (⟨#[71]⟩ : ByteArray))) := fun w' h => (h.cell (p := ⟨w.heap.size + 1, 3, none⟩) (by simp)).trans (by rw [show w.heap.size + 1 = (refBox w t).heap.size by simp]; exact four_at (refBox w t) 3 (by omega))
  have HK : Hid (t.2 0 = 3) := hk
  have C0 : ∀ w, Calls Tryd.prog 28 #[.string ⟨#[51, 53]⟩, .string (⟨#[71]⟩ : ByteArray)] w fun e' w' => e' = .returned (.string (putL [51, 53] (⟨#[71]⟩ : ByteArray))) ∧ w = w' := fun w => (refPut_any [51, 53] (⟨#[71]⟩ : ByteArray) (by decide) (by decide) w).mono fun e w' ⟨h1, h2⟩ => ⟨h1, h2.symm⟩
  have S0 := putL_size [51, 53] (⟨#[71]⟩ : ByteArray)
  have N0 : (⟨#[71]⟩ : ByteArray).size = 1 := rfl
  simp only [List.length_cons, List.length_nil] at S0
  have C1 : ∀ w, Calls Tryd.prog 29 #[.string ⟨#[51, 52]⟩, .int .i64 (t.2 1)] w fun e' w' => e' = .returned (.string (putL [51, 52] (numT (t.2 1)))) ∧ Below w.heap.size w w' := fun w => numberP_any [51, 52] (t.2 1) (by decide) z34.1 z34.2 w
  have S1 := putL_size [51, 52] (numT (t.2 1))
  have N1 := num_small (t.2 1) z34.2
  simp only [List.length_cons, List.length_nil] at S1
  have C2 : ∀ w, Calls Tryd.prog 28 #[.string ⟨#[49, 49]⟩, .string (t.1 2)] w fun e' w' => e' = .returned (.string (putL [49, 49] (t.1 2))) ∧ w = w' := fun w => (refPut_any [49, 49] (t.1 2) (by decide) (by omega) w).mono fun e w' ⟨h1, h2⟩ => ⟨h1, h2.symm⟩
  have S2 := putL_size [49, 49] (t.1 2)
  simp only [List.length_cons, List.length_nil] at S2
  have C3 : ∀ w, Calls Tryd.prog 29 #[.string ⟨#[51, 56]⟩, .int .i64 (t.2 5)] w fun e' w' => e' = .returned (.string (putL [51, 56] (numT (t.2 5)))) ∧ Below w.heap.size w w' := fun w => numberP_any [51, 56] (t.2 5) (by decide) z38.1 z38.2 w
  have S3 := putL_size [51, 56] (numT (t.2 5))
  have N3 := num_small (t.2 5) z38.2
  simp only [List.length_cons, List.length_nil] at S3
  have C4 : ∀ w, Calls Tryd.prog 29 #[.string ⟨#[52, 52]⟩, .int .i64 (t.2 6)] w fun e' w' => e' = .returned (.string (putL [52, 52] (numT (t.2 6)))) ∧ Below w.heap.size w w' := fun w => numberP_any [52, 52] (t.2 6) (by decide) z44.1 z44.2 w
  have S4 := putL_size [52, 52] (numT (t.2 6))
  have N4 := num_small (t.2 6) z44.2
  simp only [List.length_cons, List.length_nil] at S4
  have HOUT : Hid ((((putL [51, 53] (⟨#[71]⟩ : ByteArray) ++ putL [51, 52] (numT (t.2 1))) ++ putL [49, 49] (t.1 2)) ++ (putL [51, 56] (numT (t.2 5)) ++ putL [52, 52] (numT (t.2 6)))) = mk (((([51, 53] ++ 61 :: ((⟨#[71]⟩ : ByteArray).data.toList ++ [1])) ++ ([51, 52] ++ 61 :: ((numT (t.2 1)).data.toList ++ [1]))) ++ ([49, 49] ++ 61 :: ((t.1 2).data.toList ++ [1]))) ++ (([51, 56] ++ 61 :: ((numT (t.2 5)).data.toList ++ [1])) ++ ([52, 52] ++ 61 :: ((numT (t.2 6)).data.toList ++ [1]))))) := by
    show _ = _
    apply bytes_ext8
    simp [mk, putL]
  obtain ⟨p0, hp0⟩ : ∃ pp, putL [51, 53] (⟨#[71]⟩ : ByteArray) = pp := ⟨_, rfl⟩
  rw [hp0] at C0 HOUT S0
  obtain ⟨p1, hp1⟩ : ∃ pp, putL [51, 52] (numT (t.2 1)) = pp := ⟨_, rfl⟩
  rw [hp1] at C1 HOUT S1
  obtain ⟨p2, hp2⟩ : ∃ pp, putL [49, 49] (t.1 2) = pp := ⟨_, rfl⟩
  rw [hp2] at C2 HOUT S2
  obtain ⟨p3, hp3⟩ : ∃ pp, putL [51, 56] (numT (t.2 5)) = pp := ⟨_, rfl⟩
  rw [hp3] at C3 HOUT S3
  obtain ⟨p4, hp4⟩ : ∃ pp, putL [52, 52] (numT (t.2 6)) = pp := ⟨_, rfl⟩
  rw [hp4] at C4 HOUT S4
  rw [← HOUT.out]
  clear HOUT hp0 hp1 hp2 hp3 hp4
  have Jq0 := fun w => join_run p0 p1 (by omega) w
  have Zq0 : (p0 ++ p1).size = p0.size + p1.size := ByteArray.size_append
  obtain ⟨q0, hq0⟩ : ∃ q, p0 ++ p1 = q := ⟨_, rfl⟩
  rw [hq0] at Jq0 Zq0 ⊢
  have Jq1 := fun w => join_run q0 p2 (by omega) w
  have Zq1 : (q0 ++ p2).size = q0.size + p2.size := ByteArray.size_append
  obtain ⟨q1, hq1⟩ : ∃ q, q0 ++ p2 = q := ⟨_, rfl⟩
  rw [hq1] at Jq1 Zq1 ⊢
  have Jq2 := fun w => join_run p3 p4 (by omega) w
  have Zq2 : (p3 ++ p4).size = p3.size + p4.size := ByteArray.size_append
  obtain ⟨q2, hq2⟩ : ∃ q, p3 ++ p4 = q := ⟨_, rfl⟩
  rw [hq2] at Jq2 Zq2 ⊢
  have Jq3 := fun w => join_run q1 q2 (by omega) w
  have Zq3 : (q1 ++ q2).size = q1.size + q2.size := ByteArray.size_append
  obtain ⟨q3, hq3⟩ : ∃ q, q1 ++ q2 = q := ⟨_, rfl⟩
  rw [hq3] at Jq3 Zq3 ⊢
  clear hq0 Zq0 hq1 Zq1 hq2 Zq2 hq3 Zq3 S0 N0 S1 N1 S2 S3 N3 S4 N4 z34 z11 z38 z44
  unfold refBox at HB0 HT HB1 HL
  clear bA
  rw [hk] at HB0 HT HB1 HL ⊢
  clear hk
  obtain ⟨d0, d1, d2, d3, d4, d5, d6⟩ := at_kind HT.out HK.out
  go_enter Tryd.func13, Tryd.ntmps13
  go_wp2_with fail
  go_region_held3 (fun w' => w'.cell? ⟨w.heap.size, 0, none⟩ = some (.int .i64 3) ∧ w'.cell? ⟨w.heap.size, 1, none⟩ = some (.int .i64 (t.2 1)) ∧ w'.cell? ⟨w.heap.size, 2, none⟩ = some (.string (t.1 2)) ∧ w'.cell? ⟨w.heap.size, 3, none⟩ = some (.string (t.1 3)) ∧ w'.cell? ⟨w.heap.size, 4, none⟩ = some (.int .i64 (t.2 4)) ∧ w'.cell? ⟨w.heap.size, 5, none⟩ = some (.int .i64 (t.2 5)) ∧ w'.cell? ⟨w.heap.size, 6, none⟩ = some (.int .i64 (t.2 6)) ∧ w'.cell? ⟨w.heap.size + 1, 3, none⟩ = some (.string (⟨#[71]⟩ : ByteArray))) (go_keep) (first
    | (go_at_call_of 28 (Value.string ⟨#[51, 53]⟩); refine (C0 _).mono ?_; rintro e' y0 ⟨rfl, rfl⟩)
    | (go_at_call_of 29 (Value.string ⟨#[51, 52]⟩); refine (C1 _).mono ?_; rintro e' y1 ⟨rfl, b1⟩; have B1 := below_of_drew b1; have X1 : Hid (ThAt nm y1 w.heap.size t) := HT.out.still B1; obtain ⟨u1_0, u1_1, u1_2, u1_3, u1_4, u1_5, u1_6⟩ := at_kind X1.out HK.out; have HB1' : Hid (Below w.heap.size w y1) := HB1.out.trans (B1.mono HB1.out.size); have ul1 := HL.out _ B1)
    | (go_at_call_of 28 (Value.string ⟨#[49, 49]⟩); refine (C2 _).mono ?_; rintro e' y2 ⟨rfl, rfl⟩))
  go_wp2_with fail
  go_region_held3 (fun w' => w'.cell? ⟨w.heap.size, 0, none⟩ = some (.int .i64 3) ∧ w'.cell? ⟨w.heap.size, 1, none⟩ = some (.int .i64 (t.2 1)) ∧ w'.cell? ⟨w.heap.size, 2, none⟩ = some (.string (t.1 2)) ∧ w'.cell? ⟨w.heap.size, 3, none⟩ = some (.string (t.1 3)) ∧ w'.cell? ⟨w.heap.size, 4, none⟩ = some (.int .i64 (t.2 4)) ∧ w'.cell? ⟨w.heap.size, 5, none⟩ = some (.int .i64 (t.2 5)) ∧ w'.cell? ⟨w.heap.size, 6, none⟩ = some (.int .i64 (t.2 6))) (go_keep) (first
    | (go_at_call_of 29 (Value.string ⟨#[51, 56]⟩); refine (C3 _).mono ?_; rintro e' y3 ⟨rfl, b3⟩; have B3 := below_of_drew b3; have X3 : Hid (ThAt nm y3 w.heap.size t) := X1.out.still B3; obtain ⟨u3_0, u3_1, u3_2, u3_3, u3_4, u3_5, u3_6⟩ := at_kind X3.out HK.out; have HB3' : Hid (Below w.heap.size w y3) := HB1'.out.trans (B3.mono HB1'.out.size))
    | (go_at_call_of 29 (Value.string ⟨#[52, 52]⟩); refine (C4 _).mono ?_; rintro e' y4 ⟨rfl, b4⟩; have B4 := b4; have X4 : Hid (ThAt nm y4 w.heap.size t) := X3.out.still B4; obtain ⟨u4_0, u4_1, u4_2, u4_3, u4_4, u4_5, u4_6⟩ := at_kind X4.out HK.out; have HB4' : Hid (Below w.heap.size w y4) := HB3'.out.trans (B4.mono HB3'.out.size)))
  all_goals
    go_wp2_with fail
    go_ret
    exact ⟨rfl, HB4'.out⟩
end Go.Proofs.YtdbkoflejimibaaDoor.PP.O
/-
  The contracts of the fourteenth reference's RightOrder and OrderForm, for every Order; the statements' Order.
-/
namespace Go.Proofs.YtdbkoflejimibaaDoor.PP.O
open Go.ChangeShapes Go.WideShapes Go.ChangeAt Go.RowKit Go.Lib

theorem emp_iff (s : ByteArray) : s.toList.isEmpty = true ↔ s = noText := by
  rw [empty_bytes, decide_eq_true_eq]
theorem right_none {t : ThP} (h : inB (t.2 0) 1 3 = false) : rightB t = false := by
  unfold rightB
  unfold inB at h
  rw [h, Bool.false_and]
theorem right_1 {t : ThP} (e : t.2 0 = 1) : rightB t = (inB (t.2 1) 1 1099511627776 && (vldB (t.1 2) && (vldB (t.1 3) && (inB (t.2 4) 1 2 && (inB (t.2 5) 1 1099511627776 && inB (t.2 6) 1 1099511627776))))) := by
  rw [Bool.eq_iff_iff, right_iff]
  constructor
  · intro R
    have a := R.all
    rw [e, show rlist 1 = _ from listK_1] at a
    simp [Pl.okB] at a
    simp [inB, a]
  · intro q
    simp [inB] at q
    refine ⟨by rw [e]; omega, ?_, fun n => absurd e n, fun n => by omega⟩
    rw [e, show rlist 1 = _ from listK_1]
    simp [Pl.okB, q]
theorem right_2 {t : ThP} (e : t.2 0 = 2) : rightB t = (inB (t.2 1) 1 1099511627776 && (vldB (t.1 2) && ((t.1 3).toList.isEmpty && ((t.2 4 == 0) && ((t.2 5 == 0) && (t.2 6 == 0)))))) := by
  have i3 := emp_iff (t.1 3)
  rw [Bool.eq_iff_iff, right_iff]
  constructor
  · intro R
    have a := R.all
    have o := R.one (by omega)
    have u := R.two e
    rw [e, show rlist 2 = _ from listK_2] at a
    simp [Pl.okB] at a
    have i := i3.2 o.1
    simp [inB, a, o.2, u, i]
  · intro q
    simp only [Bool.and_eq_true] at q
    have o := i3.1 q.2.2.1
    have q' := q
    simp [inB] at q'
    refine ⟨by rw [e]; omega, ?_, fun _ => ⟨o, q'.2.2.2.1⟩, fun _ => ⟨q'.2.2.2.2.1, q'.2.2.2.2.2⟩⟩
    rw [e, show rlist 2 = _ from listK_2]
    simp [Pl.okB, q']
theorem right_3 {t : ThP} (e : t.2 0 = 3) : rightB t = (inB (t.2 1) 1 1099511627776 && (vldB (t.1 2) && ((t.1 3).toList.isEmpty && ((t.2 4 == 0) && (inB (t.2 5) 1 1099511627776 && inB (t.2 6) 1 1099511627776))))) := by
  have i3 := emp_iff (t.1 3)
  rw [Bool.eq_iff_iff, right_iff]
  constructor
  · intro R
    have a := R.all
    have o := R.one (by omega)
    rw [e, show rlist 3 = _ from listK_3] at a
    simp [Pl.okB] at a
    have i := i3.2 o.1
    simp [inB, a, o.2, i]
  · intro q
    simp only [Bool.and_eq_true] at q
    have o := i3.1 q.2.2.1
    have q' := q
    simp [inB] at q'
    refine ⟨by rw [e]; omega, ?_, fun _ => ⟨o, q'.2.2.2.1⟩, fun n => by omega⟩
    rw [e, show rlist 3 = _ from listK_3]
    simp [Pl.okB, q']
theorem refRight_any (t : ThP) (w : World) (z2 : (t.1 2).size ≤ 300) (z3 : (t.1 3).size ≤ 300) :
    Calls Tryd.prog 10 #[.agg #[.int .i64 (t.2 0), .int .i64 (t.2 1), .string (t.1 2), .string (t.1 3), .int .i64 (t.2 4), .int .i64 (t.2 5), .int .i64 (t.2 6)]] w fun e w' => e = .returned (.bool (rightB t)) ∧ Below w.heap.size w w' := by
  cases hi : inB (t.2 0) 1 3 with
  | false =>
    rw [right_none hi]
    exact refRight_none t w hi
  | true =>
    rcases kinds (of_decide_eq_true hi) with e | e | e
    · rw [right_1 e]
      exact refRight_1 t w e z2 z3
    · rw [right_2 e]
      exact refRight_2 t w e z2
    · rw [right_3 e]
      exact refRight_3 t w e z2
theorem dg35 : decDigits 35 = [51, 53] := by rw [decDigits_two (by omega) (by omega)]; rfl
theorem dg34 : decDigits 34 = [51, 52] := by rw [decDigits_two (by omega) (by omega)]; rfl
theorem dg11 : decDigits 11 = [49, 49] := by rw [decDigits_two (by omega) (by omega)]; rfl
theorem dg55 : decDigits 55 = [53, 53] := by rw [decDigits_two (by omega) (by omega)]; rfl
theorem dg54 : decDigits 54 = [53, 52] := by rw [decDigits_two (by omega) (by omega)]; rfl
theorem dg38 : decDigits 38 = [51, 56] := by rw [decDigits_two (by omega) (by omega)]; rfl
theorem dg44 : decDigits 44 = [52, 52] := by rw [decDigits_two (by omega) (by omega)]; rfl
theorem refForm_any (t : ThP) (R : RightP t) (w : World) :
    Calls Tryd.prog 13 #[.agg #[.int .i64 (t.2 0), .int .i64 (t.2 1), .string (t.1 2), .string (t.1 3), .int .i64 (t.2 4), .int .i64 (t.2 5), .int .i64 (t.2 6)]] w fun e w' => e = .returned (.string (mk (cat (fieldsT t)))) ∧ Below w.heap.size w w' := by
  obtain ⟨ok, _⟩ := right_allOk (list_good (t.2 0)) (word35_val R.kind) R.thick
  have ok : AllOk (fieldsT t) := ok
  rw [cat_flat ok]
  have A := R.all
  have SZ : ∀ s : ByteArray, vldB s = true → s.size ≤ 600 := fun s h => by
    have := (name_val h).2.1
    rw [size_eq]
    omega
  rcases kinds R.kind with e | e | e
  · have FT : fieldsT t = fieldsG (word35 1) (listK 1) (thick t 1) := by unfold fieldsT; rw [e]
    rw [FT, listK_1]
    unfold fieldsG
    rw [e, show rlist 1 = _ from listK_1] at A
    simp [Pl.okB] at A
    refine (refForm_1 t w e (by omega) (SZ _ A.2.1) (SZ _ A.2.2.1) (by omega) (by omega) (by omega)).mono ?_
    rintro e' w' ⟨rfl, b⟩
    refine ⟨?_, b⟩
    congr 3
    simp [flat, Pl.text, wordK, dg35, dg34, dg11, dg55, dg54, dg38, dg44]
  · have FT : fieldsT t = fieldsG (word35 2) (listK 2) (thick t 2) := by unfold fieldsT; rw [e]
    rw [FT, listK_2]
    unfold fieldsG
    rw [e, show rlist 2 = _ from listK_2] at A
    simp [Pl.okB] at A
    refine (refForm_2 t w e (by omega) (SZ _ A.2)).mono ?_
    rintro e' w' ⟨rfl, b⟩
    refine ⟨?_, b⟩
    congr 3
    simp [flat, Pl.text, wordK, dg35, dg34, dg11]
  · have FT : fieldsT t = fieldsG (word35 3) (listK 3) (thick t 3) := by unfold fieldsT; rw [e]
    rw [FT, listK_3]
    unfold fieldsG
    rw [e, show rlist 3 = _ from listK_3] at A
    simp [Pl.okB] at A
    refine (refForm_3 t w e (by omega) (SZ _ A.2.1) (by omega) (by omega)).mono ?_
    rintro e' w' ⟨rfl, b⟩
    refine ⟨?_, b⟩
    congr 3
    simp [flat, Pl.text, wordK, dg35, dg34, dg11, dg38, dg44]
set_option maxHeartbeats 4000000 in
theorem conv_any (t : ThP) (w : World) :
    Calls Tryd.prog 11 #[.agg #[.int .i64 (t.2 0), .int .i64 (t.2 1), .string (t.1 2), .string (t.1 3), .int .i64 (t.2 4), .int .i64 (t.2 5), .int .i64 (t.2 6)]] w fun e w' => e = .returned (.agg #[.int .i64 (t.2 0), .int .i64 (t.2 1), .string (t.1 2), .string (t.1 3), .int .i64 (t.2 4), .int .i64 (t.2 5), .int .i64 (t.2 6)]) ∧ Below w.heap.size w w' := by
  have HB : Hid (Below w.heap.size w (refBox (boxT w t) t)) := (box_below w t).trans ((refBox_below (boxT w t) t).mono (box_below w t).size)
  go_enter Tryd.func11, Tryd.ntmps11
  go_wp2_with fail
  refine bodyPost_ret (v := .agg #[.int .i64 (t.2 0), .int .i64 (t.2 1), .string (t.1 2), .string (t.1 3), .int .i64 (t.2 4), .int .i64 (t.2 5), .int .i64 (t.2 6)]) (by simp [results, Tryd.results11, go_sem]) rfl ?_
  exact ⟨rfl, HB.out⟩
end Go.Proofs.YtdbkoflejimibaaDoor.PP.O
