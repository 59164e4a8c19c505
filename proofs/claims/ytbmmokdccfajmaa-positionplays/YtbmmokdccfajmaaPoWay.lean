/-
  Contracts of position's more and less.
-/
import Derived.Test.YtbmmokdccfajmaaWorth
import Derived.Test.YtbmmokdccfajmaaPoTold
namespace Go.Proofs.Ytbmmokdccfajmaa.PO
open Go.ChangeShapes Go.WideShapes Go.ChangeAt Go.RowKit Go.Lib

theorem ans_ok {z : Int} (h0 : 0 ≤ z) (h : z ≤ 9223372036854775807) : ansN z = z ∧ ansE z = 0 := by
  unfold ansN ansE
  rw [if_pos (by omega), if_pos (by omega)]
  exact ⟨rfl, rfl⟩
theorem ans_no {z : Int} (h : 9223372036854775807 < z) : ansN z = 0 ∧ ansE z = 10 := by
  unfold ansN ansE
  rw [if_neg (by omega), if_neg (by omega)]
  exact ⟨rfl, rfl⟩
theorem three_add {w w1 : World} {T : TypeId} {x y q v : Int} (hb : Below (w.heap.size + 1 + 1 + 1) (((w.alloc (.cells #[.int .i64 x, .int .i64 y] T)).alloc (.cells #[.int .i64 q, .int .i64 v] T)).alloc (.cells #[.int .i64 0, .int .i64 0] T)) w1) :
    (w1.cell? ⟨w.heap.size, 0, none⟩ = some (.int .i64 x) ∧ w1.cell? ⟨w.heap.size, 1, none⟩ = some (.int .i64 y)) ∧ (w1.cell? ⟨w.heap.size + 1, 0, none⟩ = some (.int .i64 q) ∧ w1.cell? ⟨w.heap.size + 1, 1, none⟩ = some (.int .i64 v)) ∧ (w1.cell? ⟨w.heap.size + 1 + 1, 0, none⟩ = some (.int .i64 0) ∧ w1.cell? ⟨w.heap.size + 1 + 1, 1, none⟩ = some (.int .i64 0)) ∧ w1.frozen? ⟨w.heap.size + 1 + 1, 0, none⟩ = false ∧ w1.frozen? ⟨w.heap.size + 1 + 1, 1, none⟩ = false ∧ Below w.heap.size w w1 := by
  refine ⟨⟨?_, ?_⟩, ⟨?_, ?_⟩, ⟨?_, ?_⟩, ?_, ?_, ?_⟩
  · rw [hb.cell (p := ⟨w.heap.size, 0, none⟩) (by simp; omega)]; go_simp
  · rw [hb.cell (p := ⟨w.heap.size, 1, none⟩) (by simp; omega)]; go_simp
  · rw [hb.cell (p := ⟨w.heap.size + 1, 0, none⟩) (by simp)]; go_simp
  · rw [hb.cell (p := ⟨w.heap.size + 1, 1, none⟩) (by simp)]; go_simp
  · rw [hb.cell (p := ⟨w.heap.size + 1 + 1, 0, none⟩) (by simp)]; go_simp
  · rw [hb.cell (p := ⟨w.heap.size + 1 + 1, 1, none⟩) (by simp)]; go_simp
  · rw [hb.frozen (p := ⟨w.heap.size + 1 + 1, 0, none⟩) (by simp)]; go_simp
  · rw [hb.frozen (p := ⟨w.heap.size + 1 + 1, 1, none⟩) (by simp)]; go_simp
  · exact ((((Below.refl w.heap.size w).alloc (Nat.le_refl _) _).alloc (by simp) _).alloc (by simp; omega) _).trans (hb.mono (by omega))
set_option maxRecDepth 100000 in
set_option maxHeartbeats 2000000 in
theorem more_ok (x y q v : Int) (w : World) (hx : 0 ≤ x ∧ x ≤ 9223372036854775807) (hy : 0 ≤ y ∧ y ≤ 9223372036854775807) (hq : 0 ≤ q ∧ q ≤ 9223372036854775807) (hv : 0 ≤ v ∧ v ≤ 9223372036854775807) (h1 : x + q ≤ 9223372036854775807) (h2 : y + v ≤ 9223372036854775807) :
    Calls Try.prog 24 #[.agg #[.int .i64 x, .int .i64 y], .agg #[.int .i64 q, .int .i64 v]] w fun e w' => e = .returned (.tuple #[.agg #[.int .i64 (x + q), .int .i64 (y + v)], .int .i64 0]) ∧ Below w.heap.size w w' := by
  have F := fun w => add_any x q w (by omega) hx.2 (by omega) hq.2
  rw [(ans_ok (show 0 ≤ x + q by omega) h1).1, (ans_ok (show 0 ≤ x + q by omega) h1).2] at F
  have G := fun w => add_any y v w (by omega) hy.2 (by omega) hv.2
  rw [(ans_ok (show 0 ≤ y + v by omega) h2).1, (ans_ok (show 0 ≤ y + v by omega) h2).2] at G
  generalize x + q = X at *
  generalize y + v = Y at *
  go_enter Try.func24, Try.ntmps24
  go_wp2_with fail
  refine (F _).mono ?_
  rintro e w1 ⟨rfl, hb1⟩
  simp only [World.size_alloc] at hb1
  obtain ⟨⟨c0, c1⟩, ⟨c2, c3⟩, ⟨c4, c5⟩, f0, f1, HB⟩ := three_add hb1
  have hs := hb1.size
  simp at hs
  clear hb1
  go_wp2_with fail
  refine (G _).mono ?_
  rintro e w2 ⟨rfl, hb2⟩
  have d4 := (hb2.cell (p := ⟨w.heap.size + 1 + 1, 0, none⟩) (by simp; omega)).trans c4
  have d5 := (hb2.cell (p := ⟨w.heap.size + 1 + 1, 1, none⟩) (by simp; omega)).trans c5
  have g0 := (hb2.frozen (p := ⟨w.heap.size + 1 + 1, 0, none⟩) (by simp; omega)).trans f0
  have g1 := (hb2.frozen (p := ⟨w.heap.size + 1 + 1, 1, none⟩) (by simp; omega)).trans f1
  have HB2 : Hid (Below w.heap.size w w2) := HB.trans (hb2.mono HB.size)
  clear hb2 HB
  go_wp2_with fail
  refine bodyPost_ret (v := .tuple #[.agg #[.int .i64 X, .int .i64 Y], .int .i64 0]) (by simp [results, Try.results24, go_sem, d4, d5]) rfl ⟨rfl, ?_⟩
  exact (HB2.out.setCell (by simp; omega) _).setCell (by simp; omega) _
set_option maxRecDepth 100000 in
set_option maxHeartbeats 2000000 in
theorem more_bad (x y q v : Int) (w : World) (hx : 0 ≤ x ∧ x ≤ 9223372036854775807) (hy : 0 ≤ y ∧ y ≤ 9223372036854775807) (hq : 0 ≤ q ∧ q ≤ 9223372036854775807) (hv : 0 ≤ v ∧ v ≤ 9223372036854775807) (h1 : badB false x y q v = true) :
    Calls Try.prog 24 #[.agg #[.int .i64 x, .int .i64 y], .agg #[.int .i64 q, .int .i64 v]] w fun e w' => e = .returned (.tuple #[.agg #[.int .i64 0, .int .i64 0], .int .i64 10]) ∧ Below w.heap.size w w' := by
  by_cases h2 : 9223372036854775807 < x + q
  · have F := fun w => add_any x q w (by omega) hx.2 (by omega) hq.2
    rw [(ans_no h2).1, (ans_no h2).2] at F
    clear h1
    go_enter Try.func24, Try.ntmps24
    go_wp2_with fail
    refine (F _).mono ?_
    rintro e w1 ⟨rfl, hb1⟩
    simp only [World.size_alloc] at hb1
    obtain ⟨⟨c0, c1⟩, ⟨c2, c3⟩, ⟨c4, c5⟩, f0, f1, hb⟩ := three_add hb1
    have HB : Hid (Below w.heap.size w w1) := hb
    clear hb1 hb
    go_wp2_with fail
    refine bodyPost_ret (v := .tuple #[.agg #[.int .i64 0, .int .i64 0], .int .i64 10]) (by simp [results, Try.results24, go_sem, c4, c5]) rfl ⟨rfl, ?_⟩
    exact (HB.out.setCell (by simp; omega) _).setCell (by simp; omega) _
  · have h3 : 9223372036854775807 < y + v := by simp [badB] at h1; omega
    have F := fun w => add_any x q w (by omega) hx.2 (by omega) hq.2
    rw [(ans_ok (show 0 ≤ x + q by omega) (by omega)).1, (ans_ok (show 0 ≤ x + q by omega) (by omega)).2] at F
    have G := fun w => add_any y v w (by omega) hy.2 (by omega) hv.2
    rw [(ans_no h3).1, (ans_no h3).2] at G
    clear h1
    generalize x + q = X at *
    go_enter Try.func24, Try.ntmps24
    go_wp2_with fail
    refine (F _).mono ?_
    rintro e w1 ⟨rfl, hb1⟩
    simp only [World.size_alloc] at hb1
    obtain ⟨⟨c0, c1⟩, ⟨c2, c3⟩, ⟨c4, c5⟩, f0, f1, HB⟩ := three_add hb1
    have hs := hb1.size
    simp at hs
    clear hb1
    go_wp2_with fail
    refine (G _).mono ?_
    rintro e w2 ⟨rfl, hb2⟩
    have d4 := (hb2.cell (p := ⟨w.heap.size + 1 + 1, 0, none⟩) (by simp; omega)).trans c4
    have d5 := (hb2.cell (p := ⟨w.heap.size + 1 + 1, 1, none⟩) (by simp; omega)).trans c5
    have g0 := (hb2.frozen (p := ⟨w.heap.size + 1 + 1, 0, none⟩) (by simp; omega)).trans f0
    have g1 := (hb2.frozen (p := ⟨w.heap.size + 1 + 1, 1, none⟩) (by simp; omega)).trans f1
    have HB2 : Hid (Below w.heap.size w w2) := HB.trans (hb2.mono HB.size)
    clear hb2 HB
    go_wp2_with fail
    refine bodyPost_ret (v := .tuple #[.agg #[.int .i64 0, .int .i64 0], .int .i64 10]) (by simp [results, Try.results24, go_sem, d4, d5]) rfl ⟨rfl, ?_⟩
    exact (HB2.out.setCell (by simp; omega) _).setCell (by simp; omega) _
set_option maxRecDepth 100000 in
set_option maxHeartbeats 2000000 in
theorem less_ok (x y q v : Int) (w : World) (hx : 0 ≤ x ∧ x ≤ 9223372036854775807) (hy : 0 ≤ y ∧ y ≤ 9223372036854775807) (hq : 0 ≤ q ∧ q ≤ 9223372036854775807) (hv : 0 ≤ v ∧ v ≤ 9223372036854775807) (h1 : q ≤ x) (h2 : v ≤ y) :
    Calls Try.prog 28 #[.agg #[.int .i64 x, .int .i64 y], .agg #[.int .i64 q, .int .i64 v]] w fun e w' => e = .returned (.tuple #[.agg #[.int .i64 (x - q), .int .i64 (y - v)], .int .i64 0]) ∧ Below w.heap.size w w' := by
  go_enter Try.func28, Try.ntmps28
  go_wp2_with fail
  refine bodyPost_ret (v := .tuple #[.agg #[.int .i64 (x - q), .int .i64 (y - v)], .int .i64 0]) (by simp [results, Try.results28, go_sem]) rfl ⟨rfl, ?_⟩
  exact (((Below.refl w.heap.size w).alloc (Nat.le_refl _) _).alloc (by simp) _).alloc (by simp; omega) _
set_option maxRecDepth 100000 in
set_option maxHeartbeats 2000000 in
theorem less_bad (x y q v : Int) (w : World) (_hx : 0 ≤ x ∧ x ≤ 9223372036854775807) (_hy : 0 ≤ y ∧ y ≤ 9223372036854775807) (_hq : 0 ≤ q ∧ q ≤ 9223372036854775807) (_hv : 0 ≤ v ∧ v ≤ 9223372036854775807) (h1 : badB true x y q v = true) :
    Calls Try.prog 28 #[.agg #[.int .i64 x, .int .i64 y], .agg #[.int .i64 q, .int .i64 v]] w fun e w' => e = .returned (.tuple #[.agg #[.int .i64 0, .int .i64 0], .int .i64 10]) ∧ Below w.heap.size w w' := by
  by_cases h2 : x < q
  · clear h1
    go_enter Try.func28, Try.ntmps28
    go_wp2_with fail
    refine bodyPost_ret (v := .tuple #[.agg #[.int .i64 0, .int .i64 0], .int .i64 10]) (by simp [results, Try.results28, go_sem]) rfl ⟨rfl, ?_⟩
    exact (((Below.refl w.heap.size w).alloc (Nat.le_refl _) _).alloc (by simp) _).alloc (by simp; omega) _
  · have h3 : y < v := by simp [badB] at h1; omega
    clear h1
    go_enter Try.func28, Try.ntmps28
    go_wp2_with fail
    refine bodyPost_ret (v := .tuple #[.agg #[.int .i64 0, .int .i64 0], .int .i64 10]) (by simp [results, Try.results28, go_sem]) rfl ⟨rfl, ?_⟩
    exact (((Below.refl w.heap.size w).alloc (Nat.le_refl _) _).alloc (by simp) _).alloc (by simp; omega) _
set_option maxRecDepth 100000 in
set_option maxHeartbeats 2000000 in
theorem more_any (x y q v : Int) (w : World) (hx : 0 ≤ x ∧ x ≤ 9223372036854775807) (hy : 0 ≤ y ∧ y ≤ 9223372036854775807) (hq : 0 ≤ q ∧ q ≤ 9223372036854775807) (hv : 0 ≤ v ∧ v ≤ 9223372036854775807) (h : badB false x y q v = false) :
    Calls Try.prog 24 #[.agg #[.int .i64 x, .int .i64 y], .agg #[.int .i64 q, .int .i64 v]] w fun e w' => e = .returned (.tuple #[.agg #[.int .i64 (nxt false x q), .int .i64 (nxt false y v)], .int .i64 0]) ∧ Below w.heap.size w w' := by
  have h1 : x + q ≤ 9223372036854775807 ∧ y + v ≤ 9223372036854775807 := by simpa [badB] using h
  exact more_ok x y q v w hx hy hq hv h1.1 h1.2
set_option maxRecDepth 100000 in
set_option maxHeartbeats 2000000 in
theorem less_any (x y q v : Int) (w : World) (hx : 0 ≤ x ∧ x ≤ 9223372036854775807) (hy : 0 ≤ y ∧ y ≤ 9223372036854775807) (hq : 0 ≤ q ∧ q ≤ 9223372036854775807) (hv : 0 ≤ v ∧ v ≤ 9223372036854775807) (h : badB true x y q v = false) :
    Calls Try.prog 28 #[.agg #[.int .i64 x, .int .i64 y], .agg #[.int .i64 q, .int .i64 v]] w fun e w' => e = .returned (.tuple #[.agg #[.int .i64 (nxt true x q), .int .i64 (nxt true y v)], .int .i64 0]) ∧ Below w.heap.size w w' := by
  have h1 : q ≤ x ∧ v ≤ y := by simpa [badB] using h
  exact less_ok x y q v w hx hy hq hv h1.1 h1.2
end Go.Proofs.Ytbmmokdccfajmaa.PO
