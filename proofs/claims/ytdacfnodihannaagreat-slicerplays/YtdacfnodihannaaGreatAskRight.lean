/-
  Contracts of ask's within, rightSpan, rightChange, noChange, noOrder: each looks at an ask that is handed in by value.
-/
import Derived.BigQuiet
import Derived.Deep.QuietTactic
import Derived.Test.YtdacfnodihannaaGreatOrder
import Derived.Test.YtdacfnodihannaaGreatLists
namespace Go.Proofs.YtdacfnodihannaaGreat
open Go.ChangeShapes Go.WideShapes Go.ChangeAt Go.RowKit Go.Lib

/-- A number is from low to high. -/
def inB (n low high : Int) : Bool := decide (low ≤ n) && decide (n ≤ high)
theorem inB_true {n low high : Int} : inB n low high = true ↔ low ≤ n ∧ n ≤ high := by unfold inB; simp
theorem inB_false {n low high : Int} : inB n low high = false ↔ n < low ∨ high < n := by
  unfold inB
  by_cases h : low ≤ n <;> simp [h] <;> omega
set_option maxHeartbeats 1000000 in
theorem askWithin_any (n low high : Int) (w : World) :
    Calls Tryz.prog 59 #[.int .i64 n, .int .i64 low, .int .i64 high] w fun e w' => e = .returned (.bool (inB n low high)) ∧ w' = w := by
  by_cases h1 : low ≤ n
  · by_cases h2 : n ≤ high
    · rw [inB_true.2 ⟨h1, h2⟩]
      go_enter Tryz.func59, Tryz.ntmps59
      go_wp2
      go_ret
      exact ⟨rfl, rfl⟩
    · rw [inB_false.2 (.inr (by omega))]
      go_enter Tryz.func59, Tryz.ntmps59
      go_wp2
      go_ret
      exact ⟨rfl, rfl⟩
  · rw [inB_false.2 (.inl (by omega))]
    go_enter Tryz.func59, Tryz.ntmps59
    go_wp2
    go_ret
    exact ⟨rfl, rfl⟩
/-- The ask that a block holds. -/
abbrev boxA (w : World) (k : Int) (i t c s : ByteArray) (sd q p al st en ra sh : Int) (cv : Value) : World := w.alloc (.cells #[.int .i64 k, .string i, .string t, .string c, .string s, .int .i64 sd, .int .i64 q, .int .i64 p, .int .i64 al, .int .i64 st, .int .i64 en, .int .i64 ra, .int .i64 sh, cv] 24)
theorem boxA_below (w : World) (k : Int) (i t c s : ByteArray) (sd q p al st en ra sh : Int) (cv : Value) : Below w.heap.size w (boxA w k i t c s sd q p al st en ra sh cv) := (Below.refl _ w).alloc (Nat.le_refl _) _
set_option maxHeartbeats 1000000 in
theorem rightSpan_any (k : Int) (i t c s : ByteArray) (sd q p al st en ra sh : Int) (cv : Value) (w : World) (h1 : -9223372036854775808 ≤ en - st) (h2 : en - st ≤ 9223372036854775807) :
    Calls Tryz.prog 60 #[.agg #[.int .i64 k, .string i, .string t, .string c, .string s, .int .i64 sd, .int .i64 q, .int .i64 p, .int .i64 al, .int .i64 st, .int .i64 en, .int .i64 ra, .int .i64 sh, cv]] w fun e w' => e = .returned (.bool (inB (en - st) 1 1073741824)) ∧ Below w.heap.size w w' := by
  have F := fun w => askWithin_any (en - st) 1 1073741824 w
  go_enter Tryz.func60, Tryz.ntmps60
  go_wp2_with fail
  refine (F _).mono ?_
  rintro e w1 ⟨rfl, rfl⟩
  go_wp2_with fail
  go_ret
  exact ⟨rfl, boxA_below w k i t c s sd q p al st en ra sh cv⟩
/-- What can be amended is right. -/
def chgB (q p en : Int) : Bool := inB q 1 1099511627776 && inB p 1 1099511627776 && inB en 0 1099511627776
set_option maxHeartbeats 2000000 in
theorem rightChange_any (k : Int) (i t c s : ByteArray) (sd q p al st en ra sh : Int) (cv : Value) (w : World) :
    Calls Tryz.prog 37 #[.agg #[.int .i64 k, .string i, .string t, .string c, .string s, .int .i64 sd, .int .i64 q, .int .i64 p, .int .i64 al, .int .i64 st, .int .i64 en, .int .i64 ra, .int .i64 sh, cv]] w fun e w' => e = .returned (.bool (chgB q p en)) ∧ Below w.heap.size w w' := by
  have F1 := fun w => askWithin_any q 1 1099511627776 w
  have F2 := fun w => askWithin_any p 1 1099511627776 w
  have F3 := fun w => askWithin_any en 0 1099511627776 w
  unfold chgB
  cases h1 : inB q 1 1099511627776 with
  | false =>
    rw [h1] at F1
    go_enter Tryz.func37, Tryz.ntmps37
    go_wp2_with fail
    refine (F1 _).mono ?_
    rintro e w1 ⟨rfl, rfl⟩
    go_wp2_with fail
    go_ret
    exact ⟨rfl, boxA_below w k i t c s sd q p al st en ra sh cv⟩
  | true =>
    cases h2 : inB p 1 1099511627776 with
    | false =>
      rw [h1] at F1
      rw [h2] at F2
      go_enter Tryz.func37, Tryz.ntmps37
      go_wp2_with fail
      refine (F1 _).mono ?_
      rintro e w1 ⟨rfl, rfl⟩
      go_wp2_with fail
      refine (F2 _).mono ?_
      rintro e w1 ⟨rfl, rfl⟩
      go_wp2_with fail
      go_ret
      exact ⟨rfl, boxA_below w k i t c s sd q p al st en ra sh cv⟩
    | true =>
      rw [h1] at F1
      rw [h2] at F2
      go_enter Tryz.func37, Tryz.ntmps37
      go_wp2_with fail
      refine (F1 _).mono ?_
      rintro e w1 ⟨rfl, rfl⟩
      go_wp2_with fail
      refine (F2 _).mono ?_
      rintro e w1 ⟨rfl, rfl⟩
      go_wp2_with fail
      refine (F3 _).mono ?_
      rintro e w1 ⟨rfl, rfl⟩
      go_wp2_with fail
      go_ret
      exact ⟨rfl, boxA_below w k i t c s sd q p al st en ra sh cv⟩
/-- Block b holds the ask. -/
def AskAt (w : World) (b : Nat) (k : Int) (i t c s : ByteArray) (sd q p al st en ra sh : Int) (cv : Value) : Prop := w.cell? ⟨b, 0, none⟩ = some (.int .i64 k) ∧ w.cell? ⟨b, 1, none⟩ = some (.string i) ∧ w.cell? ⟨b, 2, none⟩ = some (.string t) ∧ w.cell? ⟨b, 3, none⟩ = some (.string c) ∧ w.cell? ⟨b, 4, none⟩ = some (.string s) ∧ w.cell? ⟨b, 5, none⟩ = some (.int .i64 sd) ∧ w.cell? ⟨b, 6, none⟩ = some (.int .i64 q) ∧ w.cell? ⟨b, 7, none⟩ = some (.int .i64 p) ∧ w.cell? ⟨b, 8, none⟩ = some (.int .i64 al) ∧ w.cell? ⟨b, 9, none⟩ = some (.int .i64 st) ∧ w.cell? ⟨b, 10, none⟩ = some (.int .i64 en) ∧ w.cell? ⟨b, 11, none⟩ = some (.int .i64 ra) ∧ w.cell? ⟨b, 12, none⟩ = some (.int .i64 sh) ∧ w.cell? ⟨b, 13, none⟩ = some (cv)
theorem AskAt.box (w : World) (k : Int) (i t c s : ByteArray) (sd q p al st en ra sh : Int) (cv : Value) : AskAt (boxA w k i t c s sd q p al st en ra sh cv) w.heap.size k i t c s sd q p al st en ra sh cv := by
  refine ⟨?_, ?_, ?_, ?_, ?_, ?_, ?_, ?_, ?_, ?_, ?_, ?_, ?_, ?_⟩ <;> simp
theorem AskAt.lt {w : World} {b : Nat} {k : Int} {i t c s : ByteArray} {sd q p al st en ra sh : Int} {cv : Value} (h : AskAt w b k i t c s sd q p al st en ra sh cv) : b < w.heap.size := World.block_lt_of_cell? _ _ h.1
theorem AskAt.still {w w' : World} {b n : Nat} {k : Int} {i t c s : ByteArray} {sd q p al st en ra sh : Int} {cv : Value} (h : AskAt w b k i t c s sd q p al st en ra sh cv) (hb : Below n w w') (hn : b < n) : AskAt w' b k i t c s sd q p al st en ra sh cv := by
  obtain ⟨h0, h1, h2, h3, h4, h5, h6, h7, h8, h9, h10, h11, h12, h13⟩ := h
  exact ⟨(hb.cell (p := ⟨b, 0, none⟩) hn).trans h0, (hb.cell (p := ⟨b, 1, none⟩) hn).trans h1, (hb.cell (p := ⟨b, 2, none⟩) hn).trans h2, (hb.cell (p := ⟨b, 3, none⟩) hn).trans h3, (hb.cell (p := ⟨b, 4, none⟩) hn).trans h4, (hb.cell (p := ⟨b, 5, none⟩) hn).trans h5, (hb.cell (p := ⟨b, 6, none⟩) hn).trans h6, (hb.cell (p := ⟨b, 7, none⟩) hn).trans h7, (hb.cell (p := ⟨b, 8, none⟩) hn).trans h8, (hb.cell (p := ⟨b, 9, none⟩) hn).trans h9, (hb.cell (p := ⟨b, 10, none⟩) hn).trans h10, (hb.cell (p := ⟨b, 11, none⟩) hn).trans h11, (hb.cell (p := ⟨b, 12, none⟩) hn).trans h12, (hb.cell (p := ⟨b, 13, none⟩) hn).trans h13⟩
/-- Nothing is set that can be amended. -/
def noChgB (q p en : Int) : Bool := (q == 0) && ((p == 0) && (en == 0))
set_option maxHeartbeats 4000000 in
theorem noChange_any (k : Int) (i t c s : ByteArray) (sd q p al st en ra sh : Int) (cv : Value) (w : World) :
    Calls Tryz.prog 39 #[.agg #[.int .i64 k, .string i, .string t, .string c, .string s, .int .i64 sd, .int .i64 q, .int .i64 p, .int .i64 al, .int .i64 st, .int .i64 en, .int .i64 ra, .int .i64 sh, cv]] w fun e w' => e = .returned (.bool (noChgB q p en)) ∧ Below w.heap.size w w' := by
  have B := boxA_below w k i t c s sd q p al st en ra sh cv
  cases h0 : (q == 0)
  case false =>
    rw [show noChgB q p en = false by unfold noChgB; simp [h0]]
    go_enter Tryz.func39, Tryz.ntmps39
    go_wp2_with fail
    go_ret
    exact ⟨rfl, B⟩
  cases h1 : (p == 0)
  case false =>
    rw [show noChgB q p en = false by unfold noChgB; simp [h1]]
    go_enter Tryz.func39, Tryz.ntmps39
    go_wp2_with fail
    go_ret
    exact ⟨rfl, B⟩
  cases h2 : (en == 0)
  case false =>
    rw [show noChgB q p en = false by unfold noChgB; simp [h2]]
    go_enter Tryz.func39, Tryz.ntmps39
    go_wp2_with fail
    go_ret
    exact ⟨rfl, B⟩
  rw [show noChgB q p en = true by unfold noChgB; simp [h0, h1, h2]]
  go_enter Tryz.func39, Tryz.ntmps39
  go_wp2_with fail
  go_ret
  exact ⟨rfl, B⟩
/-- Nothing is set that new orders alone have. -/
def noOrdB (c s : ByteArray) (sd al st : Int) (n : Nat) (ra sh : Int) : Bool := c.toList.isEmpty && (s.toList.isEmpty && ((sd == 0) && ((al == 0) && ((st == 0) && (((n : Int) == 0) && ((ra == 0) && (sh == 0)))))))
set_option maxHeartbeats 4000000 in
theorem noOrder_any (k : Int) (i t c s : ByteArray) (sd q p al st en ra sh : Int) (a : Option Addr) (n cap : Nat) (w : World) :
    Calls Tryz.prog 38 #[.agg #[.int .i64 k, .string i, .string t, .string c, .string s, .int .i64 sd, .int .i64 q, .int .i64 p, .int .i64 al, .int .i64 st, .int .i64 en, .int .i64 ra, .int .i64 sh, .slice a n cap]] w fun e w' => e = .returned (.bool (noOrdB c s sd al st n ra sh)) ∧ Below w.heap.size w w' := by
  have B := boxA_below w k i t c s sd q p al st en ra sh (.slice a n cap)
  cases h0 : c.toList.isEmpty
  case false =>
    rw [show noOrdB c s sd al st n ra sh = false by unfold noOrdB; simp [h0]]
    go_enter Tryz.func38, Tryz.ntmps38
    go_wp2_with fail
    go_ret
    exact ⟨rfl, B⟩
  cases h1 : s.toList.isEmpty
  case false =>
    rw [show noOrdB c s sd al st n ra sh = false by unfold noOrdB; simp [h1]]
    go_enter Tryz.func38, Tryz.ntmps38
    go_wp2_with fail
    go_ret
    exact ⟨rfl, B⟩
  cases h2 : (sd == 0)
  case false =>
    rw [show noOrdB c s sd al st n ra sh = false by unfold noOrdB; simp [h2]]
    go_enter Tryz.func38, Tryz.ntmps38
    go_wp2_with fail
    go_ret
    exact ⟨rfl, B⟩
  cases h3 : (al == 0)
  case false =>
    rw [show noOrdB c s sd al st n ra sh = false by unfold noOrdB; simp [h3]]
    go_enter Tryz.func38, Tryz.ntmps38
    go_wp2_with fail
    go_ret
    exact ⟨rfl, B⟩
  cases h4 : (st == 0)
  case false =>
    rw [show noOrdB c s sd al st n ra sh = false by unfold noOrdB; simp [h4]]
    go_enter Tryz.func38, Tryz.ntmps38
    go_wp2_with fail
    go_ret
    exact ⟨rfl, B⟩
  cases h5 : ((n : Int) == 0)
  case false =>
    rw [show noOrdB c s sd al st n ra sh = false by unfold noOrdB; simp [h5]]
    go_enter Tryz.func38, Tryz.ntmps38
    go_wp2_with fail
    go_ret
    exact ⟨rfl, B⟩
  cases h6 : (ra == 0)
  case false =>
    rw [show noOrdB c s sd al st n ra sh = false by unfold noOrdB; simp [h6]]
    go_enter Tryz.func38, Tryz.ntmps38
    go_wp2_with fail
    go_ret
    exact ⟨rfl, B⟩
  cases h7 : (sh == 0)
  case false =>
    rw [show noOrdB c s sd al st n ra sh = false by unfold noOrdB; simp [h7]]
    go_enter Tryz.func38, Tryz.ntmps38
    go_wp2_with fail
    go_ret
    exact ⟨rfl, B⟩
  rw [show noOrdB c s sd al st n ra sh = true by unfold noOrdB; simp [h0, h1, h2, h3, h4, h5, h6, h7]]
  go_enter Tryz.func38, Tryz.ntmps38
  go_wp2_with fail
  go_ret
  exact ⟨rfl, B⟩
end Go.Proofs.YtdacfnodihannaaGreat
