/-
  Contracts of the reference's in and kept.
-/
import Derived.Deep.RegionWith
import Derived.Deep.QuietTactic
import Derived.BigQuiet
import Derived.Test.YtdacmhnniecmhaaDoorGL
import Derived.Test.YtdacmhnniecmhaaDoorGP
namespace Go.Proofs.YtdacmhnniecmhaaDoor
open Go.ChangeShapes Go.WideShapes Go.ChangeAt Go.RowKit Go.Lib

/-- A number is from low to high. -/
def inB (n low high : Int) : Bool := decide (low ≤ n ∧ n ≤ high)
theorem inB_true {n low high : Int} : inB n low high = true ↔ low ≤ n ∧ n ≤ high := by unfold inB; simp
set_option maxHeartbeats 1000000 in
theorem refIn_any (n low high : Int) (w : World) :
    Calls Tryd.prog 26 #[.int .i64 n, .int .i64 low, .int .i64 high] w fun e w' => e = .returned (.bool (inB n low high)) ∧ w' = w := by
  unfold inB
  by_cases h1 : low ≤ n
  · by_cases h2 : n ≤ high
    · rw [decide_eq_true ⟨h1, h2⟩]
      go_enter Tryd.func26, Tryd.ntmps26
      go_wp2
      go_ret
      exact ⟨rfl, rfl⟩
    · rw [decide_eq_false (fun h => h2 h.2)]
      go_enter Tryd.func26, Tryd.ntmps26
      go_wp2
      go_ret
      exact ⟨rfl, rfl⟩
  · rw [decide_eq_false (fun h => h1 h.1)]
    go_enter Tryd.func26, Tryd.ntmps26
    go_wp2
    go_ret
    exact ⟨rfl, rfl⟩
theorem refIn_at {n low high : Int} {b : Bool} (h : inB n low high = b) (w : World) :
    Calls Tryd.prog 26 #[.int .i64 n, .int .i64 low, .int .i64 high] w fun e w' => e = .returned (.bool b) ∧ w = w' := by
  rw [← h]
  exact (refIn_any n low high w).mono fun e w' ⟨h1, h2⟩ => ⟨h1, h2.symm⟩
set_option maxRecDepth 100000 in
set_option maxHeartbeats 4000000 in
theorem kept_1 (i x : ByteArray) (s l p c e g r : Int) (w : World) :
    Calls Tryd.prog 27 #[.agg #[.int .i64 1, .string i, .string x, .int .i64 s, .int .i64 l, .int .i64 p, .int .i64 c, .int .i64 e, .int .i64 g, .int .i64 r]] w fun e' w' => e' = .returned (.agg #[.int .i64 1, .string i, .string x, .int .i64 s, .int .i64 l, .int .i64 p, .int .i64 c, .int .i64 e, .int .i64 0, .int .i64 r]) ∧ Below w.heap.size w w' := by
  go_enter Tryd.func27, Tryd.ntmps27
  go_wp2_with fail
  refine bodyPost_ret (v := .agg #[.int .i64 1, .string i, .string x, .int .i64 s, .int .i64 l, .int .i64 p, .int .i64 c, .int .i64 e, .int .i64 0, .int .i64 r]) (by simp [results, Tryd.results27, go_sem]) rfl ⟨rfl, ?_⟩
  exact (((Below.refl _ w).alloc (Nat.le_refl _) _).alloc (by simp) _).alloc (by simp; omega) _
set_option maxRecDepth 100000 in
set_option maxHeartbeats 4000000 in
theorem kept_2 (i x : ByteArray) (s l p c e g r : Int) (w : World) :
    Calls Tryd.prog 27 #[.agg #[.int .i64 2, .string i, .string x, .int .i64 s, .int .i64 l, .int .i64 p, .int .i64 c, .int .i64 e, .int .i64 g, .int .i64 r]] w fun e' w' => e' = .returned (.agg #[.int .i64 2, .string i, .string ⟨#[]⟩, .int .i64 s, .int .i64 0, .int .i64 0, .int .i64 0, .int .i64 0, .int .i64 0, .int .i64 r]) ∧ Below w.heap.size w w' := by
  go_enter Tryd.func27, Tryd.ntmps27
  go_wp2_with fail
  refine bodyPost_ret (v := .agg #[.int .i64 2, .string i, .string ⟨#[]⟩, .int .i64 s, .int .i64 0, .int .i64 0, .int .i64 0, .int .i64 0, .int .i64 0, .int .i64 r]) (by simp [results, Tryd.results27, go_sem]) rfl ⟨rfl, ?_⟩
  exact (((Below.refl _ w).alloc (Nat.le_refl _) _).alloc (by simp) _).alloc (by simp; omega) _
set_option maxRecDepth 100000 in
set_option maxHeartbeats 4000000 in
theorem kept_3 (i x : ByteArray) (s l p c e g r : Int) (w : World) :
    Calls Tryd.prog 27 #[.agg #[.int .i64 3, .string i, .string x, .int .i64 s, .int .i64 l, .int .i64 p, .int .i64 c, .int .i64 e, .int .i64 g, .int .i64 r]] w fun e' w' => e' = .returned (.agg #[.int .i64 3, .string ⟨#[]⟩, .string ⟨#[]⟩, .int .i64 0, .int .i64 0, .int .i64 0, .int .i64 0, .int .i64 0, .int .i64 g, .int .i64 r]) ∧ Below w.heap.size w w' := by
  go_enter Tryd.func27, Tryd.ntmps27
  go_wp2_with fail
  refine bodyPost_ret (v := .agg #[.int .i64 3, .string ⟨#[]⟩, .string ⟨#[]⟩, .int .i64 0, .int .i64 0, .int .i64 0, .int .i64 0, .int .i64 0, .int .i64 g, .int .i64 r]) (by simp [results, Tryd.results27, go_sem]) rfl ⟨rfl, ?_⟩
  exact (((Below.refl _ w).alloc (Nat.le_refl _) _).alloc (by simp) _).alloc (by simp; omega) _
set_option maxRecDepth 100000 in
set_option maxHeartbeats 4000000 in
theorem kept_4 (i x : ByteArray) (s l p c e g r : Int) (w : World) :
    Calls Tryd.prog 27 #[.agg #[.int .i64 4, .string i, .string x, .int .i64 s, .int .i64 l, .int .i64 p, .int .i64 c, .int .i64 e, .int .i64 g, .int .i64 r]] w fun e' w' => e' = .returned (.agg #[.int .i64 4, .string ⟨#[]⟩, .string ⟨#[]⟩, .int .i64 0, .int .i64 0, .int .i64 0, .int .i64 0, .int .i64 0, .int .i64 g, .int .i64 r]) ∧ Below w.heap.size w w' := by
  go_enter Tryd.func27, Tryd.ntmps27
  go_wp2_with fail
  refine bodyPost_ret (v := .agg #[.int .i64 4, .string ⟨#[]⟩, .string ⟨#[]⟩, .int .i64 0, .int .i64 0, .int .i64 0, .int .i64 0, .int .i64 0, .int .i64 g, .int .i64 r]) (by simp [results, Tryd.results27, go_sem]) rfl ⟨rfl, ?_⟩
  exact (((Below.refl _ w).alloc (Nat.le_refl _) _).alloc (by simp) _).alloc (by simp; omega) _
end Go.Proofs.YtdacmhnniecmhaaDoor
/-
  The contract of the reference's Right, for every tell.
-/
namespace Go.Proofs.YtdacmhnniecmhaaDoor
open Go.ChangeShapes Go.WideShapes Go.ChangeAt Go.RowKit Go.Lib

theorem in_zero : inB 0 0 9 = true := by decide
theorem in_zero8 : inB 0 0 99999 = true := by decide
theorem in_zero40 : inB 0 0 1099511627776 = true := by decide
theorem in_kind1 : inB 1 1 4 = true := by decide
theorem in_kind2 : inB 2 1 4 = true := by decide
theorem in_kind3 : inB 3 1 4 = true := by decide
theorem in_kind4 : inB 4 1 4 = true := by decide
set_option maxHeartbeats 4000000 in
theorem refRight_none (k : Int) (i x : ByteArray) (s l p c e g r : Int) (w : World) (hk : inB k 1 4 = false) :
    Calls Tryd.prog 12 #[.agg #[.int .i64 k, .string i, .string x, .int .i64 s, .int .i64 l, .int .i64 p, .int .i64 c, .int .i64 e, .int .i64 g, .int .i64 r]] w fun e' w' => e' = .returned (.bool false) ∧ Below w.heap.size w w' := by
  have HB0 : Hid (Below w.heap.size w (w.alloc (.cells #[.int .i64 k, .string i, .string x, .int .i64 s, .int .i64 l, .int .i64 p, .int .i64 c, .int .i64 e, .int .i64 g, .int .i64 r] 31))) := (Below.refl _ w).alloc (Nat.le_refl _) _
  have I0 := fun w => refIn_at hk w
  clear hk
  go_enter Tryd.func12, Tryd.ntmps12
  go_wp2_with fail
  go_quiet ((go_at_call 26; exact Calls.quiet_of_same ((I0 _).mono fun e' w' ⟨h1, h2⟩ => ⟨h1, h2.symm⟩)))
  go_wp2_with fail
  go_ret
  exact ⟨rfl, below_more HB0.out _⟩
/-- A tell of its letters. -/
def tt (k : Int) (i x : ByteArray) (s l p c e g r : Int) : TellP := (fun j => if j = 1 then i else x, fun j => if j = 0 then k else if j = 3 then s else if j = 4 then l else if j = 5 then p else if j = 6 then c else if j = 7 then e else if j = 8 then g else r)
theorem TellAt.letters {w : World} {b : Nat} {k : Int} {i x : ByteArray} {s l p c e g r : Int} (h : TellAt w b (tt k i x s l p c e g r)) : w.cell? ⟨b, 0, none⟩ = some (.int .i64 k) ∧ w.cell? ⟨b, 1, none⟩ = some (.string i) ∧ w.cell? ⟨b, 2, none⟩ = some (.string x) ∧ w.cell? ⟨b, 3, none⟩ = some (.int .i64 s) ∧ w.cell? ⟨b, 4, none⟩ = some (.int .i64 l) ∧ w.cell? ⟨b, 5, none⟩ = some (.int .i64 p) ∧ w.cell? ⟨b, 6, none⟩ = some (.int .i64 c) ∧ w.cell? ⟨b, 7, none⟩ = some (.int .i64 e) ∧ w.cell? ⟨b, 8, none⟩ = some (.int .i64 g) ∧ w.cell? ⟨b, 9, none⟩ = some (.int .i64 r) := h.all
theorem letters_box (k : Int) (i x : ByteArray) (s l p c e g r : Int) (w : World) : TellAt (w.alloc (.cells #[.int .i64 k, .string i, .string x, .int .i64 s, .int .i64 l, .int .i64 p, .int .i64 c, .int .i64 e, .int .i64 g, .int .i64 r] 31)) w.heap.size (tt k i x s l p c e g r) := TellAt.boxR w (tt k i x s l p c e g r)
theorem letters_same (k : Int) (i x : ByteArray) (s l p c e g r : Int) (w : World) : (Op.equalIn 10000 31 (.agg #[.int .i64 k, .string i, .string x, .int .i64 s, .int .i64 l, .int .i64 p, .int .i64 c, .int .i64 e, .int .i64 g, .int .i64 r]) (.agg #[.int .i64 k, .string i, .string x, .int .i64 s, .int .i64 l, .int .i64 p, .int .i64 c, .int .i64 e, .int .i64 g, .int .i64 r])).run Tryd.prog w = .ok true w := same_runR (tt k i x s l p c e g r) w
end Go.Proofs.YtdacmhnniecmhaaDoor
