/-
  Contracts of matrix's table and Next: for every state, event and number.
-/
import Derived.Test.YtkkimkhkoiempaaMaSmall
import Derived.Deep.WholeRow
import Derived.Great.BuildSlice
import Derived.Deep.DeepCutAuto
namespace Go.Proofs.Ytkkimkhkoiempaa.MA
open Go.ChangeShapes Go.WideShapes Go.ChangeAt Go.RowKit

/-- The table as a value, and its row of a state. -/
def tabA : Array Value := #[.int .i64 0, .int .i64 0, .int .i64 0, .int .i64 0, .int .i64 0, .int .i64 0, .int .i64 0, .int .i64 0, .int .i64 0, .int .i64 0, .int .i64 0, .int .i64 0, .int .i64 2, .int .i64 7, .int .i64 0, .int .i64 8, .int .i64 3, .int .i64 6, .int .i64 (-1), .int .i64 0, .int .i64 4, .int .i64 0, .int .i64 0, .int .i64 0, .int .i64 7, .int .i64 0, .int .i64 0, .int .i64 3, .int .i64 6, .int .i64 (-1), .int .i64 0, .int .i64 4, .int .i64 5, .int .i64 0, .int .i64 (-1), .int .i64 7, .int .i64 0, .int .i64 0, .int .i64 (-1), .int .i64 6, .int .i64 (-2), .int .i64 0, .int .i64 4, .int .i64 5, .int .i64 0, .int .i64 (-1), .int .i64 7, .int .i64 0, .int .i64 8, .int .i64 (-1), .int .i64 6, .int .i64 (-1), .int .i64 (-2), .int .i64 0, .int .i64 0, .int .i64 0, .int .i64 0, .int .i64 7, .int .i64 (-2), .int .i64 0, .int .i64 (-1), .int .i64 6, .int .i64 (-1), .int .i64 (-2), .int .i64 0, .int .i64 0, .int .i64 0, .int .i64 0, .int .i64 0, .int .i64 0, .int .i64 0, .int .i64 0, .int .i64 0, .int .i64 (-1), .int .i64 0, .int .i64 0, .int .i64 0, .int .i64 0, .int .i64 0, .int .i64 0, .int .i64 0, .int .i64 0, .int .i64 0, .int .i64 0, .int .i64 (-1), .int .i64 0, .int .i64 0, .int .i64 0, .int .i64 0, .int .i64 0, .int .i64 0, .int .i64 0, .int .i64 0, .int .i64 0, .int .i64 0, .int .i64 0, .int .i64 0, .int .i64 0, .int .i64 0]
def zeroA : Array Value := #[.int .i64 0, .int .i64 0, .int .i64 0, .int .i64 0, .int .i64 0, .int .i64 0, .int .i64 0, .int .i64 0, .int .i64 0, .int .i64 0, .int .i64 0, .int .i64 0, .int .i64 0, .int .i64 0, .int .i64 0, .int .i64 0, .int .i64 0, .int .i64 0, .int .i64 0, .int .i64 0, .int .i64 0, .int .i64 0, .int .i64 0, .int .i64 0, .int .i64 0, .int .i64 0, .int .i64 0, .int .i64 0, .int .i64 0, .int .i64 0, .int .i64 0, .int .i64 0, .int .i64 0, .int .i64 0, .int .i64 0, .int .i64 0, .int .i64 0, .int .i64 0, .int .i64 0, .int .i64 0, .int .i64 0, .int .i64 0, .int .i64 0, .int .i64 0, .int .i64 0, .int .i64 0, .int .i64 0, .int .i64 0, .int .i64 0, .int .i64 0, .int .i64 0, .int .i64 0, .int .i64 0, .int .i64 0, .int .i64 0, .int .i64 0, .int .i64 0, .int .i64 0, .int .i64 0, .int .i64 0, .int .i64 0, .int .i64 0, .int .i64 0, .int .i64 0, .int .i64 0, .int .i64 0, .int .i64 0, .int .i64 0, .int .i64 0, .int .i64 0, .int .i64 0, .int .i64 0, .int .i64 0, .int .i64 0, .int .i64 0, .int .i64 0, .int .i64 0, .int .i64 0, .int .i64 0, .int .i64 0, .int .i64 0, .int .i64 0, .int .i64 0, .int .i64 0, .int .i64 0, .int .i64 0, .int .i64 0, .int .i64 0, .int .i64 0, .int .i64 0, .int .i64 0, .int .i64 0, .int .i64 0, .int .i64 0, .int .i64 0, .int .i64 0, .int .i64 0, .int .i64 0, .int .i64 0]
def rowA (s : Int) : Array Value := ((rws.getD s.toNat []).map (fun x => Value.int .i64 x)).toArray
set_option maxRecDepth 1000000 in
set_option maxHeartbeats 8000000 in
theorem table_any (w : World) : Calls Try.prog 47 #[] w fun e w' => e = .returned (.agg tabA) ∧ Below w.heap.size w w' := by
  have hz : ∀ w : World, Sem.run Try.prog (zeroValue 69) w = .ok (.agg zeroA) w := fun _ => by kernel_rfl
  go_enter Try.func47, Try.ntmps47
  go_upto_region 1 with fail
  apply wp_region_lit
  refine wpList_buildTo rfl 68 _ rfl (some 1) rfl (rowA 1) (by kernel_rfl) ?_
  refine wpList_buildTo rfl 68 _ rfl (some 2) rfl (rowA 2) (by kernel_rfl) ?_
  refine wpList_buildTo rfl 68 _ rfl (some 3) rfl (rowA 3) (by kernel_rfl) ?_
  refine wpList_buildTo rfl 68 _ rfl (some 4) rfl (rowA 4) (by kernel_rfl) ?_
  refine wpList_buildTo rfl 68 _ rfl (some 5) rfl (rowA 5) (by kernel_rfl) ?_
  refine wpList_buildTo rfl 68 _ rfl (some 6) rfl (rowA 6) (by kernel_rfl) ?_
  refine wpList_buildTo rfl 68 _ rfl (some 7) rfl (rowA 7) (by kernel_rfl) ?_
  refine wpList_buildTo rfl 68 _ rfl (some 8) rfl (rowA 8) (by kernel_rfl) ?_
  refine wpList_buildTo rfl 69 _ rfl (some 9) rfl tabA (by kernel_rfl) ?_
  refine wpList_frame (a' := ⟨#[.pointer (some ⟨w.heap.size, 0, none⟩), .agg (rowA 1), .agg (rowA 2), .agg (rowA 3), .agg (rowA 4), .agg (rowA 5), .agg (rowA 6), .agg (rowA 7), .agg (rowA 8), .agg tabA], []⟩) (by kernel_rfl) ?_
  refine wpList_store_rowTo rfl 69 (.tmp 0) (.tmp 9) rfl rfl w.heap.size tabA (by kernel_rfl) (by kernel_rfl) 69 zeroA (heap_alloc_last w _) (by kernel_rfl) (by kernel_rfl) (by kernel_rfl) ?_
  rw [World.setRow_alloc_new]
  go_wp2_with fail
  have hld := run_loadVar_new (P := Try.prog) w 69 tabA 9 68 Try.underlying69 (by kernel_rfl)
  refine bodyPost_ret (v := .agg tabA) ?_ rfl ⟨rfl, (Below.refl _ w).alloc (Nat.le_refl _) _⟩
  simp [results, Try.results47, asAddr, hld]
end Go.Proofs.Ytkkimkhkoiempaa.MA
