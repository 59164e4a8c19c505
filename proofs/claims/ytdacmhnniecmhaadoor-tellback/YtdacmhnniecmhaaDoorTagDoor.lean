/-
  What the row's condition on the listed variables gives: the table of the powers of ten is laid. A start that meets it. How a list of fields that comes in reads.
-/
import Derived.Test.YtdacmhnniecmhaaDoorTagLib
import Derived.ChangeOld
import Derived.ShutString
import Derived.ChangeMaps5
import Derived.Deep.Strs
import Derived.Lib.SmallJoins
import Derived.LaidMore
import Derived.Stop.Joined
import Derived.Stop.LaidErr
namespace Go.Proofs.YtdacmhnniecmhaaDoor
open Go.ChangeShapes Go.WideShapes Go.ChangeAt Go.WideMaps Go.WideElems Go.RowKit Go.Lib

theorem own8 : ownKnob Tryd.prog.godebug = none := by kernel_rfl
theorem laidOut8 : laidOutB Tryd.prog = true := by kernel_rfl
/-- What the rows list. -/
def laid8 : List (String × DataW Unit) := Rows.tellEncodesRow.laid
theorem pow_data : (Rows.laid_internal_strconv_uint64pow10 : DataW Unit) = tabData .u64 pow10Tab := by kernel_rfl
theorem pow_global : Tryd.prog.globalNamed powName = some 1 := by kernel_rfl
theorem pow_type : (Tryd.prog.globals[(1 : Nat)]?).map (·.type) = some 140 := by kernel_rfl
theorem pow_cells : Tryd.prog.cellsOf 140 = 20 := by kernel_rfl
theorem pow_cell : Tryd.prog.cellsOf 126 = 1 := by kernel_rfl
theorem pow_of_laid {W : World} (h : laidMetH Tryd.prog laid8 W) : Pow W := by
  rw [MakeChecks.laidMetH_plain _ _ _ (by kernel_rfl)] at h
  have h1 : laidMet Tryd.prog ((powName, tabData .u64 pow10Tab) :: laid8.drop 3) W := by
    rw [← pow_data]
    exact laidMet.tail (laidMet.tail h)
  exact tabIs_of_head pow_global pow_type Tryd.underlying140 Tryd.underlying126 pow_cell pow_cells h1
/-- The door's own heap meets the condition. -/
theorem door_met (os : Os) (args : Array Value) : laidMetH Tryd.prog laid8 ((World.doorLaid Tryd.prog 400 os).forCall (fun _ _ => 0) ⟨#[], args, []⟩).memory :=
  laidMetH_of_parts3 (fuel := 8) (laidMet_of_run' 8 (by kernel_rfl) (by kernel_rfl)) (by kernel_rfl) (by kernel_rfl)

theorem add2 {b off : Nat} {i j : Nat} : ((⟨b, off, none⟩ : Addr).add i).add j = ⟨b, off + i + j, none⟩ := by
  rw [Addr.add_lit, Addr.add_lit]
theorem two_list {cs : List Value} (h : cs.length = 2) : ∃ x y, cs = [x, y] := by
  match cs, h with
  | [x, y], _ => exact ⟨x, y, rfl⟩
theorem one_of {x : Value} {y : Value} (h : [x] = [y]) : x = y := by simpa using h
end Go.Proofs.YtdacmhnniecmhaaDoor
