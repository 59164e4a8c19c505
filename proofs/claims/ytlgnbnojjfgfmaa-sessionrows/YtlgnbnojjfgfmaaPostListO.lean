/-
  The fields that a kind has (Order), in the body's order (plain).
-/
import Derived.Test.YtlgnbnojjfgfmaaPostBaseO
namespace Go.Proofs.Ytlgnbnojjfgfmaa.PP.O
open Go.Lib

/-- The fields of a kind. -/
def listK (k : Int) : List Pl :=
  if k = 1 then [⟨34, false, 1, 1, 1099511627776⟩, ⟨11, true, 2, 0, 0⟩, ⟨55, true, 3, 0, 0⟩, ⟨54, false, 4, 1, 2⟩, ⟨38, false, 5, 1, 1099511627776⟩, ⟨44, false, 6, 1, 1099511627776⟩]
  else if k = 2 then [⟨34, false, 1, 1, 1099511627776⟩, ⟨11, true, 2, 0, 0⟩]
  else if k = 3 then [⟨34, false, 1, 1, 1099511627776⟩, ⟨11, true, 2, 0, 0⟩, ⟨38, false, 5, 1, 1099511627776⟩, ⟨44, false, 6, 1, 1099511627776⟩]
  else []
theorem listK_1 : listK 1 = [⟨34, false, 1, 1, 1099511627776⟩, ⟨11, true, 2, 0, 0⟩, ⟨55, true, 3, 0, 0⟩, ⟨54, false, 4, 1, 2⟩, ⟨38, false, 5, 1, 1099511627776⟩, ⟨44, false, 6, 1, 1099511627776⟩] := rfl
theorem listK_2 : listK 2 = [⟨34, false, 1, 1, 1099511627776⟩, ⟨11, true, 2, 0, 0⟩] := rfl
theorem listK_3 : listK 3 = [⟨34, false, 1, 1, 1099511627776⟩, ⟨11, true, 2, 0, 0⟩, ⟨38, false, 5, 1, 1099511627776⟩, ⟨44, false, 6, 1, 1099511627776⟩] := rfl
theorem kinds {k : Int} (h : 1 ≤ k ∧ k ≤ 3) : k = 1 ∨ k = 2 ∨ k = 3 := by omega
/-- Those that are looked at. -/
abbrev rlist (k : Int) : List Pl := listK k
theorem list_good (k : Int) : Good (listK k) := by
  unfold listK
  repeat' split
  all_goals exact ⟨by decide, by decide, by decide⟩
end Go.Proofs.Ytlgnbnojjfgfmaa.PP.O
