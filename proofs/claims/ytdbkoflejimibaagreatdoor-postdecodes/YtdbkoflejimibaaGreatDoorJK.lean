/-
  What the row's condition on the listed variables gives: the table of the powers of ten is laid. A start that meets it. How a list of fields that comes in reads.
-/
import Derived.ChangeOld
import Derived.ShutString
import Derived.ChangeMaps5
import Derived.Deep.Strs
import Derived.Lib.SmallJoins
import Derived.LaidMore
import Derived.Stop.Joined
import Derived.Stop.LaidErr
import Derived.Test.YtdbkoflejimibaaGreatDoorGB
import Derived.Test.YtdbkoflejimibaaGreatDoorJB
import Derived.Test.YtdbkoflejimibaaGreatDoorJC
namespace Go.Proofs.YtdbkoflejimibaaGreatDoor
open Go.ChangeShapes Go.WideShapes Go.ChangeAt Go.WideMaps Go.WideElems Go.RowKit Go.Lib

theorem own8 : ownKnob Tryz.prog.godebug = none := by kernel_rfl
theorem laidOut8 : laidOutB Tryz.prog = true := by kernel_rfl
/-- What the rows list. -/
def laid8 : List (String × DataW Unit) := Rows.postDecodesRow.laid
theorem pow_data : (Rows.laid_internal_strconv_uint64pow10 : DataW Unit) = tabData .u64 pow10Tab := by kernel_rfl
theorem pow_global : Tryz.prog.globalNamed powName = some 2 := by kernel_rfl
theorem pow_type : (Tryz.prog.globals[(2 : Nat)]?).map (·.type) = some 153 := by kernel_rfl
theorem pow_cells : Tryz.prog.cellsOf 153 = 20 := by kernel_rfl
theorem pow_cell : Tryz.prog.cellsOf 135 = 1 := by kernel_rfl
theorem pow_of_laid {W : World} (h : laidMetH Tryz.prog laid8 W) : Pow W := by
  rw [MakeChecks.laidMetH_plain _ _ _ (by kernel_rfl)] at h
  have h1 : laidMet Tryz.prog ((powName, tabData .u64 pow10Tab) :: laid8.drop 3) W := by
    rw [← pow_data]
    exact laidMet.tail (laidMet.tail h)
  exact tabIs_of_head pow_global pow_type Tryz.underlying153 Tryz.underlying135 pow_cell pow_cells h1
/-- The door's own heap meets the condition. -/
theorem door_met (os : Os) (args : Array Value) : laidMetH Tryz.prog laid8 ((World.doorLaid Tryz.prog 400 os).forCall (fun _ _ => 0) ⟨#[], args, []⟩).memory :=
  laidMetH_of_parts3 (fuel := 8) (laidMet_of_run' 8 (by kernel_rfl) (by kernel_rfl)) (by kernel_rfl) (by kernel_rfl)

theorem add2 {b off : Nat} {i j : Nat} : ((⟨b, off, none⟩ : Addr).add i).add j = ⟨b, off + i + j, none⟩ := by
  rw [Addr.add_lit, Addr.add_lit]
theorem two_list {cs : List Value} (h : cs.length = 2) : ∃ x y, cs = [x, y] := by
  match cs, h with
  | [x, y], _ => exact ⟨x, y, rfl⟩
theorem one_of {x : Value} {y : Value} (h : [x] = [y]) : x = y := by simpa using h
end Go.Proofs.YtdbkoflejimibaaGreatDoor
/-
  What the row's condition on the listed variables gives: the tables of the orders' and the reports' words are laid.
-/
namespace Go.Proofs.YtdbkoflejimibaaGreatDoor
open Go.ChangeShapes Go.WideShapes Go.ChangeAt Go.WideMaps Go.WideElems Go.RowKit Go.Lib

/-- A table of texts, as data. -/
def textData {H : Type} (zs : List (List UInt8)) : DataW H := .agg (zs.map fun z => .lit (.string z))
/-- An array of texts that reads as the table holds the table's texts, cell for cell. -/
theorem cells_of_texts {H : Type} {enc : TypeId × Value → H} {P : Program} {w : World} {base : Nat} {sp : Nat → Bool} {held : Bool} {fuel : Nat} {t e : TypeId} {n : Nat} {cs : List Value} {zs : List (List UInt8)} {p : List MemPlace}
    (ht : P.underlying t = some (.array n e)) (he : P.underlying e = some .string) (hce : P.cellsOf e = 1) (hct : P.cellsOf t = n)
    (h : DataW.trod enc P w base sp held fuel t cs = some (textData zs, p)) : cs = zs.map fun z => Value.string (mk z) := by
  cases fuel with
  | zero => simp [DataW.trod] at h
  | succ fuel =>
    simp only [DataW.trod, ht, hce, hct, Nat.mul_one] at h
    split at h
    · rename_i hl
      obtain ⟨xs, hm, hx⟩ := Option.map_eq_some_iff.1 h
      have hxs : xs.map (·.1) = zs.map fun z => (DataW.lit (.string z) : DataW H) := by
        have := congrArg Prod.fst hx
        simpa [textData] using this
      have hxl : xs.length = n := by simpa using mapM_length hm
      have hzl : zs.length = n := by
        have := congrArg List.length hxs
        simp at this
        omega
      apply List.ext_getElem?
      intro i
      by_cases hi : i < n
      · obtain ⟨b, hb, hf⟩ := mapM_at hm i i (by simp [hi])
        obtain ⟨s, hc, rfl, _⟩ := DataW.trod_string he hf
        have h1 : cs[i]? = some (.string s) := by
          have := congrArg (·[0]?) hc
          simpa [List.getElem?_take, List.getElem?_drop] using this
        have h2 : (xs.map (·.1))[i]? = some (DataW.lit (.string s.data.toList) : DataW H) := by simp [hb]
        rw [hxs] at h2
        simp only [List.getElem?_map, Option.map_eq_some_iff, DataW.lit.injEq, Lit.string.injEq] at h2
        obtain ⟨z', hz', hs⟩ := h2
        rw [h1, List.getElem?_map, hz', hs]
        rfl
      · rw [List.getElem?_eq_none (by omega), List.getElem?_eq_none (by simp; omega)]
    · cases h
def letOName : String := Rows.postDecodesRow.named.getD 0 ""
abbrev letOTab : List (List UInt8) := [[], [68], [70], [71]]
theorem letO_data : (Rows.laid_spigot_post_orderWords : DataW Unit) = textData letOTab := by kernel_rfl
theorem letO_global : Tryz.prog.globalNamed letOName = some 0 := by kernel_rfl
theorem letO_type : (Tryz.prog.globals[(0 : Nat)]?).map (·.type) = some 67 := by kernel_rfl
theorem letO_cells : Tryz.prog.cellsOf 67 = 4 := by kernel_rfl
theorem letO_cell : Tryz.prog.cellsOf 9 = 1 := by kernel_rfl
theorem letO_of_laid {W : World} (h : laidMetH Tryz.prog laid8 W) : PP.O.Let W := by
  rw [MakeChecks.laidMetH_plain _ _ _ (by kernel_rfl)] at h
  have h1 : laidMet Tryz.prog ((letOName, textData letOTab) :: laid8.drop 4) W := by
    rw [← letO_data]
    exact laidMet.tail (laidMet.tail (laidMet.tail h))
  obtain ⟨ps, ⟨g', t', cs, fuel, p, q, hg', ht', hvar, hd, _, _⟩, _⟩ := h1
  obtain rfl := Option.some.inj (letO_global.symm.trans hg')
  obtain rfl := Option.some.inj (letO_type.symm.trans ht')
  have hcs := cells_of_texts Tryz.underlying67 Tryz.underlying9 letO_cell letO_cells hd
  have C : ∀ i, W.cell? ⟨0, i, none⟩ = cs.toList[i]? := fun i => (World.var?_cell letO_global hvar i).trans (by simp)
  rw [hcs] at C
  exact ⟨(C 0).trans rfl, (C 1).trans rfl, (C 2).trans rfl, (C 3).trans rfl⟩
def letRName : String := Rows.postDecodesRow.named.getD 4 ""
abbrev letRTab : List (List UInt8) := [[], [48], [52], [53], [56], [70], [72]]
theorem letR_data : (Rows.laid_spigot_post_reportWords : DataW Unit) = textData letRTab := by kernel_rfl
theorem letR_global : Tryz.prog.globalNamed letRName = some 1 := by kernel_rfl
theorem letR_type : (Tryz.prog.globals[(1 : Nat)]?).map (·.type) = some 92 := by kernel_rfl
theorem letR_cells : Tryz.prog.cellsOf 92 = 7 := by kernel_rfl
theorem letR_cell : Tryz.prog.cellsOf 9 = 1 := by kernel_rfl
theorem letR_of_laid {W : World} (h : laidMetH Tryz.prog laid8 W) : PP.R.Let W := by
  rw [MakeChecks.laidMetH_plain _ _ _ (by kernel_rfl)] at h
  have h1 : laidMet Tryz.prog ((letRName, textData letRTab) :: laid8.drop 5) W := by
    rw [← letR_data]
    exact laidMet.tail (laidMet.tail (laidMet.tail (laidMet.tail h)))
  obtain ⟨ps, ⟨g', t', cs, fuel, p, q, hg', ht', hvar, hd, _, _⟩, _⟩ := h1
  obtain rfl := Option.some.inj (letR_global.symm.trans hg')
  obtain rfl := Option.some.inj (letR_type.symm.trans ht')
  have hcs := cells_of_texts Tryz.underlying92 Tryz.underlying9 letR_cell letR_cells hd
  have C : ∀ i, W.cell? ⟨1, i, none⟩ = cs.toList[i]? := fun i => (World.var?_cell letR_global hvar i).trans (by simp)
  rw [hcs] at C
  exact ⟨(C 0).trans rfl, (C 1).trans rfl, (C 2).trans rfl, (C 3).trans rfl, (C 4).trans rfl, (C 5).trans rfl, (C 6).trans rfl⟩
end Go.Proofs.YtdbkoflejimibaaGreatDoor
