/-
  What the row's condition on the listed variables gives: the table of letters is laid.
-/
import Derived.Test.YtdacmhnniecmhaaDoorTagDoor
import Derived.Test.YtdacmhnniecmhaaDoorTellKind
namespace Go.Proofs.YtdacmhnniecmhaaDoor
open Go.ChangeShapes Go.WideShapes Go.ChangeAt Go.WideMaps Go.WideElems Go.RowKit Go.Lib

/-- A table of texts, as data. -/
def textData {H : Type} (zs : List (List UInt8)) : DataW H := .agg (zs.map fun z => .lit (.string z))
/-- An array of texts that reads as the table holds the table's texts, cell for cell. -/
theorem cells_of_texts {H : Type} {enc : TypeId × Value → H} {P : Program} {w : World} {base : Nat} {sp : Nat → Bool} {held : Bool} {fuel : Nat} {t e : TypeId} {n : Nat} {cs : List Value} {zs : List (List UInt8)} {p : List MemPlace}
    (ht : P.underlying t = some (.array n e)) (he : P.underlying e = some .string) (hce : P.cellsOf e = 1) (hct : P.cellsOf t = n)
    (h : DataW.trod enc P w base sp held fuel t cs = some (textData zs, p)) : cs = zs.map fun z => Value.string (mk z) := by
  cases fuel with
  | zero => simp [DataW.trod] at h
  | succ fuel =>
    simp only [DataW.trod, ht, hce, hct, Nat.mul_one] at h
    split at h
    · rename_i hl
      obtain ⟨xs, hm, hx⟩ := Option.map_eq_some_iff.1 h
      have hxs : xs.map (·.1) = zs.map fun z => (DataW.lit (.string z) : DataW H) := by
        have := congrArg Prod.fst hx
        simpa [textData] using this
      have hxl : xs.length = n := by simpa using mapM_length hm
      have hzl : zs.length = n := by
        have := congrArg List.length hxs
        simp at this
        omega
      apply List.ext_getElem?
      intro i
      by_cases hi : i < n
      · obtain ⟨b, hb, hf⟩ := mapM_at hm i i (by simp [hi])
        obtain ⟨s, hc, rfl, _⟩ := DataW.trod_string he hf
        have h1 : cs[i]? = some (.string s) := by
          have := congrArg (·[0]?) hc
          simpa [List.getElem?_take, List.getElem?_drop] using this
        have h2 : (xs.map (·.1))[i]? = some (DataW.lit (.string s.data.toList) : DataW H) := by simp [hb]
        rw [hxs] at h2
        simp only [List.getElem?_map, Option.map_eq_some_iff, DataW.lit.injEq, Lit.string.injEq] at h2
        obtain ⟨z', hz', hs⟩ := h2
        rw [h1, List.getElem?_map, hz', hs]
        rfl
      · rw [List.getElem?_eq_none (by omega), List.getElem?_eq_none (by simp; omega)]
    · cases h
def letName : String := Rows.tellEncodesRow.named.getD 0 ""
abbrev letTab : List (List UInt8) := [[], [56], [57], [51], [106]]
theorem let_data : (Rows.laid_spigot_tell_letters : DataW Unit) = textData letTab := by kernel_rfl
theorem let_global : Tryd.prog.globalNamed letName = some 0 := by kernel_rfl
theorem let_type : (Tryd.prog.globals[(0 : Nat)]?).map (·.type) = some 40 := by kernel_rfl
theorem let_cells : Tryd.prog.cellsOf 40 = 5 := by kernel_rfl
theorem let_cell : Tryd.prog.cellsOf 9 = 1 := by kernel_rfl
theorem let_of_laid {W : World} (h : laidMetH Tryd.prog laid8 W) : Let W := by
  rw [MakeChecks.laidMetH_plain _ _ _ (by kernel_rfl)] at h
  have h1 : laidMet Tryd.prog ((letName, textData letTab) :: []) W := by
    rw [← let_data]
    exact laidMet.tail (laidMet.tail (laidMet.tail h))
  obtain ⟨ps, ⟨g', t', cs, fuel, p, q, hg', ht', hvar, hd, _, _⟩, _⟩ := h1
  obtain rfl := Option.some.inj (let_global.symm.trans hg')
  obtain rfl := Option.some.inj (let_type.symm.trans ht')
  have hcs := cells_of_texts Tryd.underlying40 Tryd.underlying9 let_cell let_cells hd
  have C : ∀ i, W.cell? ⟨0, i, none⟩ = cs.toList[i]? := fun i => (World.var?_cell let_global hvar i).trans (by simp)
  rw [hcs] at C
  exact ⟨(C 0).trans rfl, (C 1).trans rfl, (C 2).trans rfl, (C 3).trans rfl, (C 4).trans rfl⟩
end Go.Proofs.YtdacmhnniecmhaaDoor
