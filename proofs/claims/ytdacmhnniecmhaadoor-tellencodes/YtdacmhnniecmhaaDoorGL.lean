/-
  What the row's condition on the listed variables gives: the table of the powers of ten is laid. A start that meets it. How a list of fields that comes in reads.
-/
import Derived.ChangeOld
import Derived.ShutString
import Derived.ChangeMaps5
import Derived.Deep.Strs
import Derived.Lib.SmallJoins
import Derived.LaidMore
import Derived.Stop.Joined
import Derived.Stop.LaidErr
import Derived.Test.YtdacmhnniecmhaaDoorGB
import Derived.Test.YtdacmhnniecmhaaDoorHB
import Derived.Test.YtdacmhnniecmhaaDoorHC
import Derived.Test.YtdacmhnniecmhaaDoorHA
namespace Go.Proofs.YtdacmhnniecmhaaDoor
open Go.ChangeShapes Go.WideShapes Go.ChangeAt Go.WideMaps Go.WideElems Go.RowKit Go.Lib

theorem own8 : ownKnob Tryd.prog.godebug = none := by kernel_rfl
theorem laidOut8 : laidOutB Tryd.prog = true := by kernel_rfl
/-- What the rows list. -/
def laid8 : List (String × DataW Unit) := Rows.tellEncodesRow.laid
theorem pow_data : (Rows.laid_internal_strconv_uint64pow10 : DataW Unit) = tabData .u64 pow10Tab := by kernel_rfl
theorem pow_global : Tryd.prog.globalNamed powName = some 1 := by kernel_rfl
theorem pow_type : (Tryd.prog.globals[(1 : Nat)]?).map (·.type) = some 140 := by kernel_rfl
theorem pow_cells : Tryd.prog.cellsOf 140 = 20 := by kernel_rfl
theorem pow_cell : Tryd.prog.cellsOf 126 = 1 := by kernel_rfl
theorem pow_of_laid {W : World} (h : laidMetH Tryd.prog laid8 W) : Pow W := by
  rw [MakeChecks.laidMetH_plain _ _ _ (by kernel_rfl)] at h
  have h1 : laidMet Tryd.prog ((powName, tabData .u64 pow10Tab) :: laid8.drop 3) W := by
    rw [← pow_data]
    exact laidMet.tail (laidMet.tail h)
  exact tabIs_of_head pow_global pow_type Tryd.underlying140 Tryd.underlying126 pow_cell pow_cells h1
/-- The door's own heap meets the condition. -/
theorem door_met (os : Os) (args : Array Value) : laidMetH Tryd.prog laid8 ((World.doorLaid Tryd.prog 400 os).forCall (fun _ _ => 0) ⟨#[], args, []⟩).memory :=
  laidMetH_of_parts3 (fuel := 8) (laidMet_of_run' 8 (by kernel_rfl) (by kernel_rfl)) (by kernel_rfl) (by kernel_rfl)

theorem add2 {b off : Nat} {i j : Nat} : ((⟨b, off, none⟩ : Addr).add i).add j = ⟨b, off + i + j, none⟩ := by
  rw [Addr.add_lit, Addr.add_lit]
theorem two_list {cs : List Value} (h : cs.length = 2) : ∃ x y, cs = [x, y] := by
  match cs, h with
  | [x, y], _ => exact ⟨x, y, rfl⟩
theorem one_of {x : Value} {y : Value} (h : [x] = [y]) : x = y := by simpa using h
end Go.Proofs.YtdacmhnniecmhaaDoor
/-
  What the row's condition on the listed variables gives: the table of letters is laid.
-/
namespace Go.Proofs.YtdacmhnniecmhaaDoor
open Go.ChangeShapes Go.WideShapes Go.ChangeAt Go.WideMaps Go.WideElems Go.RowKit Go.Lib

/-- A table of texts, as data. -/
def textData {H : Type} (zs : List (List UInt8)) : DataW H := .agg (zs.map fun z => .lit (.string z))
/-- An array of texts that reads as the table holds the table's texts, cell for cell. -/
theorem cells_of_texts {H : Type} {enc : TypeId × Value → H} {P : Program} {w : World} {base : Nat} {sp : Nat → Bool} {held : Bool} {fuel : Nat} {t e : TypeId} {n : Nat} {cs : List Value} {zs : List (List UInt8)} {p : List MemPlace}
    (ht : P.underlying t = some (.array n e)) (he : P.underlying e = some .string) (hce : P.cellsOf e = 1) (hct : P.cellsOf t = n)
    (h : DataW.trod enc P w base sp held fuel t cs = some (textData zs, p)) : cs = zs.map fun z => Value.string (mk z) := by
  cases fuel with
  | zero => simp [DataW.trod] at h
  | succ fuel =>
    simp only [DataW.trod, ht, hce, hct, Nat.mul_one] at h
    split at h
    · rename_i hl
      obtain ⟨xs, hm, hx⟩ := Option.map_eq_some_iff.1 h
      have hxs : xs.map (·.1) = zs.map fun z => (DataW.lit (.string z) : DataW H) := by
        have := congrArg Prod.fst hx
        simpa [textData] using this
      have hxl : xs.length = n := by simpa using mapM_length hm
      have hzl : zs.length = n := by
        have := congrArg List.length hxs
        simp at this
        omega
      apply List.ext_getElem?
      intro i
      by_cases hi : i < n
      · obtain ⟨b, hb, hf⟩ := mapM_at hm i i (by simp [hi])
        obtain ⟨s, hc, rfl, _⟩ := DataW.trod_string he hf
        have h1 : cs[i]? = some (.string s) := by
          have := congrArg (·[0]?) hc
          simpa [List.getElem?_take, List.getElem?_drop] using this
        have h2 : (xs.map (·.1))[i]? = some (DataW.lit (.string s.data.toList) : DataW H) := by simp [hb]
        rw [hxs] at h2
        simp only [List.getElem?_map, Option.map_eq_some_iff, DataW.lit.injEq, Lit.string.injEq] at h2
        obtain ⟨z', hz', hs⟩ := h2
        rw [h1, List.getElem?_map, hz', hs]
        rfl
      · rw [List.getElem?_eq_none (by omega), List.getElem?_eq_none (by simp; omega)]
    · cases h
def letName : String := Rows.tellEncodesRow.named.getD 0 ""
abbrev letTab : List (List UInt8) := [[], [56], [57], [51], [106]]
theorem let_data : (Rows.laid_spigot_tell_letters : DataW Unit) = textData letTab := by kernel_rfl
theorem let_global : Tryd.prog.globalNamed letName = some 0 := by kernel_rfl
theorem let_type : (Tryd.prog.globals[(0 : Nat)]?).map (·.type) = some 40 := by kernel_rfl
theorem let_cells : Tryd.prog.cellsOf 40 = 5 := by kernel_rfl
theorem let_cell : Tryd.prog.cellsOf 9 = 1 := by kernel_rfl
theorem let_of_laid {W : World} (h : laidMetH Tryd.prog laid8 W) : Let W := by
  rw [MakeChecks.laidMetH_plain _ _ _ (by kernel_rfl)] at h
  have h1 : laidMet Tryd.prog ((letName, textData letTab) :: []) W := by
    rw [← let_data]
    exact laidMet.tail (laidMet.tail (laidMet.tail h))
  obtain ⟨ps, ⟨g', t', cs, fuel, p, q, hg', ht', hvar, hd, _, _⟩, _⟩ := h1
  obtain rfl := Option.some.inj (let_global.symm.trans hg')
  obtain rfl := Option.some.inj (let_type.symm.trans ht')
  have hcs := cells_of_texts Tryd.underlying40 Tryd.underlying9 let_cell let_cells hd
  have C : ∀ i, W.cell? ⟨0, i, none⟩ = cs.toList[i]? := fun i => (World.var?_cell let_global hvar i).trans (by simp)
  rw [hcs] at C
  exact ⟨(C 0).trans rfl, (C 1).trans rfl, (C 2).trans rfl, (C 3).trans rfl, (C 4).trans rfl⟩
end Go.Proofs.YtdacmhnniecmhaaDoor
/-
  The chapter's example: the program is awake; the statements' small tests.
-/
namespace Go.Proofs.YtdacmhnniecmhaaDoor
open Go.ChangeShapes Go.WideShapes Go.ChangeAt Go.RowKit Go.Lib

theorem form_of13 {n : Nat} {v : ByteArray} {x : List UInt8} (h1 : 1 ≤ n) (h2 : n ≤ 99999) (hv : valB v.data.toList = true) (hx : decDigits n ++ 61 :: (v.data.toList ++ [1]) = x) : formE ((n : Int), v) = (x, 0) := by
  unfold formE
  dsimp only
  rw [if_neg (by omega), hv, if_neg (by decide), show ((n : Int)).toNat = n from rfl, hx]
theorem digits_three {n : Nat} (h1 : ¬ n < 100) (h2 : n < 1000) : decDigits n = [UInt8.ofNat (48 + n / 100), UInt8.ofNat (48 + n / 10 % 10), UInt8.ofNat (48 + n % 10)] := by
  rw [decDigits, dif_neg (by omega), decDigits_two (by omega) (by omega)]
  simp [Nat.div_div_eq_div_mul]
/-- The chapter's example. -/
def exT : TellP := (fun _ => noText, fun j => if j = 0 then 3 else if j = 8 then 38 else if j = 9 then 112 else 0)
theorem ex_num1 : numT 38 = ⟨#[51, 56]⟩ := by
  show mk (decDigits 38) = _
  rw [decDigits_two (by omega) (by omega)]
  rfl
theorem ex_num2 : numT 112 = ⟨#[49, 49, 50]⟩ := by
  show mk (decDigits 112) = _
  rw [digits_three (by omega) (by omega)]
  rfl
theorem ex_fields : fieldsT exT = [(35, ⟨#[51]⟩), (371, ⟨#[51, 56]⟩), (373, ⟨#[49, 49, 50]⟩)] := by
  show [(35, wordT 3), (371, numT 38), (373, numT 112)] = _
  rw [ex_num1, ex_num2]
  rfl
theorem ex_35 : formE (35, ⟨#[51]⟩) = ([51, 53, 61, 51, 1], 0) := form_of13 (n := 35) (by omega) (by omega) (by decide +kernel) (by rw [decDigits_two (by omega) (by omega)]; rfl)
theorem ex_371 : formE (371, ⟨#[51, 56]⟩) = ([51, 55, 49, 61, 51, 56, 1], 0) := form_of13 (n := 371) (by omega) (by omega) (by decide +kernel) (by rw [digits_three (by omega) (by omega)]; rfl)
theorem ex_373 : formE (373, ⟨#[49, 49, 50]⟩) = ([51, 55, 51, 61, 49, 49, 50, 1], 0) := form_of13 (n := 373) (by omega) (by omega) (by decide +kernel) (by rw [digits_three (by omega) (by omega)]; rfl)
abbrev exL : List UInt8 := [51, 53, 61, 51, 1, 51, 55, 49, 61, 51, 56, 1, 51, 55, 51, 61, 49, 49, 50, 1]
theorem ex_cat : cat (fieldsT exT) = exL := by
  rw [ex_fields]
  simp [cat, ex_35, ex_371, ex_373]
theorem ex_right : RightP exT := by
  refine ⟨by decide, ?_, fun _ => ⟨rfl, rfl, rfl, rfl, rfl⟩, fun _ => ⟨rfl, rfl⟩, fun h => ?_⟩
  · intro p hp
    rw [show exT.2 0 = 3 from rfl, listK_3] at hp
    simp only [List.mem_cons, List.not_mem_nil, or_false] at hp
    rcases hp with rfl | rfl <;> rfl
  · exact absurd h (by decide)
set_option maxRecDepth 1000000 in
set_option maxHeartbeats 4000000 in
theorem awake13_any (w : World) (hl : Let w) (hp : Pow w) :
    Calls Tryd.prog 6 #[] w fun e w' => e = .returned (.bool true) ∧ Below w.heap.size w w' := by
  have E := encode_yes exT w ex_right hl hp
  rw [ex_cat] at E
  obtain ⟨dt, da⟩ := dec_right ex_right
  rw [ex_cat] at dt da
  have D := fun w h => decode_any (mk exL) w (by rw [mk_size]; decide) h
  have HDT : Hid (decT exL = (0, 0)) := dt
  have HDA : Hid (Same (decA exL) exT) := da
  have E' : Calls Tryd.prog 8 #[.agg #[.int .i64 3, .string ⟨#[]⟩, .string ⟨#[]⟩, .int .i64 0, .int .i64 0, .int .i64 0, .int .i64 0, .int .i64 0, .int .i64 38, .int .i64 112]] w fun e w' => e = .returned (.tuple #[.string ⟨#[51, 53, 61, 51, 1, 51, 55, 49, 61, 51, 56, 1, 51, 55, 51, 61, 49, 49, 50, 1]⟩, .int .i64 0]) ∧ Below w.heap.size w w' := E
  have D' : ∀ w, Let w → Calls Tryd.prog 13 #[.string ⟨#[51, 53, 61, 51, 1, 51, 55, 49, 61, 51, 56, 1, 51, 55, 51, 61, 49, 49, 50, 1]⟩] w (DecOk exL w) := D
  have HL : Hid (Let w) := hl
  clear E D dt da hl hp
  go_enter Tryd.func6, Tryd.ntmps6
  go_wp2_with fail
  refine E'.mono ?_
  rintro e w1 ⟨rfl, b1⟩
  have D1 := D' w1 (HL.out.still b1)
  clear E' D'
  go_wp2_with fail
  refine D1.mono ?_
  rintro e w2 ⟨u, he, hS, b2⟩
  rw [HDT.out] at he
  unfold tellV at he
  have g8 : u.2 8 = 38 := (hS.trans HDA.out).g
  rw [g8] at he
  dsimp only at he
  subst he
  have HB2 : Hid (Below w.heap.size w w2) := b1.trans (b2.mono b1.size)
  clear b1 b2 D1 HDT HDA HL hS g8
  go_wp2_with fail
  go_ret
  exact ⟨rfl, HB2.out.alloc HB2.out.size _⟩
/-- The statements' test on sizes. -/
def fewB (t : TellP) : Bool := decide ((t.1 1).size ≤ 200 ∧ (t.1 2).size ≤ 200)
set_option maxHeartbeats 1000000 in
theorem few_any (t : TellP) (w : World) :
    Calls Tryd.prog 7 #[.agg #[.int .i64 (t.2 0), .string (t.1 1), .string (t.1 2), .int .i64 (t.2 3), .int .i64 (t.2 4), .int .i64 (t.2 5), .int .i64 (t.2 6), .int .i64 (t.2 7), .int .i64 (t.2 8), .int .i64 (t.2 9)]] w fun e w' => e = .returned (.bool (fewB t)) ∧ Below w.heap.size w w' := by
  have HB : Hid (Below w.heap.size w (boxT w t)) := boxT_below w t
  unfold fewB
  by_cases h1 : (t.1 1).size ≤ 200
  · have g1 : ((t.1 1).size : Int) ≤ 200 := by omega
    by_cases h2 : (t.1 2).size ≤ 200
    · have g2 : ((t.1 2).size : Int) ≤ 200 := by omega
      rw [decide_eq_true ⟨h1, h2⟩]
      clear h1 h2
      go_enter Tryd.func7, Tryd.ntmps7
      go_wp2_with fail
      go_ret
      exact ⟨rfl, HB.out⟩
    · have g2 : ¬ ((t.1 2).size : Int) ≤ 200 := by omega
      rw [decide_eq_false (fun e => h2 e.2)]
      clear h1 h2
      go_enter Tryd.func7, Tryd.ntmps7
      go_wp2_with fail
      go_ret
      exact ⟨rfl, HB.out⟩
  · have g1 : ¬ ((t.1 1).size : Int) ≤ 200 := by omega
    rw [decide_eq_false (fun e => h1 e.1)]
    clear h1
    go_enter Tryd.func7, Tryd.ntmps7
    go_wp2_with fail
    go_ret
    exact ⟨rfl, HB.out⟩
end Go.Proofs.YtdacmhnniecmhaaDoor
/-
  Plain: a tell as the reference has it; the reference's tell in a block.
-/
namespace Go.Proofs.YtdacmhnniecmhaaDoor
open Go.ChangeShapes Go.WideShapes Go.ChangeAt Go.RowKit Go.Lib

/-- A new block that holds the reference's tell. -/
abbrev boxR (w : World) (t : TellP) : World := w.alloc (.cells #[.int .i64 (t.2 0), .string (t.1 1), .string (t.1 2), .int .i64 (t.2 3), .int .i64 (t.2 4), .int .i64 (t.2 5), .int .i64 (t.2 6), .int .i64 (t.2 7), .int .i64 (t.2 8), .int .i64 (t.2 9)] 31)
theorem boxR_below (w : World) (t : TellP) : Below w.heap.size w (boxR w t) := (Below.refl _ w).alloc (Nat.le_refl _) _
theorem TellAt.boxR (w : World) (t : TellP) : TellAt (boxR w t) w.heap.size t := by
  refine ⟨fun j hj => ?_, fun j => by simp⟩
  rcases (show j = 0 ∨ j = 1 ∨ j = 2 ∨ j = 3 ∨ j = 4 ∨ j = 5 ∨ j = 6 ∨ j = 7 ∨ j = 8 ∨ j = 9 by omega) with rfl | rfl | rfl | rfl | rfl | rfl | rfl | rfl | rfl | rfl <;> simp [cellT]
theorem same_runR (t : TellP) (w : World) : (Op.equalIn 10000 31 (.agg #[.int .i64 (t.2 0), .string (t.1 1), .string (t.1 2), .int .i64 (t.2 3), .int .i64 (t.2 4), .int .i64 (t.2 5), .int .i64 (t.2 6), .int .i64 (t.2 7), .int .i64 (t.2 8), .int .i64 (t.2 9)]) (.agg #[.int .i64 (t.2 0), .string (t.1 1), .string (t.1 2), .int .i64 (t.2 3), .int .i64 (t.2 4), .int .i64 (t.2 5), .int .i64 (t.2 6), .int .i64 (t.2 7), .int .i64 (t.2 8), .int .i64 (t.2 9)])).run Tryd.prog w = .ok true w := by
  rw [refTell_eq]
  simp
set_option maxHeartbeats 2000000 in
theorem plain_any (t : TellP) (w : World) :
    Calls Tryd.prog 10 #[.agg #[.int .i64 (t.2 0), .string (t.1 1), .string (t.1 2), .int .i64 (t.2 3), .int .i64 (t.2 4), .int .i64 (t.2 5), .int .i64 (t.2 6), .int .i64 (t.2 7), .int .i64 (t.2 8), .int .i64 (t.2 9)]] w fun e w' => e = .returned (.agg #[.int .i64 (t.2 0), .string (t.1 1), .string (t.1 2), .int .i64 (t.2 3), .int .i64 (t.2 4), .int .i64 (t.2 5), .int .i64 (t.2 6), .int .i64 (t.2 7), .int .i64 (t.2 8), .int .i64 (t.2 9)]) ∧ Below w.heap.size w w' := by
  have B := boxT_below w t
  go_enter Tryd.func10, Tryd.ntmps10
  go_wp2_with fail
  refine bodyPost_ret (v := .agg #[.int .i64 (t.2 0), .string (t.1 1), .string (t.1 2), .int .i64 (t.2 3), .int .i64 (t.2 4), .int .i64 (t.2 5), .int .i64 (t.2 6), .int .i64 (t.2 7), .int .i64 (t.2 8), .int .i64 (t.2 9)]) (by simp [results, Tryd.results10, go_sem]) rfl ⟨rfl, ?_⟩
  exact B.alloc (by simp) _
end Go.Proofs.YtdacmhnniecmhaaDoor
