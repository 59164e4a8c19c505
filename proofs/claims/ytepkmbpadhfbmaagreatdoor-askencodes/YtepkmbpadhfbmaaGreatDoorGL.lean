/-
  What the row's condition on the listed variables gives: the table of the powers of ten is laid. A start that meets it. How a list of fields that comes in reads.
-/
import Derived.ChangeOld
import Derived.ShutString
import Derived.ChangeMaps5
import Derived.Deep.Strs
import Derived.Lib.SmallJoins
import Derived.LaidMore
import Derived.Stop.Joined
import Derived.Stop.LaidErr
import Derived.Test.YtepkmbpadhfbmaaGreatDoorGB
import Derived.Test.YtepkmbpadhfbmaaGreatDoorGH
import Derived.Test.YtepkmbpadhfbmaaGreatDoorGF
import Derived.Test.YtepkmbpadhfbmaaGreatDoorGA
import Derived.Test.YtepkmbpadhfbmaaGreatDoorGJ
import Derived.Test.YtepkmbpadhfbmaaGreatDoorGK
import Derived.Test.YtepkmbpadhfbmaaGreatDoorGI
namespace Go.Proofs.YtepkmbpadhfbmaaGreatDoor
open Go.ChangeShapes Go.WideShapes Go.ChangeAt Go.WideMaps Go.WideElems Go.RowKit Go.Lib

theorem own8 : ownKnob Tryz.prog.godebug = none := by kernel_rfl
theorem laidOut8 : laidOutB Tryz.prog = true := by kernel_rfl
/-- What the rows list. -/
def laid8 : List (String × DataW Unit) := Rows.askEncodesRow.laid
theorem pow_data : (Rows.laid_internal_strconv_uint64pow10 : DataW Unit) = tabData .u64 pow10Tab := by kernel_rfl
theorem pow_global : Tryz.prog.globalNamed powName = some 1 := by kernel_rfl
theorem pow_type : (Tryz.prog.globals[(1 : Nat)]?).map (·.type) = some 161 := by kernel_rfl
theorem pow_cells : Tryz.prog.cellsOf 161 = 20 := by kernel_rfl
theorem pow_cell : Tryz.prog.cellsOf 147 = 1 := by kernel_rfl
theorem pow_of_laid {W : World} (h : laidMetH Tryz.prog laid8 W) : Pow W := by
  rw [MakeChecks.laidMetH_plain _ _ _ (by kernel_rfl)] at h
  have h1 : laidMet Tryz.prog ((powName, tabData .u64 pow10Tab) :: laid8.drop 3) W := by
    rw [← pow_data]
    exact laidMet.tail (laidMet.tail h)
  exact tabIs_of_head pow_global pow_type Tryz.underlying161 Tryz.underlying147 pow_cell pow_cells h1
/-- The door's own heap meets the condition. -/
theorem door_met (os : Os) (args : Array Value) : laidMetH Tryz.prog laid8 ((World.doorLaid Tryz.prog 400 os).forCall (fun _ _ => 0) ⟨#[], args, []⟩).memory :=
  laidMetH_of_parts3 (fuel := 8) (laidMet_of_run' 8 (by kernel_rfl) (by kernel_rfl)) (by kernel_rfl) (by kernel_rfl)

theorem add2 {b off : Nat} {i j : Nat} : ((⟨b, off, none⟩ : Addr).add i).add j = ⟨b, off + i + j, none⟩ := by
  rw [Addr.add_lit, Addr.add_lit]
theorem two_list {cs : List Value} (h : cs.length = 2) : ∃ x y, cs = [x, y] := by
  match cs, h with
  | [x, y], _ => exact ⟨x, y, rfl⟩
theorem one_of {x : Value} {y : Value} (h : [x] = [y]) : x = y := by simpa using h
end Go.Proofs.YtepkmbpadhfbmaaGreatDoor
/-
  What the row's condition on the listed variables gives: the table of letters is laid.
-/
namespace Go.Proofs.YtepkmbpadhfbmaaGreatDoor
open Go.ChangeShapes Go.WideShapes Go.ChangeAt Go.WideMaps Go.WideElems Go.RowKit Go.Lib

/-- A table of texts, as data. -/
def textData {H : Type} (zs : List (List UInt8)) : DataW H := .agg (zs.map fun z => .lit (.string z))
/-- An array of texts that reads as the table holds the table's texts, cell for cell. -/
theorem cells_of_texts {H : Type} {enc : TypeId × Value → H} {P : Program} {w : World} {base : Nat} {sp : Nat → Bool} {held : Bool} {fuel : Nat} {t e : TypeId} {n : Nat} {cs : List Value} {zs : List (List UInt8)} {p : List MemPlace}
    (ht : P.underlying t = some (.array n e)) (he : P.underlying e = some .string) (hce : P.cellsOf e = 1) (hct : P.cellsOf t = n)
    (h : DataW.trod enc P w base sp held fuel t cs = some (textData zs, p)) : cs = zs.map fun z => Value.string (mk z) := by
  cases fuel with
  | zero => simp [DataW.trod] at h
  | succ fuel =>
    simp only [DataW.trod, ht, hce, hct, Nat.mul_one] at h
    split at h
    · rename_i hl
      obtain ⟨xs, hm, hx⟩ := Option.map_eq_some_iff.1 h
      have hxs : xs.map (·.1) = zs.map fun z => (DataW.lit (.string z) : DataW H) := by
        have := congrArg Prod.fst hx
        simpa [textData] using this
      have hxl : xs.length = n := by simpa using mapM_length hm
      have hzl : zs.length = n := by
        have := congrArg List.length hxs
        simp at this
        omega
      apply List.ext_getElem?
      intro i
      by_cases hi : i < n
      · obtain ⟨b, hb, hf⟩ := mapM_at hm i i (by simp [hi])
        obtain ⟨s, hc, rfl, _⟩ := DataW.trod_string he hf
        have h1 : cs[i]? = some (.string s) := by
          have := congrArg (·[0]?) hc
          simpa [List.getElem?_take, List.getElem?_drop] using this
        have h2 : (xs.map (·.1))[i]? = some (DataW.lit (.string s.data.toList) : DataW H) := by simp [hb]
        rw [hxs] at h2
        simp only [List.getElem?_map, Option.map_eq_some_iff, DataW.lit.injEq, Lit.string.injEq] at h2
        obtain ⟨z', hz', hs⟩ := h2
        rw [h1, List.getElem?_map, hz', hs]
        rfl
      · rw [List.getElem?_eq_none (by omega), List.getElem?_eq_none (by simp; omega)]
    · cases h
def letName : String := Rows.askEncodesRow.named.getD 0 ""
abbrev letTab : List (List UInt8) := [[], [68], [70], [71], [85, 80], [85, 82]]
theorem let_data : (Rows.laid_spigot_ask_letters : DataW Unit) = textData letTab := by kernel_rfl
theorem let_global : Tryz.prog.globalNamed letName = some 0 := by kernel_rfl
theorem let_type : (Tryz.prog.globals[(0 : Nat)]?).map (·.type) = some 82 := by kernel_rfl
theorem let_cells : Tryz.prog.cellsOf 82 = 6 := by kernel_rfl
theorem let_cell : Tryz.prog.cellsOf 9 = 1 := by kernel_rfl
theorem let_of_laid {W : World} (h : laidMetH Tryz.prog laid8 W) : Let W := by
  rw [MakeChecks.laidMetH_plain _ _ _ (by kernel_rfl)] at h
  have h1 : laidMet Tryz.prog ((letName, textData letTab) :: []) W := by
    rw [← let_data]
    exact laidMet.tail (laidMet.tail (laidMet.tail h))
  obtain ⟨ps, ⟨g', t', cs, fuel, p, q, hg', ht', hvar, hd, _, _⟩, _⟩ := h1
  obtain rfl := Option.some.inj (let_global.symm.trans hg')
  obtain rfl := Option.some.inj (let_type.symm.trans ht')
  have hcs := cells_of_texts Tryz.underlying82 Tryz.underlying9 let_cell let_cells hd
  have C : ∀ i, W.cell? ⟨0, i, none⟩ = cs.toList[i]? := fun i => (World.var?_cell let_global hvar i).trans (by simp)
  rw [hcs] at C
  exact ⟨(C 0).trans rfl, (C 1).trans rfl, (C 2).trans rfl, (C 3).trans rfl, (C 4).trans rfl, (C 5).trans rfl⟩
end Go.Proofs.YtepkmbpadhfbmaaGreatDoor
/-
  Contracts of the law's few and Plain, and of the reference's Same of two asks that are the same.
-/
namespace Go.Proofs.YtepkmbpadhfbmaaGreatDoor
open Go.ChangeShapes Go.WideShapes Go.ChangeAt Go.RowKit Go.Lib

/-- An ask that a play goes through with. -/
def fewB (i t c s : ByteArray) (n : Nat) : Bool := decide ((i.size : Int) ≤ 200) && (decide ((t.size : Int) ≤ 200) && (decide ((c.size : Int) ≤ 200) && (decide ((s.size : Int) ≤ 200) && decide ((n : Int) ≤ 100))))
set_option maxHeartbeats 4000000 in
theorem few_any (k : Int) (i t c s : ByteArray) (sd q p al st en ra sh : Int) (a : Option Addr) (n cap : Nat) (w : World) :
    Calls Tryz.prog 6 #[.agg #[.int .i64 k, .string i, .string t, .string c, .string s, .int .i64 sd, .int .i64 q, .int .i64 p, .int .i64 al, .int .i64 st, .int .i64 en, .int .i64 ra, .int .i64 sh, .slice a n cap]] w fun e w' => e = .returned (.bool (fewB i t c s n)) ∧ Below w.heap.size w w' := by
  have B := boxA_below w k i t c s sd q p al st en ra sh (.slice a n cap)
  cases h0 : decide ((i.size : Int) ≤ 200)
  case false =>
    rw [show fewB i t c s n = false by unfold fewB; rw [h0]; rfl]
    go_enter Tryz.func6, Tryz.ntmps6
    go_wp2_with fail
    go_ret
    exact ⟨rfl, B⟩
  cases h1 : decide ((t.size : Int) ≤ 200)
  case false =>
    rw [show fewB i t c s n = false by unfold fewB; rw [h0, h1]; rfl]
    go_enter Tryz.func6, Tryz.ntmps6
    go_wp2_with fail
    go_ret
    exact ⟨rfl, B⟩
  cases h2 : decide ((c.size : Int) ≤ 200)
  case false =>
    rw [show fewB i t c s n = false by unfold fewB; rw [h0, h1, h2]; rfl]
    go_enter Tryz.func6, Tryz.ntmps6
    go_wp2_with fail
    go_ret
    exact ⟨rfl, B⟩
  cases h3 : decide ((s.size : Int) ≤ 200)
  case false =>
    rw [show fewB i t c s n = false by unfold fewB; rw [h0, h1, h2, h3]; rfl]
    go_enter Tryz.func6, Tryz.ntmps6
    go_wp2_with fail
    go_ret
    exact ⟨rfl, B⟩
  cases h4 : decide ((n : Int) ≤ 100)
  case false =>
    rw [show fewB i t c s n = false by unfold fewB; rw [h0, h1, h2, h3, h4]; rfl]
    go_enter Tryz.func6, Tryz.ntmps6
    go_wp2_with fail
    go_ret
    exact ⟨rfl, B⟩
  rw [show fewB i t c s n = true by unfold fewB; rw [h0, h1, h2, h3, h4]; rfl]
  go_enter Tryz.func6, Tryz.ntmps6
  go_wp2_with fail
  go_ret
  exact ⟨rfl, B⟩
set_option maxHeartbeats 4000000 in
theorem plain_any (k : Int) (i t c s : ByteArray) (sd q p al st en ra sh : Int) (a : Option Addr) (n cap : Nat) (w : World) :
    Calls Tryz.prog 9 #[.agg #[.int .i64 k, .string i, .string t, .string c, .string s, .int .i64 sd, .int .i64 q, .int .i64 p, .int .i64 al, .int .i64 st, .int .i64 en, .int .i64 ra, .int .i64 sh, .slice a n cap]] w fun e w' => e = .returned (.agg #[.int .i64 k, .string i, .string t, .string c, .string s, .int .i64 sd, .int .i64 q, .int .i64 p, .int .i64 al, .int .i64 st, .int .i64 en, .int .i64 ra, .int .i64 sh, .slice a n cap]) ∧ Below w.heap.size w w' := by
  have B := boxA_below w k i t c s sd q p al st en ra sh (.slice a n cap)
  go_enter Tryz.func9, Tryz.ntmps9
  go_wp2_with fail
  refine bodyPost_ret (v := .agg #[.int .i64 k, .string i, .string t, .string c, .string s, .int .i64 sd, .int .i64 q, .int .i64 p, .int .i64 al, .int .i64 st, .int .i64 en, .int .i64 ra, .int .i64 sh, .slice a n cap]) (by simp [results, Tryz.results9, go_sem]) rfl ⟨rfl, ?_⟩
  exact B.alloc (by simp) _
/-- The reference's ask in a block. -/
abbrev boxR (w : World) (k : Int) (i t c s : ByteArray) (sd q p al st en ra sh : Int) (cv : Value) : World := w.alloc (.cells #[.int .i64 k, .string i, .string t, .string c, .string s, .int .i64 sd, .int .i64 q, .int .i64 p, .int .i64 al, .int .i64 st, .int .i64 en, .int .i64 ra, .int .i64 sh, cv] 32)
set_option maxHeartbeats 4000000 in
theorem same_yes12 (k : Int) (i t c s : ByteArray) (sd q p al st en ra sh : Int) (a : Option Addr) (n cap : Nat) (a2 : Option Addr) (cap2 : Nat) (zs : Nat → Int) (w : World) (hn : n ≤ 1000000) (hu : Row w (.slice a n cap) n fun i => .int .i64 (zs i)) (hv : Row w (.slice a2 n cap2) n fun i => .int .i64 (zs i)) :
    Calls Tryz.prog 14 #[.agg #[.int .i64 k, .string i, .string t, .string c, .string s, .int .i64 sd, .int .i64 q, .int .i64 p, .int .i64 al, .int .i64 st, .int .i64 en, .int .i64 ra, .int .i64 sh, .slice a n cap], .agg #[.int .i64 k, .string i, .string t, .string c, .string s, .int .i64 sd, .int .i64 q, .int .i64 p, .int .i64 al, .int .i64 st, .int .i64 en, .int .i64 ra, .int .i64 sh, .slice a2 n cap2]] w fun e w' => e = .returned (.bool true) ∧ Below w.heap.size w w' := by
  have B : Below w.heap.size w (boxR (boxR w k i t c s sd q p al st en ra sh (.slice a n cap)) k i t c s sd q p al st en ra sh (.slice a2 n cap2)) := ((Below.refl _ w).alloc (Nat.le_refl _) _).alloc (by simp) _
  have F := sameI_yes zs n _ _ _ hn (hu.below B) (hv.below B)
  have HB : Hid (Below w.heap.size w (boxR (boxR w k i t c s sd q p al st en ra sh (.slice a n cap)) k i t c s sd q p al st en ra sh (.slice a2 n cap2))) := B
  clear hu hv B
  go_enter Tryz.func14, Tryz.ntmps14
  go_wp2_with fail
  refine F.mono ?_
  rintro e w1 ⟨rfl, b1⟩
  go_wp2_with fail
  go_ret
  exact ⟨rfl, HB.out.trans (b1.mono HB.out.size)⟩
end Go.Proofs.YtepkmbpadhfbmaaGreatDoor
/-
  A right ask's body is decoded as the ask; what is decoded is right (plain).
-/
namespace Go.Proofs.YtepkmbpadhfbmaaGreatDoor
open Go.Lib

theorem fields_cat12 {L : List Fd} (h : AllOk L) (hl : L.length ≤ 64) : fieldsL (cat L) = (L, (cat L).length, 0) := by
  unfold fieldsL
  rw [fieldsA_back L 64 [] 0 h hl]
  simp
theorem right_head (A : AskP) : ∃ r, fieldsP A = (35, wordT A.kind) :: r := by
  unfold fieldsP
  exact ⟨_, rfl⟩
/-- All that is asked for of a kind. -/
def allW (k al : Int) : List (Int × Want) := headW k ++ (if k = 1 then tailW al else [])
theorem decS_all (k : Int) (l : List Fd) : decS k l = runS (x0F l) (allW k (algoOf l)) := by
  unfold decS allW
  by_cases h : k = 1
  · rw [if_pos h, if_pos h, h, runS_append]
  · rw [if_neg h, if_neg h, List.append_nil]
theorem right_all {A : AskP} (R : RightP A) : ∀ p ∈ allW A.kind A.algo, Fits (lookF (fieldsP A)) p := by
  intro p hp
  obtain ⟨h1, h2⟩ := right_fits R
  unfold allW at hp
  rcases List.mem_append.1 hp with hp | hp
  · exact h1 p hp
  · by_cases k1 : A.kind = 1
    · rw [if_pos k1] at hp
      exact h2 k1 p hp
    · rw [if_neg k1] at hp
      simp at hp
theorem all_tags (A : AskP) : ∀ t ∈ (fieldsP A).map Prod.fst, t = 35 ∨ t ∈ (allW A.kind A.algo).map Prod.fst := by
  intro t ht
  rw [fields_tags] at ht
  unfold allW
  rw [List.map_append]
  by_cases k1 : A.kind = 1
  · rw [if_pos k1] at ht ⊢
    simp only [List.cons_append, List.mem_cons, List.mem_append] at ht ⊢
    exact ht
  · rw [if_neg k1] at ht ⊢
    simp only [List.mem_cons, List.append_nil, List.map_nil] at ht ⊢
    exact ht
theorem algo_back {A : AskP} (R : RightP A) (k1 : A.kind = 1) : algoOf (fieldsP A) = A.algo := by
  have h := ask_back R
  have : (askOf A.kind (fieldsP A)).algo = A.algo := by rw [h]
  rw [← this]
  show _ = if A.kind = 1 then algoOf (fieldsP A) else 0
  rw [if_pos k1]
theorem allW_algo {A : AskP} (R : RightP A) : allW A.kind (algoOf (fieldsP A)) = allW A.kind A.algo := by
  by_cases k1 : A.kind = 1
  · rw [algo_back R k1]
  · unfold allW
    rw [if_neg k1, if_neg k1]
theorem whole_right {A : AskP} (R : RightP A) : wholeE A = (0, 0) := by
  unfold wholeE
  rw [if_neg (fun e => e.2 (R.new e.1).2.2.2.2.2.2), if_neg (fun e => by
    have := (cur_iff A.curve).2 (R.vwap.1 e.1)
    rw [this] at e
    simp at e)]
/-- What is encoded is decoded as it was. -/
theorem dec_right {A : AskP} (R : RightP A) : decT (cat (fieldsP A)) = (0, 0) ∧ decA (cat (fieldsP A)) = A := by
  obtain ⟨ok, l64⟩ := right_allOk R
  have hf := fields_cat12 ok l64
  have hn := fields_nodup A
  obtain ⟨r, hr⟩ := right_head A
  have hE : readE (cat (fieldsP A)) = 0 := by
    unfold readE
    rw [hf]
    dsimp only
    rw [if_neg (by simp), if_pos (by rw [hr]; simp), if_pos hn]
  have h35 : textOf (fieldsP A) 35 = wordT A.kind := textOf_mem hn (by rw [hr]; simp)
  have hk : kindOf (textOf (fieldsP A) 35) = A.kind := by rw [h35]; exact kind_word R.kind.1 R.kind.2
  have hS : decS A.kind (fieldsP A) = (markAll (lookF (fieldsP A)) ((allW A.kind A.algo).map Prod.fst), 0, 0) := by
    rw [decS_all, allW_algo R]
    exact runS_fresh _ (right_all R)
  have hD : doneE (decS A.kind (fieldsP A)) ((fieldsP A).map Prod.fst) = (0, 0) := by
    unfold doneE
    rw [hS]
    dsimp only
    rw [if_pos rfl]
    exact done_all hn (all_tags A)
  have hT : decT (cat (fieldsP A)) = (0, 0) := by
    unfold decT
    rw [if_neg (by omega), hf]
    dsimp only
    unfold decE
    rw [hk, if_neg (by have := R.kind.1; omega), hD, if_neg (by simp), ask_back R]
    exact whole_right R
  refine ⟨hT, ?_⟩
  unfold decA
  rw [hT, if_pos rfl, hf]
  dsimp only
  rw [hk, ask_back R]
/-- What is decoded is right. -/
theorem dec_sound {l : List UInt8} (h : (decT l).2 = 0) : RightP (decA l) := by
  have hA : decA l = askOf (kindOf (textOf (fieldsL l).1 35)) (fieldsL l).1 := if_pos h
  have hE : readE l = 0 := by
    unfold decT at h
    by_cases e : readE l = 0
    · exact e
    · rw [if_pos e] at h
      dsimp only at h
      omega
  have hT : decT l = decE (fieldsL l).1 := by unfold decT; rw [if_neg (by omega)]
  rw [hT] at h
  rw [hA]
  generalize (fieldsL l).1 = F at *
  have hk0 : kindOf (textOf F 35) ≠ 0 := fun e => by
    unfold decE at h
    rw [if_pos e] at h
    simp at h
  have hr := kind_range (textOf F 35)
  unfold decE at h
  rw [if_neg hk0] at h
  generalize kindOf (textOf F 35) = K at *
  by_cases hd : (doneE (decS K F) (F.map Prod.fst)).2 = 0
  · rw [if_neg (by omega)] at h
    have h0 := (done_run hd).1
    rw [decS_all] at h0
    have fit := runS_fresh_ok _ h0
    have w := whole_zero h
    refine ask_sound (by omega) (by omega) (fun p hp => fit p (by unfold allW; simp [hp])) (fun k1 p hp => fit p (by unfold allW; rw [if_pos k1]; simp [hp])) (fun k1 => ?_) (fun k1 a2 => ?_)
    · by_cases c : 1 ≤ (askOf K F).stop - (askOf K F).start ∧ (askOf K F).stop - (askOf K F).start ≤ 1073741824
      · exact c
      · unfold wholeE at h
        rw [if_pos ⟨k1, c⟩] at h
        simp at h
    · refine (cur_iff _).1 ?_
      cases c : curB (intsOf (askOf K F).curve) with
      | true => rfl
      | false =>
        have ha : (askOf K F).algo = 2 := by
          show (if K = 1 then algoOf F else 0) = 2
          rw [if_pos k1, a2]
        unfold wholeE at h
        by_cases s : (askOf K F).kind = 1 ∧ ¬ (1 ≤ (askOf K F).stop - (askOf K F).start ∧ (askOf K F).stop - (askOf K F).start ≤ 1073741824)
        · rw [if_pos s] at h
          simp at h
        · rw [if_neg s, if_pos ⟨ha, c⟩] at h
          simp at h
  · rw [if_pos hd] at h
    exact absurd h hd
end Go.Proofs.YtepkmbpadhfbmaaGreatDoor
/-
  The chapter's example: the program is awake.
-/
namespace Go.Proofs.YtepkmbpadhfbmaaGreatDoor
open Go.ChangeShapes Go.WideShapes Go.ChangeAt Go.RowKit Go.Lib

theorem form_of12 {n : Nat} {v : ByteArray} {x : List UInt8} (h1 : 1 ≤ n) (h2 : n ≤ 99999) (hv : valB v.data.toList = true) (hx : decDigits n ++ 61 :: (v.data.toList ++ [1]) = x) : formE ((n : Int), v) = (x, 0) := by
  unfold formE
  dsimp only
  rw [if_neg (by omega), hv, if_neg (by decide), show ((n : Int)).toNat = n from rfl, hx]
abbrev exA : AskP := ⟨2, ⟨#[98]⟩, ⟨#[97]⟩, ⟨#[]⟩, ⟨#[]⟩, 0, 0, 0, 0, 0, 0, 0, 0, []⟩
theorem ex_f : formE (35, ⟨#[70]⟩) = ([51, 53, 61, 70, 1], 0) := form_of12 (n := 35) (by omega) (by omega) (by decide +kernel) (by rw [decDigits_two (by omega) (by omega)]; rfl)
theorem ex_b : formE (11, ⟨#[98]⟩) = ([49, 49, 61, 98, 1], 0) := form_of12 (n := 11) (by omega) (by omega) (by decide +kernel) (by rw [decDigits_two (by omega) (by omega)]; rfl)
theorem ex_a : formE (41, ⟨#[97]⟩) = ([52, 49, 61, 97, 1], 0) := form_of12 (n := 41) (by omega) (by omega) (by decide +kernel) (by rw [decDigits_two (by omega) (by omega)]; rfl)
theorem ex_right : RightP exA := by
  refine ⟨by decide, by decide +kernel, fun _ => ⟨by decide +kernel, rfl, rfl, rfl, rfl, rfl⟩, fun _ _ => ⟨rfl, rfl, rfl⟩, fun h => ?_, fun h => ?_, ⟨fun h => ?_, fun _ => rfl⟩, ⟨fun h => ?_, fun _ => rfl⟩, ⟨fun h => ?_, fun _ => rfl⟩⟩
  · dsimp only at h; omega
  · dsimp only at h; omega
  · dsimp only at h; omega
  · dsimp only at h; omega
  · dsimp only at h; omega
theorem ex_fields : fieldsP exA = [(35, ⟨#[70]⟩), (11, ⟨#[98]⟩), (41, ⟨#[97]⟩)] := by decide +kernel
theorem ex_cat : cat (fieldsP exA) = [51, 53, 61, 70, 1, 49, 49, 61, 98, 1, 52, 49, 61, 97, 1] := by
  rw [ex_fields]
  simp [cat, ex_f, ex_b, ex_a]
set_option maxRecDepth 1000000 in
set_option maxHeartbeats 4000000 in
theorem awake12_any (w : World) (hl : Let w) (hp : Pow w) :
    Calls Tryz.prog 5 #[] w fun e w' => e = .returned (.bool true) ∧ Below w.heap.size w w' := by
  have E := encode_yes 2 ⟨#[98]⟩ ⟨#[97]⟩ ⟨#[]⟩ ⟨#[]⟩ 0 0 0 0 0 0 0 0 none 0 [] w ex_right hl hp ⟨none, 0, rfl, Nat.le_refl _, by unfold maxLen; omega, fun i hi => absurd hi (by simp [intsOf])⟩
  rw [ex_cat] at E
  obtain ⟨dt, da⟩ := dec_right ex_right
  rw [ex_cat] at dt da
  have D := fun w h => decode_any (mk [51, 53, 61, 70, 1, 49, 49, 61, 98, 1, 52, 49, 61, 97, 1]) w (by rw [mk_size]; decide) h
  have HDT : Hid (decT [51, 53, 61, 70, 1, 49, 49, 61, 98, 1, 52, 49, 61, 97, 1] = (0, 0)) := dt
  have HDA : Hid (decA [51, 53, 61, 70, 1, 49, 49, 61, 98, 1, 52, 49, 61, 97, 1] = exA) := da
  have E' : Calls Tryz.prog 7 #[.agg #[.int .i64 2, .string ⟨#[98]⟩, .string ⟨#[97]⟩, .string ⟨#[]⟩, .string ⟨#[]⟩, .int .i64 0, .int .i64 0, .int .i64 0, .int .i64 0, .int .i64 0, .int .i64 0, .int .i64 0, .int .i64 0, .slice none 0 0]] w fun e w' => e = .returned (.tuple #[.string ⟨#[51, 53, 61, 70, 1, 49, 49, 61, 98, 1, 52, 49, 61, 97, 1]⟩, .int .i64 0]) ∧ Below w.heap.size w w' := E
  have D' : ∀ w, Let w → Calls Tryz.prog 12 #[.string ⟨#[51, 53, 61, 70, 1, 49, 49, 61, 98, 1, 52, 49, 61, 97, 1]⟩] w (DecOk [51, 53, 61, 70, 1, 49, 49, 61, 98, 1, 52, 49, 61, 97, 1] w) := D
  have HL : Hid (Let w) := hl
  clear E D dt da hl hp
  go_enter Tryz.func5, Tryz.ntmps5
  go_wp2_with fail
  refine E'.mono ?_
  rintro e w1 ⟨rfl, b1⟩
  have D1 := D' w1 (HL.out.still b1)
  clear E' D'
  go_wp2_with fail
  refine D1.mono ?_
  rintro e w2 ⟨k, i, t, c, s, sd, q, p, al, st, en, ra, sh, a, d, cz, he, RA, _, b2⟩
  rw [HDT.out] at he
  dsimp only at he
  subst he
  have eq := RA.eq
  rw [HDA.out] at eq
  simp only [AskP.mk.injEq] at eq
  obtain ⟨rfl, _, rfl, _⟩ := eq
  have HB2 : Hid (Below w.heap.size w w2) := b1.trans (b2.mono b1.size)
  clear b1 b2 D1 RA HDT HDA HL
  go_wp2_with fail
  go_ret
  exact ⟨rfl, HB2.out.alloc HB2.out.size _⟩
end Go.Proofs.YtepkmbpadhfbmaaGreatDoor
