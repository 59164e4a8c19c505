/-
  The chapter's example: the program is awake; the statements' test on sizes.
-/
import Derived.Test.YtdbkoflejimibaaGreatDoorJF
import Derived.Test.YtdbkoflejimibaaGreatDoorJI
import Derived.Test.YtdbkoflejimibaaGreatDoorGA
namespace Go.Proofs.YtdbkoflejimibaaGreatDoor.PP
open Go.ChangeShapes Go.WideShapes Go.ChangeAt Go.RowKit Go.Lib

theorem form_of14 {n : Nat} {v : ByteArray} {x : List UInt8} (h1 : 1 ≤ n) (h2 : n ≤ 99999) (hv : valB v.data.toList = true) (hx : decDigits n ++ 61 :: (v.data.toList ++ [1]) = x) : formE ((n : Int), v) = (x, 0) := by
  unfold formE
  dsimp only
  rw [if_neg (by omega), hv, if_neg (by decide), show ((n : Int)).toNat = n from rfl, hx]
theorem num_one {n : Nat} (h : n < 10) : numT (n : Int) = mk [UInt8.ofNat (48 + n)] := by
  show mk (decDigits n) = _
  rw [decDigits, dif_pos h]
/-- The chapter's example. -/
def exO : ThP := (fun j => if j = 2 then ⟨#[99, 49]⟩ else noText, fun j => if j = 0 then 2 else if j = 1 then 7 else 0)
def exR : ThP := (fun j => if j = 2 then ⟨#[99, 49]⟩ else noText, fun j => if j = 0 then 7 else if j = 1 then 2 else 0)
theorem exO_fields : O.fieldsT exO = [(35, ⟨#[70]⟩), (34, ⟨#[55]⟩), (11, ⟨#[99, 49]⟩)] := by
  show [(35, O.wordK 2), (34, numT ((7 : Nat) : Int)), (11, ⟨#[99, 49]⟩)] = _
  rw [num_one (by omega)]
  rfl
theorem exR_fields : R.fieldsT exR = [(35, ⟨#[57]⟩), (34, ⟨#[50]⟩), (11, ⟨#[99, 49]⟩)] := by
  show [(35, R.word35 7), (34, numT ((2 : Nat) : Int)), (11, ⟨#[99, 49]⟩)] = _
  rw [num_one (by omega)]
  rfl
theorem ex_35 (c : UInt8) (h : valB [c] = true) : formE (35, ⟨#[c]⟩) = ([51, 53, 61, c, 1], 0) := form_of14 (n := 35) (by omega) (by omega) h (by rw [decDigits_two (by omega) (by omega)]; rfl)
theorem ex_34 (c : UInt8) (h : valB [c] = true) : formE (34, ⟨#[c]⟩) = ([51, 52, 61, c, 1], 0) := form_of14 (n := 34) (by omega) (by omega) h (by rw [decDigits_two (by omega) (by omega)]; rfl)
theorem ex_11 : formE (11, ⟨#[99, 49]⟩) = ([49, 49, 61, 99, 49, 1], 0) := form_of14 (n := 11) (by omega) (by omega) (by decide +kernel) (by rw [decDigits_two (by omega) (by omega)]; rfl)
abbrev exOL : List UInt8 := [51, 53, 61, 70, 1, 51, 52, 61, 55, 1, 49, 49, 61, 99, 49, 1]
abbrev exRL : List UInt8 := [51, 53, 61, 57, 1, 51, 52, 61, 50, 1, 49, 49, 61, 99, 49, 1]
theorem exO_cat : cat (O.fieldsT exO) = exOL := by
  rw [exO_fields]
  simp [cat, ex_35 70 (by decide +kernel), ex_34 55 (by decide +kernel), ex_11]
theorem exR_cat : cat (R.fieldsT exR) = exRL := by
  rw [exR_fields]
  simp [cat, ex_35 57 (by decide +kernel), ex_34 50 (by decide +kernel), ex_11]
theorem exO_right : O.RightP exO := by
  refine ⟨by decide, ?_, fun _ => ⟨rfl, rfl⟩, fun _ => ⟨rfl, rfl⟩⟩
  intro p hp
  rw [show exO.2 0 = 2 from rfl, show O.rlist 2 = _ from O.listK_2] at hp
  simp only [List.mem_cons, List.not_mem_nil, or_false] at hp
  rcases hp with rfl | rfl
  · rfl
  · show vldB ⟨#[99, 49]⟩ = true
    decide +kernel
theorem exR_right : R.RightP exR := by
  refine ⟨by decide, ?_, fun _ => rfl, fun _ => ⟨rfl, rfl⟩, fun _ => rfl⟩
  intro p hp
  rw [show exR.2 0 = 7 from rfl, R.rlist_7] at hp
  simp only [List.mem_cons, List.not_mem_nil, or_false] at hp
  rcases hp with rfl | rfl
  · rfl
  · show vldB ⟨#[99, 49]⟩ = true
    decide +kernel
set_option maxRecDepth 1000000 in
set_option maxHeartbeats 4000000 in
theorem awake14_any (w : World) (hl : O.Let w) (hr : R.Let w) (hp : Pow w) :
    Calls Tryz.prog 4 #[] w fun e w' => e = .returned (.bool true) ∧ Below w.heap.size w w' := by
  have E := O.encode_yes exO w exO_right hl hp
  rw [exO_cat] at E
  obtain ⟨dt, da⟩ := R.dec_right exR_right
  rw [exR_cat] at dt da
  have D := fun w h => R.decode_any (mk exRL) w (by rw [mk_size]; decide) h
  have HDT : Hid (R.decT exRL = (0, 0)) := dt
  have HDA : Hid (R.Same (R.decA exRL) exR) := da
  have E' : Calls Tryz.prog 11 #[.agg #[.int .i64 2, .int .i64 7, .string ⟨#[99, 49]⟩, .string ⟨#[]⟩, .int .i64 0, .int .i64 0, .int .i64 0]] w fun e w' => e = .returned (.tuple #[.string ⟨#[51, 53, 61, 70, 1, 51, 52, 61, 55, 1, 49, 49, 61, 99, 49, 1]⟩, .int .i64 0]) ∧ Below w.heap.size w w' := E
  have D' : ∀ w, R.Let w → Calls Tryz.prog 7 #[.string ⟨#[51, 53, 61, 57, 1, 51, 52, 61, 50, 1, 49, 49, 61, 99, 49, 1]⟩] w (R.DecOk exRL w) := D
  have HL : Hid (R.Let w) := hr
  clear E D dt da hl hp hr
  go_enter Tryz.func4, Tryz.ntmps4
  go_wp2_with fail
  refine E'.mono ?_
  rintro e w1 ⟨rfl, b1⟩
  have D1 := D' w1 (HL.out.still b1)
  clear E' D'
  go_wp2_with fail
  refine D1.mono ?_
  rintro e w2 ⟨u, he, hS, b2⟩
  rw [HDT.out] at he
  unfold R.thV at he
  have S2 := hS.trans HDA.out
  have g0 : u.2 0 = 7 := S2.1
  have g1 : u.2 1 = 2 := S2.2.1
  rw [g0, g1] at he
  dsimp only at he
  subst he
  have HB2 : Hid (Below w.heap.size w w2) := b1.trans (b2.mono b1.size)
  clear b1 b2 D1 HDT HDA HL hS g0 g1 S2
  go_wp2_with fail
  go_ret
  exact ⟨rfl, HB2.out.alloc HB2.out.size _⟩
end Go.Proofs.YtdbkoflejimibaaGreatDoor.PP
