/-
  The chapter's example: the program is awake; the statements' small tests.
-/
import Derived.Test.YtdacmhnniecmhaaDoorTellEncode
import Derived.Test.YtdacmhnniecmhaaDoorTellDecode
namespace Go.Proofs.YtdacmhnniecmhaaDoor
open Go.ChangeShapes Go.WideShapes Go.ChangeAt Go.RowKit Go.Lib

theorem form_of13 {n : Nat} {v : ByteArray} {x : List UInt8} (h1 : 1 ≤ n) (h2 : n ≤ 99999) (hv : valB v.data.toList = true) (hx : decDigits n ++ 61 :: (v.data.toList ++ [1]) = x) : formE ((n : Int), v) = (x, 0) := by
  unfold formE
  dsimp only
  rw [if_neg (by omega), hv, if_neg (by decide), show ((n : Int)).toNat = n from rfl, hx]
theorem digits_three {n : Nat} (h1 : ¬ n < 100) (h2 : n < 1000) : decDigits n = [UInt8.ofNat (48 + n / 100), UInt8.ofNat (48 + n / 10 % 10), UInt8.ofNat (48 + n % 10)] := by
  rw [decDigits, dif_neg (by omega), decDigits_two (by omega) (by omega)]
  simp [Nat.div_div_eq_div_mul]
/-- The chapter's example. -/
def exT : TellP := (fun _ => noText, fun j => if j = 0 then 3 else if j = 8 then 38 else if j = 9 then 112 else 0)
theorem ex_num1 : numT 38 = ⟨#[51, 56]⟩ := by
  show mk (decDigits 38) = _
  rw [decDigits_two (by omega) (by omega)]
  rfl
theorem ex_num2 : numT 112 = ⟨#[49, 49, 50]⟩ := by
  show mk (decDigits 112) = _
  rw [digits_three (by omega) (by omega)]
  rfl
theorem ex_fields : fieldsT exT = [(35, ⟨#[51]⟩), (371, ⟨#[51, 56]⟩), (373, ⟨#[49, 49, 50]⟩)] := by
  show [(35, wordT 3), (371, numT 38), (373, numT 112)] = _
  rw [ex_num1, ex_num2]
  rfl
theorem ex_35 : formE (35, ⟨#[51]⟩) = ([51, 53, 61, 51, 1], 0) := form_of13 (n := 35) (by omega) (by omega) (by decide +kernel) (by rw [decDigits_two (by omega) (by omega)]; rfl)
theorem ex_371 : formE (371, ⟨#[51, 56]⟩) = ([51, 55, 49, 61, 51, 56, 1], 0) := form_of13 (n := 371) (by omega) (by omega) (by decide +kernel) (by rw [digits_three (by omega) (by omega)]; rfl)
theorem ex_373 : formE (373, ⟨#[49, 49, 50]⟩) = ([51, 55, 51, 61, 49, 49, 50, 1], 0) := form_of13 (n := 373) (by omega) (by omega) (by decide +kernel) (by rw [digits_three (by omega) (by omega)]; rfl)
abbrev exL : List UInt8 := [51, 53, 61, 51, 1, 51, 55, 49, 61, 51, 56, 1, 51, 55, 51, 61, 49, 49, 50, 1]
theorem ex_cat : cat (fieldsT exT) = exL := by
  rw [ex_fields]
  simp [cat, ex_35, ex_371, ex_373]
theorem ex_right : RightP exT := by
  refine ⟨by decide, ?_, fun _ => ⟨rfl, rfl, rfl, rfl, rfl⟩, fun _ => ⟨rfl, rfl⟩, fun h => ?_⟩
  · intro p hp
    rw [show exT.2 0 = 3 from rfl, listK_3] at hp
    simp only [List.mem_cons, List.not_mem_nil, or_false] at hp
    rcases hp with rfl | rfl <;> rfl
  · exact absurd h (by decide)
set_option maxRecDepth 1000000 in
set_option maxHeartbeats 4000000 in
theorem awake13_any (w : World) (hl : Let w) (hp : Pow w) :
    Calls Tryd.prog 6 #[] w fun e w' => e = .returned (.bool true) ∧ Below w.heap.size w w' := by
  have E := encode_yes exT w ex_right hl hp
  rw [ex_cat] at E
  obtain ⟨dt, da⟩ := dec_right ex_right
  rw [ex_cat] at dt da
  have D := fun w h => decode_any (mk exL) w (by rw [mk_size]; decide) h
  have HDT : Hid (decT exL = (0, 0)) := dt
  have HDA : Hid (Same (decA exL) exT) := da
  have E' : Calls Tryd.prog 8 #[.agg #[.int .i64 3, .string ⟨#[]⟩, .string ⟨#[]⟩, .int .i64 0, .int .i64 0, .int .i64 0, .int .i64 0, .int .i64 0, .int .i64 38, .int .i64 112]] w fun e w' => e = .returned (.tuple #[.string ⟨#[51, 53, 61, 51, 1, 51, 55, 49, 61, 51, 56, 1, 51, 55, 51, 61, 49, 49, 50, 1]⟩, .int .i64 0]) ∧ Below w.heap.size w w' := E
  have D' : ∀ w, Let w → Calls Tryd.prog 13 #[.string ⟨#[51, 53, 61, 51, 1, 51, 55, 49, 61, 51, 56, 1, 51, 55, 51, 61, 49, 49, 50, 1]⟩] w (DecOk exL w) := D
  have HL : Hid (Let w) := hl
  clear E D dt da hl hp
  go_enter Tryd.func6, Tryd.ntmps6
  go_wp2_with fail
  refine E'.mono ?_
  rintro e w1 ⟨rfl, b1⟩
  have D1 := D' w1 (HL.out.still b1)
  clear E' D'
  go_wp2_with fail
  refine D1.mono ?_
  rintro e w2 ⟨u, he, hS, b2⟩
  rw [HDT.out] at he
  unfold tellV at he
  have g8 : u.2 8 = 38 := (hS.trans HDA.out).g
  rw [g8] at he
  dsimp only at he
  subst he
  have HB2 : Hid (Below w.heap.size w w2) := b1.trans (b2.mono b1.size)
  clear b1 b2 D1 HDT HDA HL hS g8
  go_wp2_with fail
  go_ret
  exact ⟨rfl, HB2.out.alloc HB2.out.size _⟩
/-- The statements' test on sizes. -/
def fewB (t : TellP) : Bool := decide ((t.1 1).size ≤ 200 ∧ (t.1 2).size ≤ 200)
set_option maxHeartbeats 1000000 in
theorem few_any (t : TellP) (w : World) :
    Calls Tryd.prog 7 #[.agg #[.int .i64 (t.2 0), .string (t.1 1), .string (t.1 2), .int .i64 (t.2 3), .int .i64 (t.2 4), .int .i64 (t.2 5), .int .i64 (t.2 6), .int .i64 (t.2 7), .int .i64 (t.2 8), .int .i64 (t.2 9)]] w fun e w' => e = .returned (.bool (fewB t)) ∧ Below w.heap.size w w' := by
  have HB : Hid (Below w.heap.size w (boxT w t)) := boxT_below w t
  unfold fewB
  by_cases h1 : (t.1 1).size ≤ 200
  · have g1 : ((t.1 1).size : Int) ≤ 200 := by omega
    by_cases h2 : (t.1 2).size ≤ 200
    · have g2 : ((t.1 2).size : Int) ≤ 200 := by omega
      rw [decide_eq_true ⟨h1, h2⟩]
      clear h1 h2
      go_enter Tryd.func7, Tryd.ntmps7
      go_wp2_with fail
      go_ret
      exact ⟨rfl, HB.out⟩
    · have g2 : ¬ ((t.1 2).size : Int) ≤ 200 := by omega
      rw [decide_eq_false (fun e => h2 e.2)]
      clear h1 h2
      go_enter Tryd.func7, Tryd.ntmps7
      go_wp2_with fail
      go_ret
      exact ⟨rfl, HB.out⟩
  · have g1 : ¬ ((t.1 1).size : Int) ≤ 200 := by omega
    rw [decide_eq_false (fun e => h1 e.1)]
    clear h1
    go_enter Tryd.func7, Tryd.ntmps7
    go_wp2_with fail
    go_ret
    exact ⟨rfl, HB.out⟩
end Go.Proofs.YtdacmhnniecmhaaDoor
