/-
  The contract of ask's Right: whether an ask is right, whatever it holds.
-/
import Derived.Test.YtdacfnodihannaaGreatAskRight2
namespace Go.Proofs.YtdacfnodihannaaGreat
open Go.ChangeShapes Go.WideShapes Go.ChangeAt Go.RowKit Go.Lib

/-- Whether an ask is right. -/
def rightB (k : Int) (i t c s : ByteArray) (sd q p al st en ra sh : Int) (n : Nat) (cb : Bool) : Bool := vldB i &&
  (if k = 1 then t.toList.isEmpty && (ordB c s sd q p st en && algB al ra sh n cb)
   else if k = 3 then vldB t && (chgB q p en && noOrdB c s sd al st n ra sh)
   else if k = 2 ∨ k = 4 ∨ k = 5 then vldB t && (noChgB q p en && noOrdB c s sd al st n ra sh)
   else false)
set_option maxHeartbeats 8000000 in
theorem right_at (k : Int) (i t c s : ByteArray) (sd q p al st en ra sh : Int) (a : Option Addr) (n cap : Nat) (cb : Bool) (w : World)
    (FA : ∀ w1, Below w.heap.size w w1 → Calls Tryz.prog 36 #[.agg #[.int .i64 k, .string i, .string t, .string c, .string s, .int .i64 sd, .int .i64 q, .int .i64 p, .int .i64 al, .int .i64 st, .int .i64 en, .int .i64 ra, .int .i64 sh, .slice a n cap]] w1 fun e w' => e = .returned (.bool (algB al ra sh n cb)) ∧ Below w1.heap.size w1 w') :
    Calls Tryz.prog 18 #[.agg #[.int .i64 k, .string i, .string t, .string c, .string s, .int .i64 sd, .int .i64 q, .int .i64 p, .int .i64 al, .int .i64 st, .int .i64 en, .int .i64 ra, .int .i64 sh, .slice a n cap]] w fun e w' => e = .returned (.bool (rightB k i t c s sd q p al st en ra sh n cb)) ∧ Below w.heap.size w w' := by
  have B : Hid (Below w.heap.size w (boxA w k i t c s sd q p al st en ra sh (.slice a n cap))) := boxA_below w k i t c s sd q p al st en ra sh (.slice a n cap)
  have A0 : Hid (AskAt (boxA w k i t c s sd q p al st en ra sh (.slice a n cap)) w.heap.size k i t c s sd q p al st en ra sh (.slice a n cap)) := AskAt.box w k i t c s sd q p al st en ra sh (.slice a n cap)
  have FI := fun w => valid_any i w
  have FT := fun w => valid_any t w
  have FO := fun w => rightOrder_any k i t c s sd q p al st en ra sh (.slice a n cap) w
  have FH := fun w => rightChange_any k i t c s sd q p al st en ra sh (.slice a n cap) w
  have FNC := fun w => noChange_any k i t c s sd q p al st en ra sh (.slice a n cap) w
  have FNO := fun w => noOrder_any k i t c s sd q p al st en ra sh a n cap w
  cases hi : vldB i
  case false =>
    rw [show rightB k i t c s sd q p al st en ra sh n cb = false by unfold rightB; rw [hi]; rfl]
    rw [hi] at FI
    go_enter Tryz.func18, Tryz.ntmps18
    go_wp2_with fail
    refine (FI _).mono ?_
    rintro e w1 ⟨rfl, b1⟩
    have HB1 : Hid (Below w.heap.size w w1) := B.out.trans (b1.mono (by simp))
    have A1 := A0.out.still b1 (by simp)
    have HA1 : Hid (AskAt w1 w.heap.size k i t c s sd q p al st en ra sh (.slice a n cap)) := A1
    obtain ⟨d0, d1, d2, d3, d4, d5, d6, d7, d8, d9, d10, d11, d12, d13⟩ := A1
    clear b1
    go_wp2_with fail
    go_ret
    exact ⟨rfl, HB1.out⟩
  rw [hi] at FI
  by_cases e1 : k = 1
  · have AB : rightB k i t c s sd q p al st en ra sh n cb = (t.toList.isEmpty && (ordB c s sd q p st en && algB al ra sh n cb)) := by unfold rightB; rw [hi, if_pos e1]; rfl
    have g1 : (k == 1) = true := beq_iff_eq.2 e1
    clear e1 hi
    cases h0 : t.toList.isEmpty
    case false =>
      rw [AB, show (t.toList.isEmpty && (ordB c s sd q p st en && algB al ra sh n cb)) = false by simp [h0]]
      clear AB
      go_enter Tryz.func18, Tryz.ntmps18
      go_wp2_with fail
      refine (FI _).mono ?_
      rintro e w1 ⟨rfl, b1⟩
      have HB1 : Hid (Below w.heap.size w w1) := B.out.trans (b1.mono (by simp))
      have A1 := A0.out.still b1 (by simp)
      have HA1 : Hid (AskAt w1 w.heap.size k i t c s sd q p al st en ra sh (.slice a n cap)) := A1
      obtain ⟨d0, d1, d2, d3, d4, d5, d6, d7, d8, d9, d10, d11, d12, d13⟩ := A1
      clear b1
      go_wp2_with fail
      go_ret
      exact ⟨rfl, HB1.out⟩
    cases h1 : ordB c s sd q p st en
    case false =>
      rw [AB, show (t.toList.isEmpty && (ordB c s sd q p st en && algB al ra sh n cb)) = false by simp [h1]]
      clear AB
      rw [h1] at FO
      go_enter Tryz.func18, Tryz.ntmps18
      go_wp2_with fail
      refine (FI _).mono ?_
      rintro e w1 ⟨rfl, b1⟩
      have HB1 : Hid (Below w.heap.size w w1) := B.out.trans (b1.mono (by simp))
      have A1 := A0.out.still b1 (by simp)
      have HA1 : Hid (AskAt w1 w.heap.size k i t c s sd q p al st en ra sh (.slice a n cap)) := A1
      obtain ⟨d0, d1, d2, d3, d4, d5, d6, d7, d8, d9, d10, d11, d12, d13⟩ := A1
      clear b1
      go_wp2_with fail
      refine (FO _).mono ?_
      rintro e w2 ⟨rfl, b2⟩
      have HB2 : Hid (Below w.heap.size w w2) := HB1.out.trans (b2.mono HB1.out.size)
      have A2 := HA1.out.still b2 HA1.out.lt
      clear d0 d1 d2 d3 d4 d5 d6 d7 d8 d9 d10 d11 d12 d13
      have HA2 : Hid (AskAt w2 w.heap.size k i t c s sd q p al st en ra sh (.slice a n cap)) := A2
      obtain ⟨d0, d1, d2, d3, d4, d5, d6, d7, d8, d9, d10, d11, d12, d13⟩ := A2
      clear b2
      go_wp2_with fail
      go_ret
      exact ⟨rfl, HB2.out⟩
    rw [AB, show (t.toList.isEmpty && (ordB c s sd q p st en && algB al ra sh n cb)) = (algB al ra sh n cb) by simp [h0, h1]]
    clear AB
    rw [h1] at FO
    go_enter Tryz.func18, Tryz.ntmps18
    go_wp2_with fail
    refine (FI _).mono ?_
    rintro e w1 ⟨rfl, b1⟩
    have HB1 : Hid (Below w.heap.size w w1) := B.out.trans (b1.mono (by simp))
    have A1 := A0.out.still b1 (by simp)
    have HA1 : Hid (AskAt w1 w.heap.size k i t c s sd q p al st en ra sh (.slice a n cap)) := A1
    obtain ⟨d0, d1, d2, d3, d4, d5, d6, d7, d8, d9, d10, d11, d12, d13⟩ := A1
    clear b1
    go_wp2_with fail
    refine (FO _).mono ?_
    rintro e w2 ⟨rfl, b2⟩
    have HB2 : Hid (Below w.heap.size w w2) := HB1.out.trans (b2.mono HB1.out.size)
    have A2 := HA1.out.still b2 HA1.out.lt
    clear d0 d1 d2 d3 d4 d5 d6 d7 d8 d9 d10 d11 d12 d13
    have HA2 : Hid (AskAt w2 w.heap.size k i t c s sd q p al st en ra sh (.slice a n cap)) := A2
    obtain ⟨d0, d1, d2, d3, d4, d5, d6, d7, d8, d9, d10, d11, d12, d13⟩ := A2
    clear b2
    go_wp2_with fail
    refine (FA _ HB2.out).mono ?_
    rintro e w3 ⟨rfl, b3⟩
    have HB3 : Hid (Below w.heap.size w w3) := HB2.out.trans (b3.mono HB2.out.size)
    have A3 := HA2.out.still b3 HA2.out.lt
    clear d0 d1 d2 d3 d4 d5 d6 d7 d8 d9 d10 d11 d12 d13
    have HA3 : Hid (AskAt w3 w.heap.size k i t c s sd q p al st en ra sh (.slice a n cap)) := A3
    obtain ⟨d0, d1, d2, d3, d4, d5, d6, d7, d8, d9, d10, d11, d12, d13⟩ := A3
    clear b3
    go_wp2_with fail
    go_ret
    exact ⟨rfl, HB3.out⟩
  have g1 : (k == 1) = false := beq_false_of_ne e1
  by_cases e3 : k = 3
  · have AB : rightB k i t c s sd q p al st en ra sh n cb = (vldB t && (chgB q p en && noOrdB c s sd al st n ra sh)) := by unfold rightB; rw [hi, if_neg e1, if_pos e3]; rfl
    have g3 : (k == 3) = true := beq_iff_eq.2 e3
    clear e3 hi
    cases h0 : vldB t
    case false =>
      rw [AB, show (vldB t && (chgB q p en && noOrdB c s sd al st n ra sh)) = false by simp [h0]]
      clear AB
      rw [h0] at FT
      go_enter Tryz.func18, Tryz.ntmps18
      go_wp2_with fail
      refine (FI _).mono ?_
      rintro e w1 ⟨rfl, b1⟩
      have HB1 : Hid (Below w.heap.size w w1) := B.out.trans (b1.mono (by simp))
      have A1 := A0.out.still b1 (by simp)
      have HA1 : Hid (AskAt w1 w.heap.size k i t c s sd q p al st en ra sh (.slice a n cap)) := A1
      obtain ⟨d0, d1, d2, d3, d4, d5, d6, d7, d8, d9, d10, d11, d12, d13⟩ := A1
      clear b1
      go_wp2_with fail
      refine (FT _).mono ?_
      rintro e w2 ⟨rfl, b2⟩
      have HB2 : Hid (Below w.heap.size w w2) := HB1.out.trans (b2.mono HB1.out.size)
      have A2 := HA1.out.still b2 HA1.out.lt
      clear d0 d1 d2 d3 d4 d5 d6 d7 d8 d9 d10 d11 d12 d13
      have HA2 : Hid (AskAt w2 w.heap.size k i t c s sd q p al st en ra sh (.slice a n cap)) := A2
      obtain ⟨d0, d1, d2, d3, d4, d5, d6, d7, d8, d9, d10, d11, d12, d13⟩ := A2
      clear b2
      go_wp2_with fail
      go_ret
      exact ⟨rfl, HB2.out⟩
    cases h1 : chgB q p en
    case false =>
      rw [AB, show (vldB t && (chgB q p en && noOrdB c s sd al st n ra sh)) = false by simp [h1]]
      clear AB
      rw [h0] at FT
      rw [h1] at FH
      go_enter Tryz.func18, Tryz.ntmps18
      go_wp2_with fail
      refine (FI _).mono ?_
      rintro e w1 ⟨rfl, b1⟩
      have HB1 : Hid (Below w.heap.size w w1) := B.out.trans (b1.mono (by simp))
      have A1 := A0.out.still b1 (by simp)
      have HA1 : Hid (AskAt w1 w.heap.size k i t c s sd q p al st en ra sh (.slice a n cap)) := A1
      obtain ⟨d0, d1, d2, d3, d4, d5, d6, d7, d8, d9, d10, d11, d12, d13⟩ := A1
      clear b1
      go_wp2_with fail
      refine (FT _).mono ?_
      rintro e w2 ⟨rfl, b2⟩
      have HB2 : Hid (Below w.heap.size w w2) := HB1.out.trans (b2.mono HB1.out.size)
      have A2 := HA1.out.still b2 HA1.out.lt
      clear d0 d1 d2 d3 d4 d5 d6 d7 d8 d9 d10 d11 d12 d13
      have HA2 : Hid (AskAt w2 w.heap.size k i t c s sd q p al st en ra sh (.slice a n cap)) := A2
      obtain ⟨d0, d1, d2, d3, d4, d5, d6, d7, d8, d9, d10, d11, d12, d13⟩ := A2
      clear b2
      go_wp2_with fail
      refine (FH _).mono ?_
      rintro e w3 ⟨rfl, b3⟩
      have HB3 : Hid (Below w.heap.size w w3) := HB2.out.trans (b3.mono HB2.out.size)
      have A3 := HA2.out.still b3 HA2.out.lt
      clear d0 d1 d2 d3 d4 d5 d6 d7 d8 d9 d10 d11 d12 d13
      have HA3 : Hid (AskAt w3 w.heap.size k i t c s sd q p al st en ra sh (.slice a n cap)) := A3
      obtain ⟨d0, d1, d2, d3, d4, d5, d6, d7, d8, d9, d10, d11, d12, d13⟩ := A3
      clear b3
      go_wp2_with fail
      go_ret
      exact ⟨rfl, HB3.out⟩
    rw [AB, show (vldB t && (chgB q p en && noOrdB c s sd al st n ra sh)) = (noOrdB c s sd al st n ra sh) by simp [h0, h1]]
    clear AB
    rw [h0] at FT
    rw [h1] at FH
    go_enter Tryz.func18, Tryz.ntmps18
    go_wp2_with fail
    refine (FI _).mono ?_
    rintro e w1 ⟨rfl, b1⟩
    have HB1 : Hid (Below w.heap.size w w1) := B.out.trans (b1.mono (by simp))
    have A1 := A0.out.still b1 (by simp)
    have HA1 : Hid (AskAt w1 w.heap.size k i t c s sd q p al st en ra sh (.slice a n cap)) := A1
    obtain ⟨d0, d1, d2, d3, d4, d5, d6, d7, d8, d9, d10, d11, d12, d13⟩ := A1
    clear b1
    go_wp2_with fail
    refine (FT _).mono ?_
    rintro e w2 ⟨rfl, b2⟩
    have HB2 : Hid (Below w.heap.size w w2) := HB1.out.trans (b2.mono HB1.out.size)
    have A2 := HA1.out.still b2 HA1.out.lt
    clear d0 d1 d2 d3 d4 d5 d6 d7 d8 d9 d10 d11 d12 d13
    have HA2 : Hid (AskAt w2 w.heap.size k i t c s sd q p al st en ra sh (.slice a n cap)) := A2
    obtain ⟨d0, d1, d2, d3, d4, d5, d6, d7, d8, d9, d10, d11, d12, d13⟩ := A2
    clear b2
    go_wp2_with fail
    refine (FH _).mono ?_
    rintro e w3 ⟨rfl, b3⟩
    have HB3 : Hid (Below w.heap.size w w3) := HB2.out.trans (b3.mono HB2.out.size)
    have A3 := HA2.out.still b3 HA2.out.lt
    clear d0 d1 d2 d3 d4 d5 d6 d7 d8 d9 d10 d11 d12 d13
    have HA3 : Hid (AskAt w3 w.heap.size k i t c s sd q p al st en ra sh (.slice a n cap)) := A3
    obtain ⟨d0, d1, d2, d3, d4, d5, d6, d7, d8, d9, d10, d11, d12, d13⟩ := A3
    clear b3
    go_wp2_with fail
    refine (FNO _).mono ?_
    rintro e w4 ⟨rfl, b4⟩
    have HB4 : Hid (Below w.heap.size w w4) := HB3.out.trans (b4.mono HB3.out.size)
    have A4 := HA3.out.still b4 HA3.out.lt
    clear d0 d1 d2 d3 d4 d5 d6 d7 d8 d9 d10 d11 d12 d13
    have HA4 : Hid (AskAt w4 w.heap.size k i t c s sd q p al st en ra sh (.slice a n cap)) := A4
    obtain ⟨d0, d1, d2, d3, d4, d5, d6, d7, d8, d9, d10, d11, d12, d13⟩ := A4
    clear b4
    go_wp2_with fail
    go_ret
    exact ⟨rfl, HB4.out⟩
  have g3 : (k == 3) = false := beq_false_of_ne e3
  by_cases e2 : k = 2
  · have AB : rightB k i t c s sd q p al st en ra sh n cb = (vldB t && (noChgB q p en && noOrdB c s sd al st n ra sh)) := by unfold rightB; rw [hi, if_neg e1, if_neg e3, if_pos (by simp [e2])]; rfl
    have g2 : (k == 2) = true := beq_iff_eq.2 e2
    clear e2 hi
    cases h0 : vldB t
    case false =>
      rw [AB, show (vldB t && (noChgB q p en && noOrdB c s sd al st n ra sh)) = false by simp [h0]]
      clear AB
      rw [h0] at FT
      go_enter Tryz.func18, Tryz.ntmps18
      go_wp2_with fail
      refine (FI _).mono ?_
      rintro e w1 ⟨rfl, b1⟩
      have HB1 : Hid (Below w.heap.size w w1) := B.out.trans (b1.mono (by simp))
      have A1 := A0.out.still b1 (by simp)
      have HA1 : Hid (AskAt w1 w.heap.size k i t c s sd q p al st en ra sh (.slice a n cap)) := A1
      obtain ⟨d0, d1, d2, d3, d4, d5, d6, d7, d8, d9, d10, d11, d12, d13⟩ := A1
      clear b1
      go_wp2_with fail
      refine (FT _).mono ?_
      rintro e w2 ⟨rfl, b2⟩
      have HB2 : Hid (Below w.heap.size w w2) := HB1.out.trans (b2.mono HB1.out.size)
      have A2 := HA1.out.still b2 HA1.out.lt
      clear d0 d1 d2 d3 d4 d5 d6 d7 d8 d9 d10 d11 d12 d13
      have HA2 : Hid (AskAt w2 w.heap.size k i t c s sd q p al st en ra sh (.slice a n cap)) := A2
      obtain ⟨d0, d1, d2, d3, d4, d5, d6, d7, d8, d9, d10, d11, d12, d13⟩ := A2
      clear b2
      go_wp2_with fail
      go_ret
      exact ⟨rfl, HB2.out⟩
    cases h1 : noChgB q p en
    case false =>
      rw [AB, show (vldB t && (noChgB q p en && noOrdB c s sd al st n ra sh)) = false by simp [h1]]
      clear AB
      rw [h0] at FT
      rw [h1] at FNC
      go_enter Tryz.func18, Tryz.ntmps18
      go_wp2_with fail
      refine (FI _).mono ?_
      rintro e w1 ⟨rfl, b1⟩
      have HB1 : Hid (Below w.heap.size w w1) := B.out.trans (b1.mono (by simp))
      have A1 := A0.out.still b1 (by simp)
      have HA1 : Hid (AskAt w1 w.heap.size k i t c s sd q p al st en ra sh (.slice a n cap)) := A1
      obtain ⟨d0, d1, d2, d3, d4, d5, d6, d7, d8, d9, d10, d11, d12, d13⟩ := A1
      clear b1
      go_wp2_with fail
      refine (FT _).mono ?_
      rintro e w2 ⟨rfl, b2⟩
      have HB2 : Hid (Below w.heap.size w w2) := HB1.out.trans (b2.mono HB1.out.size)
      have A2 := HA1.out.still b2 HA1.out.lt
      clear d0 d1 d2 d3 d4 d5 d6 d7 d8 d9 d10 d11 d12 d13
      have HA2 : Hid (AskAt w2 w.heap.size k i t c s sd q p al st en ra sh (.slice a n cap)) := A2
      obtain ⟨d0, d1, d2, d3, d4, d5, d6, d7, d8, d9, d10, d11, d12, d13⟩ := A2
      clear b2
      go_wp2_with fail
      refine (FNC _).mono ?_
      rintro e w3 ⟨rfl, b3⟩
      have HB3 : Hid (Below w.heap.size w w3) := HB2.out.trans (b3.mono HB2.out.size)
      have A3 := HA2.out.still b3 HA2.out.lt
      clear d0 d1 d2 d3 d4 d5 d6 d7 d8 d9 d10 d11 d12 d13
      have HA3 : Hid (AskAt w3 w.heap.size k i t c s sd q p al st en ra sh (.slice a n cap)) := A3
      obtain ⟨d0, d1, d2, d3, d4, d5, d6, d7, d8, d9, d10, d11, d12, d13⟩ := A3
      clear b3
      go_wp2_with fail
      go_ret
      exact ⟨rfl, HB3.out⟩
    rw [AB, show (vldB t && (noChgB q p en && noOrdB c s sd al st n ra sh)) = (noOrdB c s sd al st n ra sh) by simp [h0, h1]]
    clear AB
    rw [h0] at FT
    rw [h1] at FNC
    go_enter Tryz.func18, Tryz.ntmps18
    go_wp2_with fail
    refine (FI _).mono ?_
    rintro e w1 ⟨rfl, b1⟩
    have HB1 : Hid (Below w.heap.size w w1) := B.out.trans (b1.mono (by simp))
    have A1 := A0.out.still b1 (by simp)
    have HA1 : Hid (AskAt w1 w.heap.size k i t c s sd q p al st en ra sh (.slice a n cap)) := A1
    obtain ⟨d0, d1, d2, d3, d4, d5, d6, d7, d8, d9, d10, d11, d12, d13⟩ := A1
    clear b1
    go_wp2_with fail
    refine (FT _).mono ?_
    rintro e w2 ⟨rfl, b2⟩
    have HB2 : Hid (Below w.heap.size w w2) := HB1.out.trans (b2.mono HB1.out.size)
    have A2 := HA1.out.still b2 HA1.out.lt
    clear d0 d1 d2 d3 d4 d5 d6 d7 d8 d9 d10 d11 d12 d13
    have HA2 : Hid (AskAt w2 w.heap.size k i t c s sd q p al st en ra sh (.slice a n cap)) := A2
    obtain ⟨d0, d1, d2, d3, d4, d5, d6, d7, d8, d9, d10, d11, d12, d13⟩ := A2
    clear b2
    go_wp2_with fail
    refine (FNC _).mono ?_
    rintro e w3 ⟨rfl, b3⟩
    have HB3 : Hid (Below w.heap.size w w3) := HB2.out.trans (b3.mono HB2.out.size)
    have A3 := HA2.out.still b3 HA2.out.lt
    clear d0 d1 d2 d3 d4 d5 d6 d7 d8 d9 d10 d11 d12 d13
    have HA3 : Hid (AskAt w3 w.heap.size k i t c s sd q p al st en ra sh (.slice a n cap)) := A3
    obtain ⟨d0, d1, d2, d3, d4, d5, d6, d7, d8, d9, d10, d11, d12, d13⟩ := A3
    clear b3
    go_wp2_with fail
    refine (FNO _).mono ?_
    rintro e w4 ⟨rfl, b4⟩
    have HB4 : Hid (Below w.heap.size w w4) := HB3.out.trans (b4.mono HB3.out.size)
    have A4 := HA3.out.still b4 HA3.out.lt
    clear d0 d1 d2 d3 d4 d5 d6 d7 d8 d9 d10 d11 d12 d13
    have HA4 : Hid (AskAt w4 w.heap.size k i t c s sd q p al st en ra sh (.slice a n cap)) := A4
    obtain ⟨d0, d1, d2, d3, d4, d5, d6, d7, d8, d9, d10, d11, d12, d13⟩ := A4
    clear b4
    go_wp2_with fail
    go_ret
    exact ⟨rfl, HB4.out⟩
  have g2 : (k == 2) = false := beq_false_of_ne e2
  by_cases e4 : k = 4
  · have AB : rightB k i t c s sd q p al st en ra sh n cb = (vldB t && (noChgB q p en && noOrdB c s sd al st n ra sh)) := by unfold rightB; rw [hi, if_neg e1, if_neg e3, if_pos (by simp [e4])]; rfl
    have g4 : (k == 4) = true := beq_iff_eq.2 e4
    clear e4 hi
    cases h0 : vldB t
    case false =>
      rw [AB, show (vldB t && (noChgB q p en && noOrdB c s sd al st n ra sh)) = false by simp [h0]]
      clear AB
      rw [h0] at FT
      go_enter Tryz.func18, Tryz.ntmps18
      go_wp2_with fail
      refine (FI _).mono ?_
      rintro e w1 ⟨rfl, b1⟩
      have HB1 : Hid (Below w.heap.size w w1) := B.out.trans (b1.mono (by simp))
      have A1 := A0.out.still b1 (by simp)
      have HA1 : Hid (AskAt w1 w.heap.size k i t c s sd q p al st en ra sh (.slice a n cap)) := A1
      obtain ⟨d0, d1, d2, d3, d4, d5, d6, d7, d8, d9, d10, d11, d12, d13⟩ := A1
      clear b1
      go_wp2_with fail
      refine (FT _).mono ?_
      rintro e w2 ⟨rfl, b2⟩
      have HB2 : Hid (Below w.heap.size w w2) := HB1.out.trans (b2.mono HB1.out.size)
      have A2 := HA1.out.still b2 HA1.out.lt
      clear d0 d1 d2 d3 d4 d5 d6 d7 d8 d9 d10 d11 d12 d13
      have HA2 : Hid (AskAt w2 w.heap.size k i t c s sd q p al st en ra sh (.slice a n cap)) := A2
      obtain ⟨d0, d1, d2, d3, d4, d5, d6, d7, d8, d9, d10, d11, d12, d13⟩ := A2
      clear b2
      go_wp2_with fail
      go_ret
      exact ⟨rfl, HB2.out⟩
    cases h1 : noChgB q p en
    case false =>
      rw [AB, show (vldB t && (noChgB q p en && noOrdB c s sd al st n ra sh)) = false by simp [h1]]
      clear AB
      rw [h0] at FT
      rw [h1] at FNC
      go_enter Tryz.func18, Tryz.ntmps18
      go_wp2_with fail
      refine (FI _).mono ?_
      rintro e w1 ⟨rfl, b1⟩
      have HB1 : Hid (Below w.heap.size w w1) := B.out.trans (b1.mono (by simp))
      have A1 := A0.out.still b1 (by simp)
      have HA1 : Hid (AskAt w1 w.heap.size k i t c s sd q p al st en ra sh (.slice a n cap)) := A1
      obtain ⟨d0, d1, d2, d3, d4, d5, d6, d7, d8, d9, d10, d11, d12, d13⟩ := A1
      clear b1
      go_wp2_with fail
      refine (FT _).mono ?_
      rintro e w2 ⟨rfl, b2⟩
      have HB2 : Hid (Below w.heap.size w w2) := HB1.out.trans (b2.mono HB1.out.size)
      have A2 := HA1.out.still b2 HA1.out.lt
      clear d0 d1 d2 d3 d4 d5 d6 d7 d8 d9 d10 d11 d12 d13
      have HA2 : Hid (AskAt w2 w.heap.size k i t c s sd q p al st en ra sh (.slice a n cap)) := A2
      obtain ⟨d0, d1, d2, d3, d4, d5, d6, d7, d8, d9, d10, d11, d12, d13⟩ := A2
      clear b2
      go_wp2_with fail
      refine (FNC _).mono ?_
      rintro e w3 ⟨rfl, b3⟩
      have HB3 : Hid (Below w.heap.size w w3) := HB2.out.trans (b3.mono HB2.out.size)
      have A3 := HA2.out.still b3 HA2.out.lt
      clear d0 d1 d2 d3 d4 d5 d6 d7 d8 d9 d10 d11 d12 d13
      have HA3 : Hid (AskAt w3 w.heap.size k i t c s sd q p al st en ra sh (.slice a n cap)) := A3
      obtain ⟨d0, d1, d2, d3, d4, d5, d6, d7, d8, d9, d10, d11, d12, d13⟩ := A3
      clear b3
      go_wp2_with fail
      go_ret
      exact ⟨rfl, HB3.out⟩
    rw [AB, show (vldB t && (noChgB q p en && noOrdB c s sd al st n ra sh)) = (noOrdB c s sd al st n ra sh) by simp [h0, h1]]
    clear AB
    rw [h0] at FT
    rw [h1] at FNC
    go_enter Tryz.func18, Tryz.ntmps18
    go_wp2_with fail
    refine (FI _).mono ?_
    rintro e w1 ⟨rfl, b1⟩
    have HB1 : Hid (Below w.heap.size w w1) := B.out.trans (b1.mono (by simp))
    have A1 := A0.out.still b1 (by simp)
    have HA1 : Hid (AskAt w1 w.heap.size k i t c s sd q p al st en ra sh (.slice a n cap)) := A1
    obtain ⟨d0, d1, d2, d3, d4, d5, d6, d7, d8, d9, d10, d11, d12, d13⟩ := A1
    clear b1
    go_wp2_with fail
    refine (FT _).mono ?_
    rintro e w2 ⟨rfl, b2⟩
    have HB2 : Hid (Below w.heap.size w w2) := HB1.out.trans (b2.mono HB1.out.size)
    have A2 := HA1.out.still b2 HA1.out.lt
    clear d0 d1 d2 d3 d4 d5 d6 d7 d8 d9 d10 d11 d12 d13
    have HA2 : Hid (AskAt w2 w.heap.size k i t c s sd q p al st en ra sh (.slice a n cap)) := A2
    obtain ⟨d0, d1, d2, d3, d4, d5, d6, d7, d8, d9, d10, d11, d12, d13⟩ := A2
    clear b2
    go_wp2_with fail
    refine (FNC _).mono ?_
    rintro e w3 ⟨rfl, b3⟩
    have HB3 : Hid (Below w.heap.size w w3) := HB2.out.trans (b3.mono HB2.out.size)
    have A3 := HA2.out.still b3 HA2.out.lt
    clear d0 d1 d2 d3 d4 d5 d6 d7 d8 d9 d10 d11 d12 d13
    have HA3 : Hid (AskAt w3 w.heap.size k i t c s sd q p al st en ra sh (.slice a n cap)) := A3
    obtain ⟨d0, d1, d2, d3, d4, d5, d6, d7, d8, d9, d10, d11, d12, d13⟩ := A3
    clear b3
    go_wp2_with fail
    refine (FNO _).mono ?_
    rintro e w4 ⟨rfl, b4⟩
    have HB4 : Hid (Below w.heap.size w w4) := HB3.out.trans (b4.mono HB3.out.size)
    have A4 := HA3.out.still b4 HA3.out.lt
    clear d0 d1 d2 d3 d4 d5 d6 d7 d8 d9 d10 d11 d12 d13
    have HA4 : Hid (AskAt w4 w.heap.size k i t c s sd q p al st en ra sh (.slice a n cap)) := A4
    obtain ⟨d0, d1, d2, d3, d4, d5, d6, d7, d8, d9, d10, d11, d12, d13⟩ := A4
    clear b4
    go_wp2_with fail
    go_ret
    exact ⟨rfl, HB4.out⟩
  have g4 : (k == 4) = false := beq_false_of_ne e4
  by_cases e5 : k = 5
  · have AB : rightB k i t c s sd q p al st en ra sh n cb = (vldB t && (noChgB q p en && noOrdB c s sd al st n ra sh)) := by unfold rightB; rw [hi, if_neg e1, if_neg e3, if_pos (by simp [e5])]; rfl
    have g5 : (k == 5) = true := beq_iff_eq.2 e5
    clear e5 hi
    cases h0 : vldB t
    case false =>
      rw [AB, show (vldB t && (noChgB q p en && noOrdB c s sd al st n ra sh)) = false by simp [h0]]
      clear AB
      rw [h0] at FT
      go_enter Tryz.func18, Tryz.ntmps18
      go_wp2_with fail
      refine (FI _).mono ?_
      rintro e w1 ⟨rfl, b1⟩
      have HB1 : Hid (Below w.heap.size w w1) := B.out.trans (b1.mono (by simp))
      have A1 := A0.out.still b1 (by simp)
      have HA1 : Hid (AskAt w1 w.heap.size k i t c s sd q p al st en ra sh (.slice a n cap)) := A1
      obtain ⟨d0, d1, d2, d3, d4, d5, d6, d7, d8, d9, d10, d11, d12, d13⟩ := A1
      clear b1
      go_wp2_with fail
      refine (FT _).mono ?_
      rintro e w2 ⟨rfl, b2⟩
      have HB2 : Hid (Below w.heap.size w w2) := HB1.out.trans (b2.mono HB1.out.size)
      have A2 := HA1.out.still b2 HA1.out.lt
      clear d0 d1 d2 d3 d4 d5 d6 d7 d8 d9 d10 d11 d12 d13
      have HA2 : Hid (AskAt w2 w.heap.size k i t c s sd q p al st en ra sh (.slice a n cap)) := A2
      obtain ⟨d0, d1, d2, d3, d4, d5, d6, d7, d8, d9, d10, d11, d12, d13⟩ := A2
      clear b2
      go_wp2_with fail
      go_ret
      exact ⟨rfl, HB2.out⟩
    cases h1 : noChgB q p en
    case false =>
      rw [AB, show (vldB t && (noChgB q p en && noOrdB c s sd al st n ra sh)) = false by simp [h1]]
      clear AB
      rw [h0] at FT
      rw [h1] at FNC
      go_enter Tryz.func18, Tryz.ntmps18
      go_wp2_with fail
      refine (FI _).mono ?_
      rintro e w1 ⟨rfl, b1⟩
      have HB1 : Hid (Below w.heap.size w w1) := B.out.trans (b1.mono (by simp))
      have A1 := A0.out.still b1 (by simp)
      have HA1 : Hid (AskAt w1 w.heap.size k i t c s sd q p al st en ra sh (.slice a n cap)) := A1
      obtain ⟨d0, d1, d2, d3, d4, d5, d6, d7, d8, d9, d10, d11, d12, d13⟩ := A1
      clear b1
      go_wp2_with fail
      refine (FT _).mono ?_
      rintro e w2 ⟨rfl, b2⟩
      have HB2 : Hid (Below w.heap.size w w2) := HB1.out.trans (b2.mono HB1.out.size)
      have A2 := HA1.out.still b2 HA1.out.lt
      clear d0 d1 d2 d3 d4 d5 d6 d7 d8 d9 d10 d11 d12 d13
      have HA2 : Hid (AskAt w2 w.heap.size k i t c s sd q p al st en ra sh (.slice a n cap)) := A2
      obtain ⟨d0, d1, d2, d3, d4, d5, d6, d7, d8, d9, d10, d11, d12, d13⟩ := A2
      clear b2
      go_wp2_with fail
      refine (FNC _).mono ?_
      rintro e w3 ⟨rfl, b3⟩
      have HB3 : Hid (Below w.heap.size w w3) := HB2.out.trans (b3.mono HB2.out.size)
      have A3 := HA2.out.still b3 HA2.out.lt
      clear d0 d1 d2 d3 d4 d5 d6 d7 d8 d9 d10 d11 d12 d13
      have HA3 : Hid (AskAt w3 w.heap.size k i t c s sd q p al st en ra sh (.slice a n cap)) := A3
      obtain ⟨d0, d1, d2, d3, d4, d5, d6, d7, d8, d9, d10, d11, d12, d13⟩ := A3
      clear b3
      go_wp2_with fail
      go_ret
      exact ⟨rfl, HB3.out⟩
    rw [AB, show (vldB t && (noChgB q p en && noOrdB c s sd al st n ra sh)) = (noOrdB c s sd al st n ra sh) by simp [h0, h1]]
    clear AB
    rw [h0] at FT
    rw [h1] at FNC
    go_enter Tryz.func18, Tryz.ntmps18
    go_wp2_with fail
    refine (FI _).mono ?_
    rintro e w1 ⟨rfl, b1⟩
    have HB1 : Hid (Below w.heap.size w w1) := B.out.trans (b1.mono (by simp))
    have A1 := A0.out.still b1 (by simp)
    have HA1 : Hid (AskAt w1 w.heap.size k i t c s sd q p al st en ra sh (.slice a n cap)) := A1
    obtain ⟨d0, d1, d2, d3, d4, d5, d6, d7, d8, d9, d10, d11, d12, d13⟩ := A1
    clear b1
    go_wp2_with fail
    refine (FT _).mono ?_
    rintro e w2 ⟨rfl, b2⟩
    have HB2 : Hid (Below w.heap.size w w2) := HB1.out.trans (b2.mono HB1.out.size)
    have A2 := HA1.out.still b2 HA1.out.lt
    clear d0 d1 d2 d3 d4 d5 d6 d7 d8 d9 d10 d11 d12 d13
    have HA2 : Hid (AskAt w2 w.heap.size k i t c s sd q p al st en ra sh (.slice a n cap)) := A2
    obtain ⟨d0, d1, d2, d3, d4, d5, d6, d7, d8, d9, d10, d11, d12, d13⟩ := A2
    clear b2
    go_wp2_with fail
    refine (FNC _).mono ?_
    rintro e w3 ⟨rfl, b3⟩
    have HB3 : Hid (Below w.heap.size w w3) := HB2.out.trans (b3.mono HB2.out.size)
    have A3 := HA2.out.still b3 HA2.out.lt
    clear d0 d1 d2 d3 d4 d5 d6 d7 d8 d9 d10 d11 d12 d13
    have HA3 : Hid (AskAt w3 w.heap.size k i t c s sd q p al st en ra sh (.slice a n cap)) := A3
    obtain ⟨d0, d1, d2, d3, d4, d5, d6, d7, d8, d9, d10, d11, d12, d13⟩ := A3
    clear b3
    go_wp2_with fail
    refine (FNO _).mono ?_
    rintro e w4 ⟨rfl, b4⟩
    have HB4 : Hid (Below w.heap.size w w4) := HB3.out.trans (b4.mono HB3.out.size)
    have A4 := HA3.out.still b4 HA3.out.lt
    clear d0 d1 d2 d3 d4 d5 d6 d7 d8 d9 d10 d11 d12 d13
    have HA4 : Hid (AskAt w4 w.heap.size k i t c s sd q p al st en ra sh (.slice a n cap)) := A4
    obtain ⟨d0, d1, d2, d3, d4, d5, d6, d7, d8, d9, d10, d11, d12, d13⟩ := A4
    clear b4
    go_wp2_with fail
    go_ret
    exact ⟨rfl, HB4.out⟩
  have g5 : (k == 5) = false := beq_false_of_ne e5
  rw [show rightB k i t c s sd q p al st en ra sh n cb = false by unfold rightB; rw [if_neg e1, if_neg e3, if_neg (by simp [e2, e4, e5])]; simp]
  clear e1 e2 e3 e4 e5
  go_enter Tryz.func18, Tryz.ntmps18
  go_wp2_with fail
  refine (FI _).mono ?_
  rintro e w1 ⟨rfl, b1⟩
  have HB1 : Hid (Below w.heap.size w w1) := B.out.trans (b1.mono (by simp))
  have A1 := A0.out.still b1 (by simp)
  have HA1 : Hid (AskAt w1 w.heap.size k i t c s sd q p al st en ra sh (.slice a n cap)) := A1
  obtain ⟨d0, d1, d2, d3, d4, d5, d6, d7, d8, d9, d10, d11, d12, d13⟩ := A1
  clear b1
  go_wp2_with fail
  go_ret
  exact ⟨rfl, HB1.out⟩
theorem right_any (k : Int) (i t c s : ByteArray) (sd q p al st en ra sh : Int) (a : Option Addr) (cap : Nat) (cz : List Int) (w : World) (h : Row w (.slice a cz.length cap) cz.length fun i => .int .i64 (cz.getD i 0)) :
    Calls Tryz.prog 18 #[.agg #[.int .i64 k, .string i, .string t, .string c, .string s, .int .i64 sd, .int .i64 q, .int .i64 p, .int .i64 al, .int .i64 st, .int .i64 en, .int .i64 ra, .int .i64 sh, .slice a cz.length cap]] w fun e w' => e = .returned (.bool (rightB k i t c s sd q p al st en ra sh cz.length (curB cz))) ∧ Below w.heap.size w w' :=
  right_at k i t c s sd q p al st en ra sh a cz.length cap (curB cz) w (fun w1 b => rightAlgo_any k i t c s sd q p al st en ra sh a cap cz w1 (h.below b))
end Go.Proofs.YtdacfnodihannaaGreat
