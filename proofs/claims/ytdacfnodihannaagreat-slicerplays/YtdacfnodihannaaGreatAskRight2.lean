/-
  Contracts of ask's rightAlgo, rightOrder and Right: whether an ask is right, whatever it holds.
-/
import Derived.Test.YtdacfnodihannaaGreatAskRight
import Derived.Test.YtdacfnodihannaaGreatRunes
import Derived.Test.YtdacfnodihannaaGreatKU
namespace Go.Proofs.YtdacfnodihannaaGreat
open Go.ChangeShapes Go.WideShapes Go.ChangeAt Go.RowKit Go.Lib

/-- What all algorithms of a new order want is right. -/
def ordB (c s : ByteArray) (sd q p st en : Int) : Bool := vldB c && (vldB s && (inB sd 1 2 && (chgB q p en && (inB st 0 1099511627776 && inB (en - st) 1 1073741824))))
set_option maxHeartbeats 4000000 in
theorem rightOrder_any (k : Int) (i t c s : ByteArray) (sd q p al st en ra sh : Int) (cv : Value) (w : World) :
    Calls Tryz.prog 35 #[.agg #[.int .i64 k, .string i, .string t, .string c, .string s, .int .i64 sd, .int .i64 q, .int .i64 p, .int .i64 al, .int .i64 st, .int .i64 en, .int .i64 ra, .int .i64 sh, cv]] w fun e w' => e = .returned (.bool (ordB c s sd q p st en)) ∧ Below w.heap.size w w' := by
  have B : Hid (Below w.heap.size w (boxA w k i t c s sd q p al st en ra sh cv)) := boxA_below w k i t c s sd q p al st en ra sh cv
  have A0 : Hid (AskAt (boxA w k i t c s sd q p al st en ra sh cv) w.heap.size k i t c s sd q p al st en ra sh cv) := AskAt.box w k i t c s sd q p al st en ra sh cv
  have F0 := fun w => valid_any c w
  have F1 := fun w => valid_any s w
  have F2 := fun w => askWithin_any sd 1 2 w
  have F3 := fun w => rightChange_any k i t c s sd q p al st en ra sh cv w
  have F4 := fun w => askWithin_any st 0 1099511627776 w
  cases h0 : vldB c
  case false =>
    rw [show ordB c s sd q p st en = false by unfold ordB; simp [h0]]
    rw [h0] at F0
    clear h0 F1 F2 F3 F4
    go_enter Tryz.func35, Tryz.ntmps35
    go_wp2_with fail
    refine (F0 _).mono ?_
    rintro e w1 ⟨rfl, b1⟩
    have HB1 : Hid (Below w.heap.size w w1) := B.out.trans (b1.mono (by simp))
    have A1 := A0.out.still b1 (by simp)
    have HA1 : Hid (AskAt w1 w.heap.size k i t c s sd q p al st en ra sh cv) := A1
    obtain ⟨d0, d1, d2, d3, d4, d5, d6, d7, d8, d9, d10, d11, d12, d13⟩ := A1
    clear b1
    go_wp2_with fail
    go_ret
    exact ⟨rfl, HB1.out⟩
  cases h1 : vldB s
  case false =>
    rw [show ordB c s sd q p st en = false by unfold ordB; simp [h1]]
    rw [h0] at F0
    rw [h1] at F1
    clear h0 h1 F2 F3 F4
    go_enter Tryz.func35, Tryz.ntmps35
    go_wp2_with fail
    refine (F0 _).mono ?_
    rintro e w1 ⟨rfl, b1⟩
    have HB1 : Hid (Below w.heap.size w w1) := B.out.trans (b1.mono (by simp))
    have A1 := A0.out.still b1 (by simp)
    have HA1 : Hid (AskAt w1 w.heap.size k i t c s sd q p al st en ra sh cv) := A1
    obtain ⟨d0, d1, d2, d3, d4, d5, d6, d7, d8, d9, d10, d11, d12, d13⟩ := A1
    clear b1
    go_wp2_with fail
    refine (F1 _).mono ?_
    rintro e w2 ⟨rfl, b2⟩
    have HB2 : Hid (Below w.heap.size w w2) := HB1.out.trans (b2.mono HB1.out.size)
    have A2 := HA1.out.still b2 HA1.out.lt
    clear d0 d1 d2 d3 d4 d5 d6 d7 d8 d9 d10 d11 d12 d13
    have HA2 : Hid (AskAt w2 w.heap.size k i t c s sd q p al st en ra sh cv) := A2
    obtain ⟨d0, d1, d2, d3, d4, d5, d6, d7, d8, d9, d10, d11, d12, d13⟩ := A2
    clear b2
    go_wp2_with fail
    go_ret
    exact ⟨rfl, HB2.out⟩
  cases h2 : inB sd 1 2
  case false =>
    rw [show ordB c s sd q p st en = false by unfold ordB; simp [h2]]
    rw [h0] at F0
    rw [h1] at F1
    rw [h2] at F2
    clear h0 h1 h2 F3 F4
    go_enter Tryz.func35, Tryz.ntmps35
    go_wp2_with fail
    refine (F0 _).mono ?_
    rintro e w1 ⟨rfl, b1⟩
    have HB1 : Hid (Below w.heap.size w w1) := B.out.trans (b1.mono (by simp))
    have A1 := A0.out.still b1 (by simp)
    have HA1 : Hid (AskAt w1 w.heap.size k i t c s sd q p al st en ra sh cv) := A1
    obtain ⟨d0, d1, d2, d3, d4, d5, d6, d7, d8, d9, d10, d11, d12, d13⟩ := A1
    clear b1
    go_wp2_with fail
    refine (F1 _).mono ?_
    rintro e w2 ⟨rfl, b2⟩
    have HB2 : Hid (Below w.heap.size w w2) := HB1.out.trans (b2.mono HB1.out.size)
    have A2 := HA1.out.still b2 HA1.out.lt
    clear d0 d1 d2 d3 d4 d5 d6 d7 d8 d9 d10 d11 d12 d13
    have HA2 : Hid (AskAt w2 w.heap.size k i t c s sd q p al st en ra sh cv) := A2
    obtain ⟨d0, d1, d2, d3, d4, d5, d6, d7, d8, d9, d10, d11, d12, d13⟩ := A2
    clear b2
    go_wp2_with fail
    refine (F2 _).mono ?_
    rintro e w' ⟨rfl, rfl⟩
    go_wp2_with fail
    go_ret
    exact ⟨rfl, HB2.out⟩
  cases h3 : chgB q p en
  case false =>
    rw [show ordB c s sd q p st en = false by unfold ordB; simp [h3]]
    rw [h0] at F0
    rw [h1] at F1
    rw [h2] at F2
    rw [h3] at F3
    clear h0 h1 h2 h3 F4
    go_enter Tryz.func35, Tryz.ntmps35
    go_wp2_with fail
    refine (F0 _).mono ?_
    rintro e w1 ⟨rfl, b1⟩
    have HB1 : Hid (Below w.heap.size w w1) := B.out.trans (b1.mono (by simp))
    have A1 := A0.out.still b1 (by simp)
    have HA1 : Hid (AskAt w1 w.heap.size k i t c s sd q p al st en ra sh cv) := A1
    obtain ⟨d0, d1, d2, d3, d4, d5, d6, d7, d8, d9, d10, d11, d12, d13⟩ := A1
    clear b1
    go_wp2_with fail
    refine (F1 _).mono ?_
    rintro e w2 ⟨rfl, b2⟩
    have HB2 : Hid (Below w.heap.size w w2) := HB1.out.trans (b2.mono HB1.out.size)
    have A2 := HA1.out.still b2 HA1.out.lt
    clear d0 d1 d2 d3 d4 d5 d6 d7 d8 d9 d10 d11 d12 d13
    have HA2 : Hid (AskAt w2 w.heap.size k i t c s sd q p al st en ra sh cv) := A2
    obtain ⟨d0, d1, d2, d3, d4, d5, d6, d7, d8, d9, d10, d11, d12, d13⟩ := A2
    clear b2
    go_wp2_with fail
    refine (F2 _).mono ?_
    rintro e w' ⟨rfl, rfl⟩
    go_wp2_with fail
    refine (F3 _).mono ?_
    rintro e w3 ⟨rfl, b3⟩
    have HB3 : Hid (Below w.heap.size w w3) := HB2.out.trans (b3.mono HB2.out.size)
    have A3 := HA2.out.still b3 HA2.out.lt
    clear d0 d1 d2 d3 d4 d5 d6 d7 d8 d9 d10 d11 d12 d13
    have HA3 : Hid (AskAt w3 w.heap.size k i t c s sd q p al st en ra sh cv) := A3
    obtain ⟨d0, d1, d2, d3, d4, d5, d6, d7, d8, d9, d10, d11, d12, d13⟩ := A3
    clear b3
    go_wp2_with fail
    go_ret
    exact ⟨rfl, HB3.out⟩
  cases h4 : inB st 0 1099511627776
  case false =>
    rw [show ordB c s sd q p st en = false by unfold ordB; simp [h4]]
    rw [h0] at F0
    rw [h1] at F1
    rw [h2] at F2
    rw [h3] at F3
    rw [h4] at F4
    clear h0 h1 h2 h3 h4
    go_enter Tryz.func35, Tryz.ntmps35
    go_wp2_with fail
    refine (F0 _).mono ?_
    rintro e w1 ⟨rfl, b1⟩
    have HB1 : Hid (Below w.heap.size w w1) := B.out.trans (b1.mono (by simp))
    have A1 := A0.out.still b1 (by simp)
    have HA1 : Hid (AskAt w1 w.heap.size k i t c s sd q p al st en ra sh cv) := A1
    obtain ⟨d0, d1, d2, d3, d4, d5, d6, d7, d8, d9, d10, d11, d12, d13⟩ := A1
    clear b1
    go_wp2_with fail
    refine (F1 _).mono ?_
    rintro e w2 ⟨rfl, b2⟩
    have HB2 : Hid (Below w.heap.size w w2) := HB1.out.trans (b2.mono HB1.out.size)
    have A2 := HA1.out.still b2 HA1.out.lt
    clear d0 d1 d2 d3 d4 d5 d6 d7 d8 d9 d10 d11 d12 d13
    have HA2 : Hid (AskAt w2 w.heap.size k i t c s sd q p al st en ra sh cv) := A2
    obtain ⟨d0, d1, d2, d3, d4, d5, d6, d7, d8, d9, d10, d11, d12, d13⟩ := A2
    clear b2
    go_wp2_with fail
    refine (F2 _).mono ?_
    rintro e w' ⟨rfl, rfl⟩
    go_wp2_with fail
    refine (F3 _).mono ?_
    rintro e w3 ⟨rfl, b3⟩
    have HB3 : Hid (Below w.heap.size w w3) := HB2.out.trans (b3.mono HB2.out.size)
    have A3 := HA2.out.still b3 HA2.out.lt
    clear d0 d1 d2 d3 d4 d5 d6 d7 d8 d9 d10 d11 d12 d13
    have HA3 : Hid (AskAt w3 w.heap.size k i t c s sd q p al st en ra sh cv) := A3
    obtain ⟨d0, d1, d2, d3, d4, d5, d6, d7, d8, d9, d10, d11, d12, d13⟩ := A3
    clear b3
    go_wp2_with fail
    refine (F4 _).mono ?_
    rintro e w' ⟨rfl, rfl⟩
    go_wp2_with fail
    go_ret
    exact ⟨rfl, HB3.out⟩
  have F5 := fun w => rightSpan_any k i t c s sd q p al st en ra sh cv w (by unfold chgB at h3; simp only [Bool.and_eq_true, inB_true] at h3; rw [inB_true] at h4; omega) (by unfold chgB at h3; simp only [Bool.and_eq_true, inB_true] at h3; rw [inB_true] at h4; omega)
  rw [show ordB c s sd q p st en = inB (en - st) 1 1073741824 by unfold ordB; simp [h0, h1, h2, h3, h4]]
  rw [h0] at F0
  rw [h1] at F1
  rw [h2] at F2
  rw [h3] at F3
  rw [h4] at F4
  clear h0 h1 h2 h3 h4
  go_enter Tryz.func35, Tryz.ntmps35
  go_wp2_with fail
  refine (F0 _).mono ?_
  rintro e w1 ⟨rfl, b1⟩
  have HB1 : Hid (Below w.heap.size w w1) := B.out.trans (b1.mono (by simp))
  have A1 := A0.out.still b1 (by simp)
  have HA1 : Hid (AskAt w1 w.heap.size k i t c s sd q p al st en ra sh cv) := A1
  obtain ⟨d0, d1, d2, d3, d4, d5, d6, d7, d8, d9, d10, d11, d12, d13⟩ := A1
  clear b1
  go_wp2_with fail
  refine (F1 _).mono ?_
  rintro e w2 ⟨rfl, b2⟩
  have HB2 : Hid (Below w.heap.size w w2) := HB1.out.trans (b2.mono HB1.out.size)
  have A2 := HA1.out.still b2 HA1.out.lt
  clear d0 d1 d2 d3 d4 d5 d6 d7 d8 d9 d10 d11 d12 d13
  have HA2 : Hid (AskAt w2 w.heap.size k i t c s sd q p al st en ra sh cv) := A2
  obtain ⟨d0, d1, d2, d3, d4, d5, d6, d7, d8, d9, d10, d11, d12, d13⟩ := A2
  clear b2
  go_wp2_with fail
  refine (F2 _).mono ?_
  rintro e w' ⟨rfl, rfl⟩
  go_wp2_with fail
  refine (F3 _).mono ?_
  rintro e w3 ⟨rfl, b3⟩
  have HB3 : Hid (Below w.heap.size w w3) := HB2.out.trans (b3.mono HB2.out.size)
  have A3 := HA2.out.still b3 HA2.out.lt
  clear d0 d1 d2 d3 d4 d5 d6 d7 d8 d9 d10 d11 d12 d13
  have HA3 : Hid (AskAt w3 w.heap.size k i t c s sd q p al st en ra sh cv) := A3
  obtain ⟨d0, d1, d2, d3, d4, d5, d6, d7, d8, d9, d10, d11, d12, d13⟩ := A3
  clear b3
  go_wp2_with fail
  refine (F4 _).mono ?_
  rintro e w' ⟨rfl, rfl⟩
  go_wp2_with fail
  refine (F5 _).mono ?_
  rintro e w4 ⟨rfl, b4⟩
  have HB4 : Hid (Below w.heap.size w w4) := HB3.out.trans (b4.mono HB3.out.size)
  have A4 := HA3.out.still b4 HA3.out.lt
  clear d0 d1 d2 d3 d4 d5 d6 d7 d8 d9 d10 d11 d12 d13
  have HA4 : Hid (AskAt w4 w.heap.size k i t c s sd q p al st en ra sh cv) := A4
  obtain ⟨d0, d1, d2, d3, d4, d5, d6, d7, d8, d9, d10, d11, d12, d13⟩ := A4
  clear b4
  go_wp2_with fail
  go_ret
  exact ⟨rfl, HB4.out⟩
/-- Numbers are a curve. -/
def curB (l : List Int) : Bool := decide (1 ≤ l.length) && (decide (l.length ≤ 64) && (l.all (fun x => decide (0 ≤ x) && decide (x ≤ 1048576)) && l.any (fun x => decide (0 < x))))
def curE (l : List Int) : Int := if curB l = true then 0 else 30
theorem sum_pos_some {l : List Int} (h : ∀ x ∈ l, 0 ≤ x) : ∀ n, n ≤ l.length → (0 < sumTo (fun i => l.getD i 0) n ↔ ∃ j, j < n ∧ 0 < l.getD j 0)
  | 0, _ => by simp [sumTo]
  | n + 1, hn => by
    have ih := sum_pos_some h n (by omega)
    have hz : ∀ i, 0 ≤ l.getD i 0 := fun i => by
      by_cases hi : i < l.length
      · rw [List.getD_eq_getElem?_getD, List.getElem?_eq_getElem hi]
        exact h _ (List.getElem_mem hi)
      · rw [List.getD_eq_getElem?_getD, List.getElem?_eq_none (by omega)]
        simp
    have h0 := sumTo_pos (fun i => l.getD i 0) hz n
    show 0 < sumTo (fun i => l.getD i 0) n + l.getD n 0 ↔ _
    have hn0 := hz n
    constructor
    · intro hs
      by_cases e : 0 < sumTo (fun i => l.getD i 0) n
      · obtain ⟨j, hj, hp⟩ := ih.1 e
        exact ⟨j, by omega, hp⟩
      · exact ⟨n, by omega, by omega⟩
    · rintro ⟨j, hj, hp⟩
      by_cases e : j = n
      · subst e; omega
      · have := ih.2 ⟨j, by omega, hp⟩
        omega
theorem getD_of {l : List Int} {i : Nat} (hi : i < l.length) : l.getD i 0 = l[i] := by simp [hi]
theorem getD_beyond {l : List Int} {i : Nat} (hi : l.length ≤ i) : l.getD i 0 = 0 := by simp [hi]
theorem curve_iff (l : List Int) : Curve (fun i => l.getD i 0) l.length ↔ curB l = true := by
  unfold curB
  simp only [Bool.and_eq_true, decide_eq_true_eq, List.all_eq_true, List.any_eq_true]
  constructor
  · rintro ⟨h1, h2, h3, h4⟩
    have all : ∀ x ∈ l, 0 ≤ x ∧ x ≤ 1048576 := fun x hx => by
      obtain ⟨j, hj, rfl⟩ := List.getElem_of_mem hx
      have := h2 j
      rw [getD_of hj] at this
      exact this
    obtain ⟨j, hj, hp⟩ := (sum_pos_some (fun x hx => (all x hx).1) l.length (Nat.le_refl _)).1 h4
    rw [getD_of hj] at hp
    exact ⟨by omega, h1, all, l[j], List.getElem_mem hj, hp⟩
  · rintro ⟨h1, h2, h3, x, hx, hp⟩
    refine ⟨h2, fun i => ?_, fun i hi => getD_beyond hi, ?_⟩
    · by_cases hi : i < l.length
      · rw [getD_of hi]
        exact h3 _ (List.getElem_mem hi)
      · rw [getD_beyond (by omega)]
        omega
    · obtain ⟨j, hj, rfl⟩ := List.getElem_of_mem hx
      exact (sum_pos_some (fun x hx => (h3 x hx).1) l.length (Nat.le_refl _)).2 ⟨j, hj, by rw [getD_of hj]; exact hp⟩
theorem check_any (l : List Int) (v : Value) (w : World) (h : Row w v l.length fun i => .int .i64 (l.getD i 0)) :
    Calls Tryz.prog 61 #[v] w fun e w' => e = .returned (.int .i64 (curE l)) ∧ Below w.heap.size w w' := by
  unfold curE
  by_cases hc : curB l = true
  · rw [if_pos hc]
    exact check_right _ l.length v w h ((curve_iff l).2 hc)
  · rw [if_neg hc]
    exact check_wrong _ l.length v w h (fun i hi => getD_beyond hi) (fun k => hc ((curve_iff l).1 k))
theorem curE_beq (l : List Int) : (curE l == 0) = curB l := by
  unfold curE
  cases h : curB l <;> simp
/-- It is an algorithm, and just what that one wants is set. -/
def algB (al ra sh : Int) (n : Nat) (cb : Bool) : Bool :=
  if al = 1 then ((n : Int) == 0) && ((ra == 0) && (sh == 0))
  else if al = 2 then cb && ((ra == 0) && (sh == 0))
  else if al = 3 then ((n : Int) == 0) && (inB ra 1 10000 && (sh == 0))
  else if al = 4 then ((n : Int) == 0) && ((ra == 0) && inB sh 1 1099511627776)
  else false
set_option maxHeartbeats 8000000 in
theorem rightAlgo_at (k : Int) (i t c s : ByteArray) (sd q p al st en ra sh : Int) (a : Option Addr) (n cap : Nat) (cb : Bool) (w : World)
    (FC0 : ∀ w1, Below w.heap.size w w1 → Calls Tryz.prog 61 #[.slice a n cap] w1 fun e w' => e = .returned (.int .i64 (if cb = true then 0 else 30)) ∧ Below w1.heap.size w1 w') :
    Calls Tryz.prog 36 #[.agg #[.int .i64 k, .string i, .string t, .string c, .string s, .int .i64 sd, .int .i64 q, .int .i64 p, .int .i64 al, .int .i64 st, .int .i64 en, .int .i64 ra, .int .i64 sh, .slice a n cap]] w fun e w' => e = .returned (.bool (algB al ra sh n cb)) ∧ Below w.heap.size w w' := by
  have B0 := boxA_below w k i t c s sd q p al st en ra sh (.slice a n cap)
  have FC := FC0 _ B0
  have B : Hid (Below w.heap.size w (boxA w k i t c s sd q p al st en ra sh (.slice a n cap))) := B0
  have A0 : Hid (AskAt (boxA w k i t c s sd q p al st en ra sh (.slice a n cap)) w.heap.size k i t c s sd q p al st en ra sh (.slice a n cap)) := AskAt.box w k i t c s sd q p al st en ra sh (.slice a n cap)
  have FR := fun w => askWithin_any ra 1 10000 w
  have FS := fun w => askWithin_any sh 1 1099511627776 w
  clear B0 FC0
  by_cases e1 : al = 1
  · have AB : ∀ x, algB al ra sh n x = (((n : Int) == 0) && ((ra == 0) && (sh == 0))) := fun x => by unfold algB; rw [if_pos e1]
    have g1 : (al == 1) = true := beq_iff_eq.2 e1
    clear e1
    cases h0 : ((n : Int) == 0)
    case false =>
      rw [AB, show (((n : Int) == 0) && ((ra == 0) && (sh == 0))) = false by simp [h0]]
      clear AB
      go_enter Tryz.func36, Tryz.ntmps36
      go_wp2_with fail
      go_ret
      exact ⟨rfl, B.out⟩
    cases h1 : (ra == 0)
    case false =>
      rw [AB, show (((n : Int) == 0) && ((ra == 0) && (sh == 0))) = false by simp [h1]]
      clear AB
      go_enter Tryz.func36, Tryz.ntmps36
      go_wp2_with fail
      go_ret
      exact ⟨rfl, B.out⟩
    cases h2 : (sh == 0)
    case false =>
      rw [AB, show (((n : Int) == 0) && ((ra == 0) && (sh == 0))) = false by simp [h2]]
      clear AB
      go_enter Tryz.func36, Tryz.ntmps36
      go_wp2_with fail
      go_ret
      exact ⟨rfl, B.out⟩
    rw [AB, show (((n : Int) == 0) && ((ra == 0) && (sh == 0))) = true by simp [h0, h1, h2]]
    clear AB
    go_enter Tryz.func36, Tryz.ntmps36
    go_wp2_with fail
    go_ret
    exact ⟨rfl, B.out⟩
  have g1 : (al == 1) = false := beq_false_of_ne e1
  by_cases e2 : al = 2
  · have AB : ∀ x, algB al ra sh n x = (x && ((ra == 0) && (sh == 0))) := fun x => by unfold algB; rw [if_neg e1, if_pos e2]
    have g2 : (al == 2) = true := beq_iff_eq.2 e2
    clear e2
    cases h0 : cb
    case false =>
      rw [AB, show (false && ((ra == 0) && (sh == 0))) = false by simp []]
      clear AB
      rw [h0] at FC
      simp only [Bool.false_eq_true, if_false] at FC
      go_enter Tryz.func36, Tryz.ntmps36
      go_wp2_with fail
      refine (FC).mono ?_
      rintro e w1 ⟨rfl, b1⟩
      have HB1 : Hid (Below w.heap.size w w1) := B.out.trans (b1.mono (by simp))
      have A1 := A0.out.still b1 (by simp)
      have HA1 : Hid (AskAt w1 w.heap.size k i t c s sd q p al st en ra sh (.slice a n cap)) := A1
      obtain ⟨d0, d1, d2, d3, d4, d5, d6, d7, d8, d9, d10, d11, d12, d13⟩ := A1
      clear b1
      go_wp2_with fail
      go_ret
      exact ⟨rfl, HB1.out⟩
    cases h1 : (ra == 0)
    case false =>
      rw [AB, show (true && ((ra == 0) && (sh == 0))) = false by simp [h1]]
      clear AB
      rw [h0] at FC
      simp only [if_true] at FC
      go_enter Tryz.func36, Tryz.ntmps36
      go_wp2_with fail
      refine (FC).mono ?_
      rintro e w1 ⟨rfl, b1⟩
      have HB1 : Hid (Below w.heap.size w w1) := B.out.trans (b1.mono (by simp))
      have A1 := A0.out.still b1 (by simp)
      have HA1 : Hid (AskAt w1 w.heap.size k i t c s sd q p al st en ra sh (.slice a n cap)) := A1
      obtain ⟨d0, d1, d2, d3, d4, d5, d6, d7, d8, d9, d10, d11, d12, d13⟩ := A1
      clear b1
      go_wp2_with fail
      go_ret
      exact ⟨rfl, HB1.out⟩
    cases h2 : (sh == 0)
    case false =>
      rw [AB, show (true && ((ra == 0) && (sh == 0))) = false by simp [h2]]
      clear AB
      rw [h0] at FC
      simp only [if_true] at FC
      go_enter Tryz.func36, Tryz.ntmps36
      go_wp2_with fail
      refine (FC).mono ?_
      rintro e w1 ⟨rfl, b1⟩
      have HB1 : Hid (Below w.heap.size w w1) := B.out.trans (b1.mono (by simp))
      have A1 := A0.out.still b1 (by simp)
      have HA1 : Hid (AskAt w1 w.heap.size k i t c s sd q p al st en ra sh (.slice a n cap)) := A1
      obtain ⟨d0, d1, d2, d3, d4, d5, d6, d7, d8, d9, d10, d11, d12, d13⟩ := A1
      clear b1
      go_wp2_with fail
      go_ret
      exact ⟨rfl, HB1.out⟩
    rw [AB, show (true && ((ra == 0) && (sh == 0))) = true by simp [h1, h2]]
    clear AB
    rw [h0] at FC
    simp only [if_true] at FC
    go_enter Tryz.func36, Tryz.ntmps36
    go_wp2_with fail
    refine (FC).mono ?_
    rintro e w1 ⟨rfl, b1⟩
    have HB1 : Hid (Below w.heap.size w w1) := B.out.trans (b1.mono (by simp))
    have A1 := A0.out.still b1 (by simp)
    have HA1 : Hid (AskAt w1 w.heap.size k i t c s sd q p al st en ra sh (.slice a n cap)) := A1
    obtain ⟨d0, d1, d2, d3, d4, d5, d6, d7, d8, d9, d10, d11, d12, d13⟩ := A1
    clear b1
    go_wp2_with fail
    go_ret
    exact ⟨rfl, HB1.out⟩
  have g2 : (al == 2) = false := beq_false_of_ne e2
  by_cases e3 : al = 3
  · have AB : ∀ x, algB al ra sh n x = (((n : Int) == 0) && (inB ra 1 10000 && (sh == 0))) := fun x => by unfold algB; rw [if_neg e1, if_neg e2, if_pos e3]
    have g3 : (al == 3) = true := beq_iff_eq.2 e3
    clear e3
    cases h0 : ((n : Int) == 0)
    case false =>
      rw [AB, show (((n : Int) == 0) && (inB ra 1 10000 && (sh == 0))) = false by simp [h0]]
      clear AB
      go_enter Tryz.func36, Tryz.ntmps36
      go_wp2_with fail
      go_ret
      exact ⟨rfl, B.out⟩
    cases h1 : inB ra 1 10000
    case false =>
      rw [AB, show (((n : Int) == 0) && (inB ra 1 10000 && (sh == 0))) = false by simp [h1]]
      clear AB
      rw [h1] at FR
      go_enter Tryz.func36, Tryz.ntmps36
      go_wp2_with fail
      refine (FR _).mono ?_
      rintro e w' ⟨rfl, rfl⟩
      go_wp2_with fail
      go_ret
      exact ⟨rfl, B.out⟩
    cases h2 : (sh == 0)
    case false =>
      rw [AB, show (((n : Int) == 0) && (inB ra 1 10000 && (sh == 0))) = false by simp [h2]]
      clear AB
      rw [h1] at FR
      go_enter Tryz.func36, Tryz.ntmps36
      go_wp2_with fail
      refine (FR _).mono ?_
      rintro e w' ⟨rfl, rfl⟩
      go_wp2_with fail
      go_ret
      exact ⟨rfl, B.out⟩
    rw [AB, show (((n : Int) == 0) && (inB ra 1 10000 && (sh == 0))) = true by simp [h0, h1, h2]]
    clear AB
    rw [h1] at FR
    go_enter Tryz.func36, Tryz.ntmps36
    go_wp2_with fail
    refine (FR _).mono ?_
    rintro e w' ⟨rfl, rfl⟩
    go_wp2_with fail
    go_ret
    exact ⟨rfl, B.out⟩
  have g3 : (al == 3) = false := beq_false_of_ne e3
  by_cases e4 : al = 4
  · have AB : ∀ x, algB al ra sh n x = (((n : Int) == 0) && ((ra == 0) && inB sh 1 1099511627776)) := fun x => by unfold algB; rw [if_neg e1, if_neg e2, if_neg e3, if_pos e4]
    have g4 : (al == 4) = true := beq_iff_eq.2 e4
    clear e4
    cases h0 : ((n : Int) == 0)
    case false =>
      rw [AB, show (((n : Int) == 0) && ((ra == 0) && inB sh 1 1099511627776)) = false by simp [h0]]
      clear AB
      go_enter Tryz.func36, Tryz.ntmps36
      go_wp2_with fail
      go_ret
      exact ⟨rfl, B.out⟩
    cases h1 : (ra == 0)
    case false =>
      rw [AB, show (((n : Int) == 0) && ((ra == 0) && inB sh 1 1099511627776)) = false by simp [h1]]
      clear AB
      go_enter Tryz.func36, Tryz.ntmps36
      go_wp2_with fail
      go_ret
      exact ⟨rfl, B.out⟩
    cases h2 : inB sh 1 1099511627776
    case false =>
      rw [AB, show (((n : Int) == 0) && ((ra == 0) && inB sh 1 1099511627776)) = false by simp [h2]]
      clear AB
      rw [h2] at FS
      go_enter Tryz.func36, Tryz.ntmps36
      go_wp2_with fail
      refine (FS _).mono ?_
      rintro e w' ⟨rfl, rfl⟩
      go_wp2_with fail
      go_ret
      exact ⟨rfl, B.out⟩
    rw [AB, show (((n : Int) == 0) && ((ra == 0) && inB sh 1 1099511627776)) = true by simp [h0, h1, h2]]
    clear AB
    rw [h2] at FS
    go_enter Tryz.func36, Tryz.ntmps36
    go_wp2_with fail
    refine (FS _).mono ?_
    rintro e w' ⟨rfl, rfl⟩
    go_wp2_with fail
    go_ret
    exact ⟨rfl, B.out⟩
  have g4 : (al == 4) = false := beq_false_of_ne e4
  rw [show algB al ra sh n cb = false by unfold algB; rw [if_neg e1, if_neg e2, if_neg e3, if_neg e4]]
  clear e1 e2 e3 e4
  go_enter Tryz.func36, Tryz.ntmps36
  go_wp2_with fail
  go_ret
  exact ⟨rfl, B.out⟩
theorem rightAlgo_any (k : Int) (i t c s : ByteArray) (sd q p al st en ra sh : Int) (a : Option Addr) (cap : Nat) (cz : List Int) (w : World) (h : Row w (.slice a cz.length cap) cz.length fun i => .int .i64 (cz.getD i 0)) :
    Calls Tryz.prog 36 #[.agg #[.int .i64 k, .string i, .string t, .string c, .string s, .int .i64 sd, .int .i64 q, .int .i64 p, .int .i64 al, .int .i64 st, .int .i64 en, .int .i64 ra, .int .i64 sh, .slice a cz.length cap]] w fun e w' => e = .returned (.bool (algB al ra sh cz.length (curB cz))) ∧ Below w.heap.size w w' :=
  rightAlgo_at k i t c s sd q p al st en ra sh a cz.length cap (curB cz) w (fun w1 b => check_any cz _ w1 (h.below b))
end Go.Proofs.YtdacfnodihannaaGreat
