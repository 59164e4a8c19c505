/-
  The contract of the reference's Right of asks: no name.
-/
import Derived.Test.YtepkmbpadhfbmaaGreatDoorID
namespace Go.Proofs.YtepkmbpadhfbmaaGreatDoor
open Go.ChangeShapes Go.WideShapes Go.ChangeAt Go.RowKit Go.Lib
set_option maxRecDepth 100000 in
set_option maxHeartbeats 16000000 in
theorem refRight_noid (k : Int) (i t c s : ByteArray) (sd q p al st en ra sh : Int) (a : Option Addr) (n cap : Nat) (k' : Int) (i' t' c' s' : ByteArray) (sd' q' p' al' st' en' ra' sh' : Int) (cv' : Value) (w : World) (hk : inB k 1 5 = true) (KP : ∀ w1, Calls Tryz.prog 26 #[.agg #[.int .i64 k, .string i, .string t, .string c, .string s, .int .i64 sd, .int .i64 q, .int .i64 p, .int .i64 al, .int .i64 st, .int .i64 en, .int .i64 ra, .int .i64 sh, .slice a n cap]] w1 fun e' w' => e' = .returned (.agg #[.int .i64 k', .string i', .string t', .string c', .string s', .int .i64 sd', .int .i64 q', .int .i64 p', .int .i64 al', .int .i64 st', .int .i64 en', .int .i64 ra', .int .i64 sh', cv']) ∧ Below w1.heap.size w1 w') (SM : ∀ w1, Below w.heap.size w w1 → Calls Tryz.prog 14 #[.agg #[.int .i64 k, .string i, .string t, .string c, .string s, .int .i64 sd, .int .i64 q, .int .i64 p, .int .i64 al, .int .i64 st, .int .i64 en, .int .i64 ra, .int .i64 sh, .slice a n cap], .agg #[.int .i64 k', .string i', .string t', .string c', .string s', .int .i64 sd', .int .i64 q', .int .i64 p', .int .i64 al', .int .i64 st', .int .i64 en', .int .i64 ra', .int .i64 sh', cv']] w1 fun e' w' => e' = .returned (.bool true) ∧ Below w1.heap.size w1 w') (hi : vldB i = false) (hz : i.size ≤ 100000) :
    Calls Tryz.prog 11 #[.agg #[.int .i64 k, .string i, .string t, .string c, .string s, .int .i64 sd, .int .i64 q, .int .i64 p, .int .i64 al, .int .i64 st, .int .i64 en, .int .i64 ra, .int .i64 sh, .slice a n cap]] w fun e' w' => e' = .returned (.bool (false)) ∧ Below w.heap.size w w' := by
  have HB0 : Hid (Below w.heap.size w (boxR w k i t c s sd q p al st en ra sh (.slice a n cap))) := boxR_below w k i t c s sd q p al st en ra sh (.slice a n cap)
  have HT : Hid (AskAt (boxR w k i t c s sd q p al st en ra sh (.slice a n cap)) w.heap.size k i t c s sd q p al st en ra sh (.slice a n cap)) := AskAt.boxR w k i t c s sd q p al st en ra sh (.slice a n cap)
  have I0 := fun w => refIn_at hk w
  clear hk
  have VI := fun w => refValid_big i w hz
  rw [hi] at VI
  clear hi hz
  go_enter Tryz.func11, Tryz.ntmps11
  go_wp2_with fail
  first
    | go_region_with (first
      | (go_at_call_of 25 (Value.int .i64 5); refine (I0 _).mono ?_; rintro e' w1 ⟨rfl, rfl⟩)
      | (go_at_call 26; refine (KP _).mono ?_; rintro e' w2 ⟨rfl, b2⟩; have b2' := below_of_drew b2; have X2 : Hid (AskAt w2 w.heap.size k i t c s sd q p al st en ra sh (.slice a n cap)) := HT.out.still b2' HT.out.lt; have HB2 : Hid (Below w.heap.size w w2) := HB0.out.trans (b2'.mono HB0.out.size); obtain ⟨u0, u1, u2, u3, u4, u5, u6, u7, u8, u9, u10, u11, u12, u13⟩ := X2.out)
      | (go_at_call 14; refine (SM _ HB2.out).mono ?_; rintro e' w3 ⟨rfl, b3⟩; have X3 : Hid (AskAt w3 w.heap.size k i t c s sd q p al st en ra sh (.slice a n cap)) := X2.out.still b3 X2.out.lt; have HB3 : Hid (Below w.heap.size w w3) := HB2.out.trans (b3.mono HB2.out.size); obtain ⟨v0, v1, v2, v3, v4, v5, v6, v7, v8, v9, v10, v11, v12, v13⟩ := X3.out)
      | (go_at_call 27; refine (VI _).mono ?_; rintro e' w4 ⟨rfl, b4⟩; have X4 : Hid (AskAt w4 w.heap.size k i t c s sd q p al st en ra sh (.slice a n cap)) := X3.out.still b4 X3.out.lt; have HB4 : Hid (Below w.heap.size w w4) := HB3.out.trans (b4.mono HB3.out.size); obtain ⟨x0, x1, x2, x3, x4, x5, x6, x7, x8, x9, x10, x11, x12, x13⟩ := X4.out))
    | fail
  all_goals
    go_wp2_with fail
    go_ret
    exact ⟨rfl, HB4.out⟩
end Go.Proofs.YtepkmbpadhfbmaaGreatDoor
/-
  The contract of the reference's Right of asks: the other kinds.
-/
namespace Go.Proofs.YtepkmbpadhfbmaaGreatDoor
open Go.ChangeShapes Go.WideShapes Go.ChangeAt Go.RowKit Go.Lib
set_option maxRecDepth 100000 in
set_option maxHeartbeats 16000000 in
theorem refRight_plain (k : Int) (i t c s : ByteArray) (sd q p al st en ra sh : Int) (a : Option Addr) (n cap : Nat) (k' : Int) (i' t' c' s' : ByteArray) (sd' q' p' al' st' en' ra' sh' : Int) (cv' : Value) (w : World) (hk : inB k 1 5 = true) (KP : ∀ w1, Calls Tryz.prog 26 #[.agg #[.int .i64 k, .string i, .string t, .string c, .string s, .int .i64 sd, .int .i64 q, .int .i64 p, .int .i64 al, .int .i64 st, .int .i64 en, .int .i64 ra, .int .i64 sh, .slice a n cap]] w1 fun e' w' => e' = .returned (.agg #[.int .i64 k', .string i', .string t', .string c', .string s', .int .i64 sd', .int .i64 q', .int .i64 p', .int .i64 al', .int .i64 st', .int .i64 en', .int .i64 ra', .int .i64 sh', cv']) ∧ Below w1.heap.size w1 w') (SM : ∀ w1, Below w.heap.size w w1 → Calls Tryz.prog 14 #[.agg #[.int .i64 k, .string i, .string t, .string c, .string s, .int .i64 sd, .int .i64 q, .int .i64 p, .int .i64 al, .int .i64 st, .int .i64 en, .int .i64 ra, .int .i64 sh, .slice a n cap], .agg #[.int .i64 k', .string i', .string t', .string c', .string s', .int .i64 sd', .int .i64 q', .int .i64 p', .int .i64 al', .int .i64 st', .int .i64 en', .int .i64 ra', .int .i64 sh', cv']] w1 fun e' w' => e' = .returned (.bool true) ∧ Below w1.heap.size w1 w') (hi : vldB i = true) (hz : i.size ≤ 100000) (k1 : k ≠ 1) (k3 : k ≠ 3) (tz : t.size ≤ 100000) :
    Calls Tryz.prog 11 #[.agg #[.int .i64 k, .string i, .string t, .string c, .string s, .int .i64 sd, .int .i64 q, .int .i64 p, .int .i64 al, .int .i64 st, .int .i64 en, .int .i64 ra, .int .i64 sh, .slice a n cap]] w fun e' w' => e' = .returned (.bool (vldB t)) ∧ Below w.heap.size w w' := by
  have HB0 : Hid (Below w.heap.size w (boxR w k i t c s sd q p al st en ra sh (.slice a n cap))) := boxR_below w k i t c s sd q p al st en ra sh (.slice a n cap)
  have HT : Hid (AskAt (boxR w k i t c s sd q p al st en ra sh (.slice a n cap)) w.heap.size k i t c s sd q p al st en ra sh (.slice a n cap)) := AskAt.boxR w k i t c s sd q p al st en ra sh (.slice a n cap)
  have I0 := fun w => refIn_at hk w
  clear hk
  have VI := fun w => refValid_big i w hz
  rw [hi] at VI
  clear hi hz
  have gk1 : (k == 1) = false := beq_false_of_ne k1
  have gk3 : (k == 3) = false := beq_false_of_ne k3
  have nk1 : (k != 1) = true := by simp [bne, gk1]
  have dk1 : decide (k = 1) = false := decide_eq_false k1
  have dk3 : decide (k = 3) = false := decide_eq_false k3
  have VT := fun w => refValid_big t w tz
  clear tz
  go_enter Tryz.func11, Tryz.ntmps11
  go_wp2_with fail
  first
    | go_region_with (first
      | (go_at_call_of 25 (Value.int .i64 5); refine (I0 _).mono ?_; rintro e' w1 ⟨rfl, rfl⟩)
      | (go_at_call 26; refine (KP _).mono ?_; rintro e' w2 ⟨rfl, b2⟩; have b2' := below_of_drew b2; have X2 : Hid (AskAt w2 w.heap.size k i t c s sd q p al st en ra sh (.slice a n cap)) := HT.out.still b2' HT.out.lt; have HB2 : Hid (Below w.heap.size w w2) := HB0.out.trans (b2'.mono HB0.out.size); obtain ⟨u0, u1, u2, u3, u4, u5, u6, u7, u8, u9, u10, u11, u12, u13⟩ := X2.out)
      | (go_at_call 14; refine (SM _ HB2.out).mono ?_; rintro e' w3 ⟨rfl, b3⟩; have X3 : Hid (AskAt w3 w.heap.size k i t c s sd q p al st en ra sh (.slice a n cap)) := X2.out.still b3 X2.out.lt; have HB3 : Hid (Below w.heap.size w w3) := HB2.out.trans (b3.mono HB2.out.size); obtain ⟨v0, v1, v2, v3, v4, v5, v6, v7, v8, v9, v10, v11, v12, v13⟩ := X3.out)
      | (go_at_call 27; refine (VI _).mono ?_; rintro e' w4 ⟨rfl, b4⟩; have X4 : Hid (AskAt w4 w.heap.size k i t c s sd q p al st en ra sh (.slice a n cap)) := X3.out.still b4 X3.out.lt; have HB4 : Hid (Below w.heap.size w w4) := HB3.out.trans (b4.mono HB3.out.size); obtain ⟨x0, x1, x2, x3, x4, x5, x6, x7, x8, x9, x10, x11, x12, x13⟩ := X4.out))
    | fail
  all_goals
    rcases Bool.eq_false_or_eq_true (vldB t) with ht | ht
    rotate_left
    · skip
      have Hht : Hid (vldB t = false) := ht
      have W5 := VT
      rw [ht] at W5
      clear ht
      go_wp2_with fail
      refine (W5 _).mono ?_
      rintro e' y5 ⟨rfl, b5⟩
      have X5 : Hid (AskAt y5 w.heap.size k i t c s sd q p al st en ra sh (.slice a n cap)) := X4.out.still b5 X4.out.lt
      have HB5 : Hid (Below w.heap.size w y5) := HB4.out.trans (b5.mono HB4.out.size)
      obtain ⟨z5_0, z5_1, z5_2, z5_3, z5_4, z5_5, z5_6, z5_7, z5_8, z5_9, z5_10, z5_11, z5_12, z5_13⟩ := X5.out
      clear b5
      go_wp2_with fail
      go_ret
      exact ⟨by rw [show (vldB t) = false by simp [Hht.out]] <;> rfl, HB5.out⟩
    have Hht : Hid (vldB t = true) := ht
    have W5 := VT
    rw [ht] at W5
    clear ht
    go_wp2_with fail
    refine (W5 _).mono ?_
    rintro e' y5 ⟨rfl, b5⟩
    have X5 : Hid (AskAt y5 w.heap.size k i t c s sd q p al st en ra sh (.slice a n cap)) := X4.out.still b5 X4.out.lt
    have HB5 : Hid (Below w.heap.size w y5) := HB4.out.trans (b5.mono HB4.out.size)
    obtain ⟨z5_0, z5_1, z5_2, z5_3, z5_4, z5_5, z5_6, z5_7, z5_8, z5_9, z5_10, z5_11, z5_12, z5_13⟩ := X5.out
    clear b5
    go_wp2_with fail
    go_ret
    exact ⟨by rw [show (vldB t) = true by simp [Hht.out]] <;> rfl, HB5.out⟩
end Go.Proofs.YtepkmbpadhfbmaaGreatDoor
/-
  The contract of the reference's Right of asks: amendments.
-/
namespace Go.Proofs.YtepkmbpadhfbmaaGreatDoor
open Go.ChangeShapes Go.WideShapes Go.ChangeAt Go.RowKit Go.Lib
set_option maxRecDepth 100000 in
set_option maxHeartbeats 16000000 in
theorem refRight_amend (k : Int) (i t c s : ByteArray) (sd q p al st en ra sh : Int) (a : Option Addr) (n cap : Nat) (k' : Int) (i' t' c' s' : ByteArray) (sd' q' p' al' st' en' ra' sh' : Int) (cv' : Value) (w : World) (hk : inB k 1 5 = true) (KP : ∀ w1, Calls Tryz.prog 26 #[.agg #[.int .i64 k, .string i, .string t, .string c, .string s, .int .i64 sd, .int .i64 q, .int .i64 p, .int .i64 al, .int .i64 st, .int .i64 en, .int .i64 ra, .int .i64 sh, .slice a n cap]] w1 fun e' w' => e' = .returned (.agg #[.int .i64 k', .string i', .string t', .string c', .string s', .int .i64 sd', .int .i64 q', .int .i64 p', .int .i64 al', .int .i64 st', .int .i64 en', .int .i64 ra', .int .i64 sh', cv']) ∧ Below w1.heap.size w1 w') (SM : ∀ w1, Below w.heap.size w w1 → Calls Tryz.prog 14 #[.agg #[.int .i64 k, .string i, .string t, .string c, .string s, .int .i64 sd, .int .i64 q, .int .i64 p, .int .i64 al, .int .i64 st, .int .i64 en, .int .i64 ra, .int .i64 sh, .slice a n cap], .agg #[.int .i64 k', .string i', .string t', .string c', .string s', .int .i64 sd', .int .i64 q', .int .i64 p', .int .i64 al', .int .i64 st', .int .i64 en', .int .i64 ra', .int .i64 sh', cv']] w1 fun e' w' => e' = .returned (.bool true) ∧ Below w1.heap.size w1 w') (hi : vldB i = true) (hz : i.size ≤ 100000) (k3 : k = 3) (tz : t.size ≤ 100000) :
    Calls Tryz.prog 11 #[.agg #[.int .i64 k, .string i, .string t, .string c, .string s, .int .i64 sd, .int .i64 q, .int .i64 p, .int .i64 al, .int .i64 st, .int .i64 en, .int .i64 ra, .int .i64 sh, .slice a n cap]] w fun e' w' => e' = .returned (.bool (vldB t && (inB q 1 1099511627776 && (inB p 1 1099511627776 && inB en 0 1099511627776)))) ∧ Below w.heap.size w w' := by
  have HB0 : Hid (Below w.heap.size w (boxR w k i t c s sd q p al st en ra sh (.slice a n cap))) := boxR_below w k i t c s sd q p al st en ra sh (.slice a n cap)
  have HT : Hid (AskAt (boxR w k i t c s sd q p al st en ra sh (.slice a n cap)) w.heap.size k i t c s sd q p al st en ra sh (.slice a n cap)) := AskAt.boxR w k i t c s sd q p al st en ra sh (.slice a n cap)
  have I0 := fun w => refIn_at hk w
  clear hk
  have VI := fun w => refValid_big i w hz
  rw [hi] at VI
  clear hi hz
  have k1 : k ≠ 1 := by omega
  have gk1 : (k == 1) = false := beq_false_of_ne (by omega)
  have gk3 : (k == 3) = true := beq_iff_eq.2 k3
  have nk1 : (k != 1) = true := by simp [bne, gk1]
  have dk1 : decide (k = 1) = false := decide_eq_false k1
  have dk3 : decide (k = 3) = true := decide_eq_true k3
  have VT := fun w => refValid_big t w tz
  clear k3 tz
  go_enter Tryz.func11, Tryz.ntmps11
  go_wp2_with fail
  first
    | go_region_with (first
      | (go_at_call_of 25 (Value.int .i64 5); refine (I0 _).mono ?_; rintro e' w1 ⟨rfl, rfl⟩)
      | (go_at_call 26; refine (KP _).mono ?_; rintro e' w2 ⟨rfl, b2⟩; have b2' := below_of_drew b2; have X2 : Hid (AskAt w2 w.heap.size k i t c s sd q p al st en ra sh (.slice a n cap)) := HT.out.still b2' HT.out.lt; have HB2 : Hid (Below w.heap.size w w2) := HB0.out.trans (b2'.mono HB0.out.size); obtain ⟨u0, u1, u2, u3, u4, u5, u6, u7, u8, u9, u10, u11, u12, u13⟩ := X2.out)
      | (go_at_call 14; refine (SM _ HB2.out).mono ?_; rintro e' w3 ⟨rfl, b3⟩; have X3 : Hid (AskAt w3 w.heap.size k i t c s sd q p al st en ra sh (.slice a n cap)) := X2.out.still b3 X2.out.lt; have HB3 : Hid (Below w.heap.size w w3) := HB2.out.trans (b3.mono HB2.out.size); obtain ⟨v0, v1, v2, v3, v4, v5, v6, v7, v8, v9, v10, v11, v12, v13⟩ := X3.out)
      | (go_at_call 27; refine (VI _).mono ?_; rintro e' w4 ⟨rfl, b4⟩; have X4 : Hid (AskAt w4 w.heap.size k i t c s sd q p al st en ra sh (.slice a n cap)) := X3.out.still b4 X3.out.lt; have HB4 : Hid (Below w.heap.size w w4) := HB3.out.trans (b4.mono HB3.out.size); obtain ⟨x0, x1, x2, x3, x4, x5, x6, x7, x8, x9, x10, x11, x12, x13⟩ := X4.out))
    | fail
  all_goals
    rcases Bool.eq_false_or_eq_true (vldB t) with ht | ht
    rotate_left
    · skip
      have Hht : Hid (vldB t = false) := ht
      have W5 := VT
      rw [ht] at W5
      clear ht
      go_wp2_with fail
      refine (W5 _).mono ?_
      rintro e' y5 ⟨rfl, b5⟩
      have X5 : Hid (AskAt y5 w.heap.size k i t c s sd q p al st en ra sh (.slice a n cap)) := X4.out.still b5 X4.out.lt
      have HB5 : Hid (Below w.heap.size w y5) := HB4.out.trans (b5.mono HB4.out.size)
      obtain ⟨z5_0, z5_1, z5_2, z5_3, z5_4, z5_5, z5_6, z5_7, z5_8, z5_9, z5_10, z5_11, z5_12, z5_13⟩ := X5.out
      clear b5
      go_wp2_with fail
      go_ret
      exact ⟨by rw [show (vldB t && (inB q 1 1099511627776 && (inB p 1 1099511627776 && inB en 0 1099511627776))) = false by simp [Hht.out]] <;> rfl, HB5.out⟩
    have Hht : Hid (vldB t = true) := ht
    have W5 := VT
    rw [ht] at W5
    clear ht
    go_wp2_with fail
    refine (W5 _).mono ?_
    rintro e' y5 ⟨rfl, b5⟩
    have X5 : Hid (AskAt y5 w.heap.size k i t c s sd q p al st en ra sh (.slice a n cap)) := X4.out.still b5 X4.out.lt
    have HB5 : Hid (Below w.heap.size w y5) := HB4.out.trans (b5.mono HB4.out.size)
    obtain ⟨z5_0, z5_1, z5_2, z5_3, z5_4, z5_5, z5_6, z5_7, z5_8, z5_9, z5_10, z5_11, z5_12, z5_13⟩ := X5.out
    clear b5
    rcases Bool.eq_false_or_eq_true (inB q 1 1099511627776) with hq | hq
    rotate_left
    · skip
      have Hhq : Hid (inB q 1 1099511627776 = false) := hq
      have Jhq := fun w => refIn_at hq w
      clear hq
      go_wp2_with fail
      refine (Jhq _).mono ?_
      rintro e' qhq ⟨rfl, rfl⟩
      go_wp2_with fail
      go_ret
      exact ⟨by rw [show (vldB t && (inB q 1 1099511627776 && (inB p 1 1099511627776 && inB en 0 1099511627776))) = false by simp [Hht.out, Hhq.out]] <;> rfl, HB5.out⟩
    have Hhq : Hid (inB q 1 1099511627776 = true) := hq
    have Jhq := fun w => refIn_at hq w
    clear hq
    go_wp2_with fail
    refine (Jhq _).mono ?_
    rintro e' qhq ⟨rfl, rfl⟩
    rcases Bool.eq_false_or_eq_true (inB p 1 1099511627776) with hp | hp
    rotate_left
    · skip
      have Hhp : Hid (inB p 1 1099511627776 = false) := hp
      have Jhp := fun w => refIn_at hp w
      clear hp
      go_wp2_with fail
      refine (Jhp _).mono ?_
      rintro e' qhp ⟨rfl, rfl⟩
      go_wp2_with fail
      go_ret
      exact ⟨by rw [show (vldB t && (inB q 1 1099511627776 && (inB p 1 1099511627776 && inB en 0 1099511627776))) = false by simp [Hht.out, Hhq.out, Hhp.out]] <;> rfl, HB5.out⟩
    have Hhp : Hid (inB p 1 1099511627776 = true) := hp
    have Jhp := fun w => refIn_at hp w
    clear hp
    go_wp2_with fail
    refine (Jhp _).mono ?_
    rintro e' qhp ⟨rfl, rfl⟩
    rcases Bool.eq_false_or_eq_true (inB en 0 1099511627776) with hn | hn
    rotate_left
    · skip
      have Hhn : Hid (inB en 0 1099511627776 = false) := hn
      have Jhn := fun w => refIn_at hn w
      clear hn
      go_wp2_with fail
      refine (Jhn _).mono ?_
      rintro e' qhn ⟨rfl, rfl⟩
      go_wp2_with fail
      go_ret
      exact ⟨by rw [show (vldB t && (inB q 1 1099511627776 && (inB p 1 1099511627776 && inB en 0 1099511627776))) = false by simp [Hht.out, Hhq.out, Hhp.out, Hhn.out]] <;> rfl, HB5.out⟩
    have Hhn : Hid (inB en 0 1099511627776 = true) := hn
    have Jhn := fun w => refIn_at hn w
    clear hn
    go_wp2_with fail
    refine (Jhn _).mono ?_
    rintro e' qhn ⟨rfl, rfl⟩
    go_wp2_with fail
    go_ret
    exact ⟨by rw [show (vldB t && (inB q 1 1099511627776 && (inB p 1 1099511627776 && inB en 0 1099511627776))) = true by simp [Hht.out, Hhq.out, Hhp.out, Hhn.out]] <;> rfl, HB5.out⟩
end Go.Proofs.YtepkmbpadhfbmaaGreatDoor
