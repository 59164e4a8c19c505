/-
  The contract of the reference's Right of asks: new orders.
-/
import Derived.Test.YtdacfnodihannaaGreatAskRR0
namespace Go.Proofs.YtdacfnodihannaaGreat
open Go.ChangeShapes Go.WideShapes Go.ChangeAt Go.RowKit Go.Lib
/-- The number that hangs on the algorithm. -/
def extraB (al ra sh : Int) : Bool := if al = 3 then inB ra 1 10000 else if al = 4 then inB sh 1 1099511627776 else true
set_option maxRecDepth 100000 in
set_option maxHeartbeats 16000000 in
theorem refRight_new (k : Int) (i t c s : ByteArray) (sd q p al st en ra sh : Int) (a : Option Addr) (n cap : Nat) (k' : Int) (i' t' c' s' : ByteArray) (sd' q' p' al' st' en' ra' sh' : Int) (cv' : Value) (w : World) (hk : inB k 1 5 = true) (KP : ∀ w1, Calls Tryz.prog 42 #[.agg #[.int .i64 k, .string i, .string t, .string c, .string s, .int .i64 sd, .int .i64 q, .int .i64 p, .int .i64 al, .int .i64 st, .int .i64 en, .int .i64 ra, .int .i64 sh, .slice a n cap]] w1 fun e' w' => e' = .returned (.agg #[.int .i64 k', .string i', .string t', .string c', .string s', .int .i64 sd', .int .i64 q', .int .i64 p', .int .i64 al', .int .i64 st', .int .i64 en', .int .i64 ra', .int .i64 sh', cv']) ∧ Below w1.heap.size w1 w') (SM : ∀ w1, Below w.heap.size w w1 → Calls Tryz.prog 15 #[.agg #[.int .i64 k, .string i, .string t, .string c, .string s, .int .i64 sd, .int .i64 q, .int .i64 p, .int .i64 al, .int .i64 st, .int .i64 en, .int .i64 ra, .int .i64 sh, .slice a n cap], .agg #[.int .i64 k', .string i', .string t', .string c', .string s', .int .i64 sd', .int .i64 q', .int .i64 p', .int .i64 al', .int .i64 st', .int .i64 en', .int .i64 ra', .int .i64 sh', cv']] w1 fun e' w' => e' = .returned (.bool true) ∧ Below w1.heap.size w1 w') (hi : vldB i = true) (hz : i.size ≤ 100000) (k1 : k = 1) (cz : c.size ≤ 100000) (sz : s.size ≤ 100000) (WT WE : Int) (WW : inB en 0 1099511627776 = true → inB st 0 1099511627776 = true → ∀ w1, Below w.heap.size w w1 → Calls Tryz.prog 44 #[.agg #[.int .i64 k, .string i, .string t, .string c, .string s, .int .i64 sd, .int .i64 q, .int .i64 p, .int .i64 al, .int .i64 st, .int .i64 en, .int .i64 ra, .int .i64 sh, .slice a n cap]] w1 fun e' w' => e' = .returned (.tuple #[.int .i64 WT, .int .i64 WE]) ∧ Below w1.heap.size w1 w') :
    Calls Tryz.prog 22 #[.agg #[.int .i64 k, .string i, .string t, .string c, .string s, .int .i64 sd, .int .i64 q, .int .i64 p, .int .i64 al, .int .i64 st, .int .i64 en, .int .i64 ra, .int .i64 sh, .slice a n cap]] w fun e' w' => e' = .returned (.bool (inB q 1 1099511627776 && (inB p 1 1099511627776 && (inB en 0 1099511627776 && (vldB c && (vldB s && (inB sd 1 2 && (inB al 1 4 && (inB st 0 1099511627776 && (extraB al ra sh && (WE == 0))))))))))) ∧ Below w.heap.size w w' := by
  have HB0 : Hid (Below w.heap.size w (boxR w k i t c s sd q p al st en ra sh (.slice a n cap))) := boxR_below w k i t c s sd q p al st en ra sh (.slice a n cap)
  have HT : Hid (AskAt (boxR w k i t c s sd q p al st en ra sh (.slice a n cap)) w.heap.size k i t c s sd q p al st en ra sh (.slice a n cap)) := AskAt.boxR w k i t c s sd q p al st en ra sh (.slice a n cap)
  have I0 := fun w => refIn_at hk w
  clear hk
  have VI := fun w => refValid_big i w hz
  rw [hi] at VI
  clear hi hz
  have gk1 : (k == 1) = true := beq_iff_eq.2 k1
  have gk3 : (k == 3) = false := beq_false_of_ne (by omega)
  have nk1 : (k != 1) = false := by simp [bne, gk1]
  have dk1 : decide (k = 1) = true := decide_eq_true k1
  have VC := fun w => refValid_big c w cz
  have VS := fun w => refValid_big s w sz
  clear k1 cz sz
  go_enter Tryz.func22, Tryz.ntmps22
  go_wp2_with fail
  first
    | go_region_with (first
      | (go_at_call_of 41 (Value.int .i64 5); refine (I0 _).mono ?_; rintro e' w1 ⟨rfl, rfl⟩)
      | (go_at_call 42; refine (KP _).mono ?_; rintro e' w2 ⟨rfl, b2⟩; have b2' := below_of_drew b2; have X2 : Hid (AskAt w2 w.heap.size k i t c s sd q p al st en ra sh (.slice a n cap)) := HT.out.still b2' HT.out.lt; have HB2 : Hid (Below w.heap.size w w2) := HB0.out.trans (b2'.mono HB0.out.size); obtain ⟨u0, u1, u2, u3, u4, u5, u6, u7, u8, u9, u10, u11, u12, u13⟩ := X2.out)
      | (go_at_call 15; refine (SM _ HB2.out).mono ?_; rintro e' w3 ⟨rfl, b3⟩; have X3 : Hid (AskAt w3 w.heap.size k i t c s sd q p al st en ra sh (.slice a n cap)) := X2.out.still b3 X2.out.lt; have HB3 : Hid (Below w.heap.size w w3) := HB2.out.trans (b3.mono HB2.out.size); obtain ⟨v0, v1, v2, v3, v4, v5, v6, v7, v8, v9, v10, v11, v12, v13⟩ := X3.out)
      | (go_at_call 43; refine (VI _).mono ?_; rintro e' w4 ⟨rfl, b4⟩; have X4 : Hid (AskAt w4 w.heap.size k i t c s sd q p al st en ra sh (.slice a n cap)) := X3.out.still b4 X3.out.lt; have HB4 : Hid (Below w.heap.size w w4) := HB3.out.trans (b4.mono HB3.out.size); obtain ⟨x0, x1, x2, x3, x4, x5, x6, x7, x8, x9, x10, x11, x12, x13⟩ := X4.out))
    | fail
  all_goals
    rcases Bool.eq_false_or_eq_true (inB q 1 1099511627776) with hq | hq
    rotate_left
    · skip
      have Hhq : Hid (inB q 1 1099511627776 = false) := hq
      have Jhq := fun w => refIn_at hq w
      clear hq
      go_wp2_with fail
      refine (Jhq _).mono ?_
      rintro e' qhq ⟨rfl, rfl⟩
      go_wp2_with fail
      go_ret
      exact ⟨by rw [show (inB q 1 1099511627776 && (inB p 1 1099511627776 && (inB en 0 1099511627776 && (vldB c && (vldB s && (inB sd 1 2 && (inB al 1 4 && (inB st 0 1099511627776 && (extraB al ra sh && (WE == 0)))))))))) = false by simp [Hhq.out, extraB]] <;> rfl, HB4.out⟩
    have Hhq : Hid (inB q 1 1099511627776 = true) := hq
    have Jhq := fun w => refIn_at hq w
    clear hq
    go_wp2_with fail
    refine (Jhq _).mono ?_
    rintro e' qhq ⟨rfl, rfl⟩
    rcases Bool.eq_false_or_eq_true (inB p 1 1099511627776) with hp | hp
    rotate_left
    · skip
      have Hhp : Hid (inB p 1 1099511627776 = false) := hp
      have Jhp := fun w => refIn_at hp w
      clear hp
      go_wp2_with fail
      refine (Jhp _).mono ?_
      rintro e' qhp ⟨rfl, rfl⟩
      go_wp2_with fail
      go_ret
      exact ⟨by rw [show (inB q 1 1099511627776 && (inB p 1 1099511627776 && (inB en 0 1099511627776 && (vldB c && (vldB s && (inB sd 1 2 && (inB al 1 4 && (inB st 0 1099511627776 && (extraB al ra sh && (WE == 0)))))))))) = false by simp [Hhq.out, Hhp.out, extraB]] <;> rfl, HB4.out⟩
    have Hhp : Hid (inB p 1 1099511627776 = true) := hp
    have Jhp := fun w => refIn_at hp w
    clear hp
    go_wp2_with fail
    refine (Jhp _).mono ?_
    rintro e' qhp ⟨rfl, rfl⟩
    rcases Bool.eq_false_or_eq_true (inB en 0 1099511627776) with hn | hn
    rotate_left
    · skip
      have Hhn : Hid (inB en 0 1099511627776 = false) := hn
      have Jhn := fun w => refIn_at hn w
      clear hn
      go_wp2_with fail
      refine (Jhn _).mono ?_
      rintro e' qhn ⟨rfl, rfl⟩
      go_wp2_with fail
      go_ret
      exact ⟨by rw [show (inB q 1 1099511627776 && (inB p 1 1099511627776 && (inB en 0 1099511627776 && (vldB c && (vldB s && (inB sd 1 2 && (inB al 1 4 && (inB st 0 1099511627776 && (extraB al ra sh && (WE == 0)))))))))) = false by simp [Hhq.out, Hhp.out, Hhn.out, extraB]] <;> rfl, HB4.out⟩
    have Hhn : Hid (inB en 0 1099511627776 = true) := hn
    have Jhn := fun w => refIn_at hn w
    clear hn
    go_wp2_with fail
    refine (Jhn _).mono ?_
    rintro e' qhn ⟨rfl, rfl⟩
    rcases Bool.eq_false_or_eq_true (vldB c) with hc | hc
    rotate_left
    · skip
      have Hhc : Hid (vldB c = false) := hc
      have W5 := VC
      rw [hc] at W5
      clear hc
      go_wp2_with fail
      refine (W5 _).mono ?_
      rintro e' y5 ⟨rfl, b5⟩
      have X5 : Hid (AskAt y5 w.heap.size k i t c s sd q p al st en ra sh (.slice a n cap)) := X4.out.still b5 X4.out.lt
      have HB5 : Hid (Below w.heap.size w y5) := HB4.out.trans (b5.mono HB4.out.size)
      obtain ⟨z5_0, z5_1, z5_2, z5_3, z5_4, z5_5, z5_6, z5_7, z5_8, z5_9, z5_10, z5_11, z5_12, z5_13⟩ := X5.out
      clear b5
      go_wp2_with fail
      go_ret
      exact ⟨by rw [show (inB q 1 1099511627776 && (inB p 1 1099511627776 && (inB en 0 1099511627776 && (vldB c && (vldB s && (inB sd 1 2 && (inB al 1 4 && (inB st 0 1099511627776 && (extraB al ra sh && (WE == 0)))))))))) = false by simp [Hhq.out, Hhp.out, Hhn.out, Hhc.out, extraB]] <;> rfl, HB5.out⟩
    have Hhc : Hid (vldB c = true) := hc
    have W5 := VC
    rw [hc] at W5
    clear hc
    go_wp2_with fail
    refine (W5 _).mono ?_
    rintro e' y5 ⟨rfl, b5⟩
    have X5 : Hid (AskAt y5 w.heap.size k i t c s sd q p al st en ra sh (.slice a n cap)) := X4.out.still b5 X4.out.lt
    have HB5 : Hid (Below w.heap.size w y5) := HB4.out.trans (b5.mono HB4.out.size)
    obtain ⟨z5_0, z5_1, z5_2, z5_3, z5_4, z5_5, z5_6, z5_7, z5_8, z5_9, z5_10, z5_11, z5_12, z5_13⟩ := X5.out
    clear b5
    rcases Bool.eq_false_or_eq_true (vldB s) with hs | hs
    rotate_left
    · skip
      have Hhs : Hid (vldB s = false) := hs
      have W6 := VS
      rw [hs] at W6
      clear hs
      go_wp2_with fail
      refine (W6 _).mono ?_
      rintro e' y6 ⟨rfl, b6⟩
      have X6 : Hid (AskAt y6 w.heap.size k i t c s sd q p al st en ra sh (.slice a n cap)) := X5.out.still b6 X5.out.lt
      have HB6 : Hid (Below w.heap.size w y6) := HB5.out.trans (b6.mono HB5.out.size)
      obtain ⟨z6_0, z6_1, z6_2, z6_3, z6_4, z6_5, z6_6, z6_7, z6_8, z6_9, z6_10, z6_11, z6_12, z6_13⟩ := X6.out
      clear b6
      go_wp2_with fail
      go_ret
      exact ⟨by rw [show (inB q 1 1099511627776 && (inB p 1 1099511627776 && (inB en 0 1099511627776 && (vldB c && (vldB s && (inB sd 1 2 && (inB al 1 4 && (inB st 0 1099511627776 && (extraB al ra sh && (WE == 0)))))))))) = false by simp [Hhq.out, Hhp.out, Hhn.out, Hhc.out, Hhs.out, extraB]] <;> rfl, HB6.out⟩
    have Hhs : Hid (vldB s = true) := hs
    have W6 := VS
    rw [hs] at W6
    clear hs
    go_wp2_with fail
    refine (W6 _).mono ?_
    rintro e' y6 ⟨rfl, b6⟩
    have X6 : Hid (AskAt y6 w.heap.size k i t c s sd q p al st en ra sh (.slice a n cap)) := X5.out.still b6 X5.out.lt
    have HB6 : Hid (Below w.heap.size w y6) := HB5.out.trans (b6.mono HB5.out.size)
    obtain ⟨z6_0, z6_1, z6_2, z6_3, z6_4, z6_5, z6_6, z6_7, z6_8, z6_9, z6_10, z6_11, z6_12, z6_13⟩ := X6.out
    clear b6
    rcases Bool.eq_false_or_eq_true (inB sd 1 2) with hd | hd
    rotate_left
    · skip
      have Hhd : Hid (inB sd 1 2 = false) := hd
      have Jhd := fun w => refIn_at hd w
      clear hd
      go_wp2_with fail
      refine (Jhd _).mono ?_
      rintro e' qhd ⟨rfl, rfl⟩
      go_wp2_with fail
      go_ret
      exact ⟨by rw [show (inB q 1 1099511627776 && (inB p 1 1099511627776 && (inB en 0 1099511627776 && (vldB c && (vldB s && (inB sd 1 2 && (inB al 1 4 && (inB st 0 1099511627776 && (extraB al ra sh && (WE == 0)))))))))) = false by simp [Hhq.out, Hhp.out, Hhn.out, Hhc.out, Hhs.out, Hhd.out, extraB]] <;> rfl, HB6.out⟩
    have Hhd : Hid (inB sd 1 2 = true) := hd
    have Jhd := fun w => refIn_at hd w
    clear hd
    go_wp2_with fail
    refine (Jhd _).mono ?_
    rintro e' qhd ⟨rfl, rfl⟩
    rcases Bool.eq_false_or_eq_true (inB al 1 4) with ha | ha
    rotate_left
    · skip
      have Hha : Hid (inB al 1 4 = false) := ha
      have Jha := fun w => refIn_at ha w
      clear ha
      go_wp2_with fail
      refine (Jha _).mono ?_
      rintro e' qha ⟨rfl, rfl⟩
      go_wp2_with fail
      go_ret
      exact ⟨by rw [show (inB q 1 1099511627776 && (inB p 1 1099511627776 && (inB en 0 1099511627776 && (vldB c && (vldB s && (inB sd 1 2 && (inB al 1 4 && (inB st 0 1099511627776 && (extraB al ra sh && (WE == 0)))))))))) = false by simp [Hhq.out, Hhp.out, Hhn.out, Hhc.out, Hhs.out, Hhd.out, Hha.out, extraB]] <;> rfl, HB6.out⟩
    have Hha : Hid (inB al 1 4 = true) := ha
    have Jha := fun w => refIn_at ha w
    clear ha
    go_wp2_with fail
    refine (Jha _).mono ?_
    rintro e' qha ⟨rfl, rfl⟩
    rcases Bool.eq_false_or_eq_true (inB st 0 1099511627776) with hb | hb
    rotate_left
    · skip
      have Hhb : Hid (inB st 0 1099511627776 = false) := hb
      have Jhb := fun w => refIn_at hb w
      clear hb
      go_wp2_with fail
      refine (Jhb _).mono ?_
      rintro e' qhb ⟨rfl, rfl⟩
      go_wp2_with fail
      go_ret
      exact ⟨by rw [show (inB q 1 1099511627776 && (inB p 1 1099511627776 && (inB en 0 1099511627776 && (vldB c && (vldB s && (inB sd 1 2 && (inB al 1 4 && (inB st 0 1099511627776 && (extraB al ra sh && (WE == 0)))))))))) = false by simp [Hhq.out, Hhp.out, Hhn.out, Hhc.out, Hhs.out, Hhd.out, Hha.out, Hhb.out, extraB]] <;> rfl, HB6.out⟩
    have Hhb : Hid (inB st 0 1099511627776 = true) := hb
    have Jhb := fun w => refIn_at hb w
    clear hb
    go_wp2_with fail
    refine (Jhb _).mono ?_
    rintro e' qhb ⟨rfl, rfl⟩
    by_cases e3 : al = 3
    · have g3 : (al == 3) = true := beq_iff_eq.2 e3
      have g4 : (al == 4) = false := beq_false_of_ne (by omega)
      have HE : Hid (al = 3) := e3
      clear e3
      rcases Bool.eq_false_or_eq_true (inB ra 1 10000) with hz3 | hz3
      rotate_left
      · skip
        have Hhz3 : Hid (inB ra 1 10000 = false) := hz3
        have Jhz3 := fun w => refIn_at hz3 w
        clear hz3
        go_wp2_with fail
        refine (Jhz3 _).mono ?_
        rintro e' qhz3 ⟨rfl, rfl⟩
        go_wp2_with fail
        go_ret
        exact ⟨by rw [show (inB q 1 1099511627776 && (inB p 1 1099511627776 && (inB en 0 1099511627776 && (vldB c && (vldB s && (inB sd 1 2 && (inB al 1 4 && (inB st 0 1099511627776 && (extraB al ra sh && (WE == 0)))))))))) = false by simp [Hhq.out, Hhp.out, Hhn.out, Hhc.out, Hhs.out, Hhd.out, Hhb.out, HE.out, show inB 3 1 4 = true by decide, Hhz3.out, extraB]] <;> rfl, HB6.out⟩
      have Hhz3 : Hid (inB ra 1 10000 = true) := hz3
      have Jhz3 := fun w => refIn_at hz3 w
      clear hz3
      go_wp2_with fail
      refine (Jhz3 _).mono ?_
      rintro e' qhz3 ⟨rfl, rfl⟩
      have WH := WW Hhn.out Hhb.out _ HB6.out
      go_wp2_with fail
      refine WH.mono ?_
      rintro e' y9 ⟨rfl, b9⟩
      have HB9 : Hid (Below w.heap.size w y9) := HB6.out.trans (b9.mono HB6.out.size)
      clear WH b9
      go_wp2_with fail
      go_ret
      exact ⟨by rw [show (inB q 1 1099511627776 && (inB p 1 1099511627776 && (inB en 0 1099511627776 && (vldB c && (vldB s && (inB sd 1 2 && (inB al 1 4 && (inB st 0 1099511627776 && (extraB al ra sh && (WE == 0)))))))))) = (WE == 0) by simp [Hhq.out, Hhp.out, Hhn.out, Hhc.out, Hhs.out, Hhd.out, Hhb.out, HE.out, show inB 3 1 4 = true by decide, Hhz3.out, extraB]] <;> rfl, HB9.out⟩
    by_cases e4 : al = 4
    · have g3 : (al == 3) = false := beq_false_of_ne e3
      have g4 : (al == 4) = true := beq_iff_eq.2 e4
      have HE : Hid (al = 4) := e4
      clear e3 e4
      rcases Bool.eq_false_or_eq_true (inB sh 1 1099511627776) with hz4 | hz4
      rotate_left
      · skip
        have Hhz4 : Hid (inB sh 1 1099511627776 = false) := hz4
        have Jhz4 := fun w => refIn_at hz4 w
        clear hz4
        go_wp2_with fail
        refine (Jhz4 _).mono ?_
        rintro e' qhz4 ⟨rfl, rfl⟩
        go_wp2_with fail
        go_ret
        exact ⟨by rw [show (inB q 1 1099511627776 && (inB p 1 1099511627776 && (inB en 0 1099511627776 && (vldB c && (vldB s && (inB sd 1 2 && (inB al 1 4 && (inB st 0 1099511627776 && (extraB al ra sh && (WE == 0)))))))))) = false by simp [Hhq.out, Hhp.out, Hhn.out, Hhc.out, Hhs.out, Hhd.out, Hhb.out, HE.out, show inB 4 1 4 = true by decide, Hhz4.out, extraB]] <;> rfl, HB6.out⟩
      have Hhz4 : Hid (inB sh 1 1099511627776 = true) := hz4
      have Jhz4 := fun w => refIn_at hz4 w
      clear hz4
      go_wp2_with fail
      refine (Jhz4 _).mono ?_
      rintro e' qhz4 ⟨rfl, rfl⟩
      have WH := WW Hhn.out Hhb.out _ HB6.out
      go_wp2_with fail
      refine WH.mono ?_
      rintro e' y9 ⟨rfl, b9⟩
      have HB9 : Hid (Below w.heap.size w y9) := HB6.out.trans (b9.mono HB6.out.size)
      clear WH b9
      go_wp2_with fail
      go_ret
      exact ⟨by rw [show (inB q 1 1099511627776 && (inB p 1 1099511627776 && (inB en 0 1099511627776 && (vldB c && (vldB s && (inB sd 1 2 && (inB al 1 4 && (inB st 0 1099511627776 && (extraB al ra sh && (WE == 0)))))))))) = (WE == 0) by simp [Hhq.out, Hhp.out, Hhn.out, Hhc.out, Hhs.out, Hhd.out, Hhb.out, HE.out, show inB 4 1 4 = true by decide, Hhz4.out, extraB]] <;> rfl, HB9.out⟩
    have g3 : (al == 3) = false := beq_false_of_ne e3
    have g4 : (al == 4) = false := beq_false_of_ne e4
    have H3 : Hid (¬ al = 3) := e3
    have H4 : Hid (¬ al = 4) := e4
    clear e3 e4
    have WH := WW Hhn.out Hhb.out _ HB6.out
    go_wp2_with fail
    refine WH.mono ?_
    rintro e' y9 ⟨rfl, b9⟩
    have HB9 : Hid (Below w.heap.size w y9) := HB6.out.trans (b9.mono HB6.out.size)
    clear WH b9
    go_wp2_with fail
    go_ret
    exact ⟨by rw [show (inB q 1 1099511627776 && (inB p 1 1099511627776 && (inB en 0 1099511627776 && (vldB c && (vldB s && (inB sd 1 2 && (inB al 1 4 && (inB st 0 1099511627776 && (extraB al ra sh && (WE == 0)))))))))) = (WE == 0) by simp [Hhq.out, Hhp.out, Hhn.out, Hhc.out, Hhs.out, Hhd.out, Hha.out, Hhb.out, H3.out, H4.out, extraB]] <;> rfl, HB9.out⟩
end Go.Proofs.YtdacfnodihannaaGreat
