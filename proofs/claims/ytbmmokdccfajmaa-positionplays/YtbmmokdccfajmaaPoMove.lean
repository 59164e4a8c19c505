/-
  Contracts of position's change (with more and with less), Fill and Bust, and of the law's move.
-/
import Derived.Test.YtbmmokdccfajmaaPoWay
namespace Go.Proofs.Ytbmmokdccfajmaa.PO
open Go.ChangeShapes Go.WideShapes Go.ChangeAt Go.RowKit Go.Lib

theorem ch_arg {b : Pk} {a s d q p : Int} (k : Bool) (h : okB b a s d q p = false) : chE b k a s d q p = 2 ∧ chB b k a s d q p = b := by
  have e : chE b k a s d q p = 2 := by unfold chE; rw [h]; rfl
  exact ⟨e, by unfold chB; rw [e]; rfl⟩
theorem ch_wide {b : Pk} {a s d q p : Int} (k : Bool) (h : okB b a s d q p = true) (h2 : 9223372036854775807 < q * p) : chE b k a s d q p = 10 ∧ chB b k a s d q p = b := by
  have e : chE b k a s d q p = 10 := by unfold chE; rw [if_pos h, if_pos h2]
  exact ⟨e, by unfold chB; rw [e]; rfl⟩
theorem ch_bad {b : Pk} {a s d q p : Int} (k : Bool) (h : okB b a s d q p = true) (h2 : ¬ 9223372036854775807 < q * p) (h3 : badB k (vQ b a s d) (vW b a s d) q (q * p) = true) : chE b k a s d q p = 10 ∧ chB b k a s d q p = b := by
  have e : chE b k a s d q p = 10 := by unfold chE; rw [if_pos h, if_neg h2, if_pos h3]
  exact ⟨e, by unfold chB; rw [e]; rfl⟩
theorem ch_yes {b : Pk} {a s d q p : Int} (k : Bool) (h : okB b a s d q p = true) (h2 : ¬ 9223372036854775807 < q * p) (h3 : badB k (vQ b a s d) (vW b a s d) q (q * p) = false) : chE b k a s d q p = 0 ∧ chB b k a s d q p = setP b a.toNat (pl s d) (nxt k (vQ b a s d) q) (nxt k (vW b a s d) (q * p)) := by
  have e : chE b k a s d q p = 0 := by unfold chE; rw [if_pos h, if_neg h2, if_neg (by rw [h3]; exact Bool.noConfusion)]
  exact ⟨e, by unfold chB; rw [if_pos e]⟩
set_option maxRecDepth 100000 in
set_option maxHeartbeats 4000000 in
theorem chM_any {w : World} {n : Nat} {b : Pk} (K : PosAt w n b) (a s d q p : Int) :
    Calls Try.prog 23 #[.pointer (some ⟨n + 1, 0, none⟩), .int .i64 a, .int .i64 s, .int .i64 d, .int .i64 q, .int .i64 p, .func (.func 24) #[] #[]] w fun e w' => e = .returned (.int .i64 (chE b false a s d q p)) ∧ PosAt w' n (chB b false a s d q p) ∧ But (rows n b.nA) w w' := by
  have F1 := made_yes K
  have F2 := has_any K a s
  have F3 := isSide_any d w
  have F4 := upTo_any q 1099511627776 w
  have F5 := upTo_any p 1099511627776 w
  have HK : Hid (PosAt w n b) := K
  cases ho : okB b a s d q p
  · rw [(ch_arg false ho).1, (ch_arg false ho).2]
    cases h1 : hasB b a s
    · rw [h1] at F2
      clear K ho
      go_enter Try.func23, Try.ntmps23
      go_wp2_with fail
      refine F1.mono ?_
      rintro e w1 ⟨rfl, rfl⟩
      go_wp2_with fail
      refine F2.mono ?_
      rintro e w2 ⟨rfl, rfl⟩
      go_wp2_with fail
      go_ret
      exact ⟨rfl, HK.out, But.refl _ _⟩
    cases h2 : isB d
    · rw [h2] at F3
      rw [h1] at F2
      clear K ho
      go_enter Try.func23, Try.ntmps23
      go_wp2_with fail
      refine F1.mono ?_
      rintro e w1 ⟨rfl, rfl⟩
      go_wp2_with fail
      refine F2.mono ?_
      rintro e w2 ⟨rfl, rfl⟩
      go_wp2_with fail
      refine F3.mono ?_
      rintro e w3 ⟨rfl, rfl⟩
      go_wp2_with fail
      go_ret
      exact ⟨rfl, HK.out, But.refl _ _⟩
    cases h3 : upB q 1099511627776
    · rw [h3] at F4
      rw [h1] at F2
      rw [h2] at F3
      clear K ho
      go_enter Try.func23, Try.ntmps23
      go_wp2_with fail
      refine F1.mono ?_
      rintro e w1 ⟨rfl, rfl⟩
      go_wp2_with fail
      refine F2.mono ?_
      rintro e w2 ⟨rfl, rfl⟩
      go_wp2_with fail
      refine F3.mono ?_
      rintro e w3 ⟨rfl, rfl⟩
      go_wp2_with fail
      refine F4.mono ?_
      rintro e w4 ⟨rfl, rfl⟩
      go_wp2_with fail
      go_ret
      exact ⟨rfl, HK.out, But.refl _ _⟩
    have h4 : upB p 1099511627776 = false := by
      have := ho
      unfold okB at this
      rw [h1, h2, h3] at this
      simpa using this
    rw [h4] at F5
    rw [h1] at F2
    rw [h2] at F3
    rw [h3] at F4
    clear K ho
    go_enter Try.func23, Try.ntmps23
    go_wp2_with fail
    refine F1.mono ?_
    rintro e w1 ⟨rfl, rfl⟩
    go_wp2_with fail
    refine F2.mono ?_
    rintro e w2 ⟨rfl, rfl⟩
    go_wp2_with fail
    refine F3.mono ?_
    rintro e w3 ⟨rfl, rfl⟩
    go_wp2_with fail
    refine F4.mono ?_
    rintro e w4 ⟨rfl, rfl⟩
    go_wp2_with fail
    refine F5.mono ?_
    rintro e w5 ⟨rfl, rfl⟩
    go_wp2_with fail
    go_ret
    exact ⟨rfl, HK.out, But.refl _ _⟩
  · obtain ⟨⟨o1, o2, o3, o4⟩, o5, ⟨o6, o7⟩, o8, o9⟩ := (ok_iff b a s d q p).1 ho
    have hh : hasB b a s = true := (has_iff b a s).2 ⟨o1, o2, o3, o4⟩
    rw [hh] at F2
    rw [(is_iff d).2 o5] at F3
    rw [(up_iff q _).2 ⟨o6, o7⟩] at F4
    rw [(up_iff p _).2 ⟨o8, o9⟩] at F5
    have m := mul_pos_le o6 o8
    have F6 := worth_any q p w
    have nb : ¬ woBad q p := by unfold woBad; omega
    rw [show woN q p = ansN (q * p) from if_neg nb, show woE q p = ansE (q * p) from if_neg nb] at F6
    by_cases hw : 9223372036854775807 < q * p
    · rw [(ch_wide false ho hw).1, (ch_wide false ho hw).2]
      rw [(ans_no hw).1, (ans_no hw).2] at F6
      clear K ho m nb hw
      go_enter Try.func23, Try.ntmps23
      go_wp2_with fail
      refine F1.mono ?_
      rintro e w1 ⟨rfl, rfl⟩
      go_wp2_with fail
      refine F2.mono ?_
      rintro e w2 ⟨rfl, rfl⟩
      go_wp2_with fail
      refine F3.mono ?_
      rintro e w3 ⟨rfl, rfl⟩
      go_wp2_with fail
      refine F4.mono ?_
      rintro e w4 ⟨rfl, rfl⟩
      go_wp2_with fail
      refine F5.mono ?_
      rintro e w5 ⟨rfl, rfl⟩
      go_wp2_with fail
      refine F6.mono ?_
      rintro e w6 ⟨rfl, hb6⟩
      go_wp2_with fail
      go_ret
      exact ⟨rfl, HK.out.below hb6, But.of_below hb6⟩
    rw [(ans_ok (show 0 ≤ q * p by omega) (by omega)).1, (ans_ok (show 0 ≤ q * p by omega) (by omega)).2] at F6
    have G := fun w => place_any d (by omega) (by omega) w
    obtain ⟨v1, v2⟩ := K.good.val hh o5
    obtain ⟨p1, p2⟩ := pl_lt hh o5
    have c0 := K.cV _ _ p1 (show pl s d < b.nS * 4 by omega)
    have c1 := K.cV _ _ p1 p2
    have a2 := K.good.a2
    have s2 := K.good.s2
    have h0 := K.cA
    have h1 := K.cR _ p1
    rw [show b.V a.toNat (pl s d) = vQ b a s d from rfl] at c0
    rw [show b.V a.toNat (pl s d + 1) = vW b a s d from rfl] at c1
    have W1 := fun w h => more_bad (vQ b a s d) (vW b a s d) q (q * p) w v1 v2 (by omega) (by omega) h
    have W2 := fun w h => more_any (vQ b a s d) (vW b a s d) q (q * p) w v1 v2 (by omega) (by omega) h
    cases hb : badB false (vQ b a s d) (vW b a s d) q (q * p)
    · rw [(ch_yes false ho hw hb).1, (ch_yes false ho hw hb).2]
      have W3 := fun w => W2 w hb
      have HP : Hid (∀ W, PosAt W n b → PosAt ((W.setCell ⟨n + 2 + a.toNat, pl s d, none⟩ (.int .i64 (nxt false (vQ b a s d) q))).setCell ⟨n + 2 + a.toNat, pl s d + 1, none⟩ (.int .i64 (nxt false (vW b a s d) (q * p)))) n (setP b a.toNat (pl s d) (nxt false (vQ b a s d) q) (nxt false (vW b a s d) (q * p)))) := fun W KW => by
        obtain ⟨n1, n2⟩ := nxt_bounds v1 v2 (show 0 ≤ q by omega) (show 0 ≤ q * p by omega) hb
        exact KW.put p1 p2 n1 n2
      obtain ⟨c, rfl⟩ := Int.eq_ofNat_of_zero_le o1
      obtain ⟨t, rfl⟩ := Int.eq_ofNat_of_zero_le o3
      obtain ⟨i, hi⟩ : ∃ i : Nat, d - 1 = (i : Int) := ⟨(d - 1).toNat, by omega⟩
      rw [hi] at G
      have t3 : (i : Int) < 2 := by omega
      have hc : c < b.nA := by omega
      rw [show pl (t : Int) d = t * 4 + i * 2 by unfold pl; omega] at c0 c1
      rw [Int.toNat_natCast] at c0 c1 h1
      rw [show pl (t : Int) d = t * 4 + i * 2 by unfold pl; omega, Int.toNat_natCast] at HP ⊢
      generalize nxt false (vQ b (c : Int) (t : Int) d) q = X at *
      generalize nxt false (vW b (c : Int) (t : Int) d) (q * p) = Y at *
      generalize vQ b (c : Int) (t : Int) d = x at *
      generalize vW b (c : Int) (t : Int) d = y at *
      generalize q * p = v at *
      clear K ho m nb hw hb W1 W2 hh
      go_enter Try.func23, Try.ntmps23
      go_wp2_with fail
      refine F1.mono ?_
      rintro e w1 ⟨rfl, rfl⟩
      go_wp2_with fail
      refine F2.mono ?_
      rintro e w2 ⟨rfl, rfl⟩
      go_wp2_with fail
      refine F3.mono ?_
      rintro e w3 ⟨rfl, rfl⟩
      go_wp2_with fail
      refine F4.mono ?_
      rintro e w4 ⟨rfl, rfl⟩
      go_wp2_with fail
      refine F5.mono ?_
      rintro e w5 ⟨rfl, rfl⟩
      go_wp2_with fail
      refine F6.mono ?_
      rintro e w6 ⟨rfl, hb6⟩
      have HB6 : Hid (Below w5.heap.size w5 w6) := hb6
      have HK6 : Hid (PosAt w6 n b) := HK.out.below hb6
      have d0 := HK6.out.cA
      have d1 := HK6.out.cR c hc
      have d2 := (hb6.cell (p := ⟨n + 2 + c, t * 4 + i * 2, none⟩) (World.block_lt_of_cell? _ _ c0)).trans c0
      have d3 := (hb6.cell (p := ⟨n + 2 + c, t * 4 + i * 2 + 1, none⟩) (World.block_lt_of_cell? _ _ c1)).trans c1
      clear hb6 h0 h1 c0 c1 F1 F2 F3 F4 F5 F6
      go_wp2_with fail
      go_quiet (first | (go_at_call 30; exact Calls.quiet_of_same ((G _).mono fun e' w' ⟨h1, h2⟩ => ⟨h1, h2⟩)))
      go_wp2_with fail
      refine (W3 _).mono ?_
      rintro e w7 ⟨rfl, hb7⟩
      have HK7 : Hid (PosAt w7 n b) := HK6.out.below (below_of_drewN hb7)
      have HB7 : Hid (Below w5.heap.size w5 w7) := HB6.out.trans ((below_of_drewN hb7).mono HB6.out.size)
      have z0 := HK7.out.th c (t * 4 + i * 2) hc
      have z1 := HK7.out.th c (t * 4 + i * 2 + 1) hc
      have e0 := HK7.out.cV c (t * 4 + i * 2) hc (by omega)
      have e1 := HK7.out.cV c (t * 4 + i * 2 + 1) hc (by omega)
      have hlt := World.block_lt_of_cell? _ _ e0
      simp only at hlt
      clear hb7 d0 d1 d2 d3
      go_wp2_with fail
      go_ret
      have HR := HP.out w7 HK7.out
      refine ⟨rfl, HR.below ?_, ?_⟩
      · exact (Below.refl _ _).alloc (Nat.le_refl _) _
      · exact (((But.of_below HB7.out).setCell (n + 2 + c) _ _ (fun _ => ⟨by omega, by omega⟩)).setCell (n + 2 + c) _ _ (fun _ => ⟨by omega, by omega⟩)).alloc _
    · rw [(ch_bad false ho hw hb).1, (ch_bad false ho hw hb).2]
      have W3 := fun w => W1 w hb
      obtain ⟨c, rfl⟩ := Int.eq_ofNat_of_zero_le o1
      obtain ⟨t, rfl⟩ := Int.eq_ofNat_of_zero_le o3
      obtain ⟨i, hi⟩ : ∃ i : Nat, d - 1 = (i : Int) := ⟨(d - 1).toNat, by omega⟩
      rw [hi] at G
      have t3 : (i : Int) < 2 := by omega
      have hc : c < b.nA := by omega
      rw [show pl (t : Int) d = t * 4 + i * 2 by unfold pl; omega] at c0 c1
      rw [Int.toNat_natCast] at c0 c1 h1
      generalize vQ b (c : Int) (t : Int) d = x at *
      generalize vW b (c : Int) (t : Int) d = y at *
      generalize q * p = v at *
      clear K ho m nb hw hb W1 W2 hh
      go_enter Try.func23, Try.ntmps23
      go_wp2_with fail
      refine F1.mono ?_
      rintro e w1 ⟨rfl, rfl⟩
      go_wp2_with fail
      refine F2.mono ?_
      rintro e w2 ⟨rfl, rfl⟩
      go_wp2_with fail
      refine F3.mono ?_
      rintro e w3 ⟨rfl, rfl⟩
      go_wp2_with fail
      refine F4.mono ?_
      rintro e w4 ⟨rfl, rfl⟩
      go_wp2_with fail
      refine F5.mono ?_
      rintro e w5 ⟨rfl, rfl⟩
      go_wp2_with fail
      refine F6.mono ?_
      rintro e w6 ⟨rfl, hb6⟩
      have HB6 : Hid (Below w5.heap.size w5 w6) := hb6
      have HK6 : Hid (PosAt w6 n b) := HK.out.below hb6
      have d0 := HK6.out.cA
      have d1 := HK6.out.cR c hc
      have d2 := (hb6.cell (p := ⟨n + 2 + c, t * 4 + i * 2, none⟩) (World.block_lt_of_cell? _ _ c0)).trans c0
      have d3 := (hb6.cell (p := ⟨n + 2 + c, t * 4 + i * 2 + 1, none⟩) (World.block_lt_of_cell? _ _ c1)).trans c1
      clear hb6 h0 h1 c0 c1 F1 F2 F3 F4 F5 F6
      go_wp2_with fail
      go_quiet (first | (go_at_call 30; exact Calls.quiet_of_same ((G _).mono fun e' w' ⟨h1, h2⟩ => ⟨h1, h2⟩)))
      go_wp2_with fail
      refine (W3 _).mono ?_
      rintro e w7 ⟨rfl, hb7⟩
      have HB7 : Hid (Below w5.heap.size w5 w7) := HB6.out.trans ((below_of_drewN hb7).mono HB6.out.size)
      clear hb7
      go_wp2_with fail
      go_ret
      have HB8 := HB7.out.alloc HB7.out.size (.cells #[.int .i64 0, .int .i64 0] 66)
      exact ⟨rfl, HK.out.below HB8, But.of_below HB8⟩
set_option maxRecDepth 100000 in
set_option maxHeartbeats 4000000 in
theorem chL_any {w : World} {n : Nat} {b : Pk} (K : PosAt w n b) (a s d q p : Int) :
    Calls Try.prog 23 #[.pointer (some ⟨n + 1, 0, none⟩), .int .i64 a, .int .i64 s, .int .i64 d, .int .i64 q, .int .i64 p, .func (.func 28) #[] #[]] w fun e w' => e = .returned (.int .i64 (chE b true a s d q p)) ∧ PosAt w' n (chB b true a s d q p) ∧ But (rows n b.nA) w w' := by
  have F1 := made_yes K
  have F2 := has_any K a s
  have F3 := isSide_any d w
  have F4 := upTo_any q 1099511627776 w
  have F5 := upTo_any p 1099511627776 w
  have HK : Hid (PosAt w n b) := K
  cases ho : okB b a s d q p
  · rw [(ch_arg true ho).1, (ch_arg true ho).2]
    cases h1 : hasB b a s
    · rw [h1] at F2
      clear K ho
      go_enter Try.func23, Try.ntmps23
      go_wp2_with fail
      refine F1.mono ?_
      rintro e w1 ⟨rfl, rfl⟩
      go_wp2_with fail
      refine F2.mono ?_
      rintro e w2 ⟨rfl, rfl⟩
      go_wp2_with fail
      go_ret
      exact ⟨rfl, HK.out, But.refl _ _⟩
    cases h2 : isB d
    · rw [h2] at F3
      rw [h1] at F2
      clear K ho
      go_enter Try.func23, Try.ntmps23
      go_wp2_with fail
      refine F1.mono ?_
      rintro e w1 ⟨rfl, rfl⟩
      go_wp2_with fail
      refine F2.mono ?_
      rintro e w2 ⟨rfl, rfl⟩
      go_wp2_with fail
      refine F3.mono ?_
      rintro e w3 ⟨rfl, rfl⟩
      go_wp2_with fail
      go_ret
      exact ⟨rfl, HK.out, But.refl _ _⟩
    cases h3 : upB q 1099511627776
    · rw [h3] at F4
      rw [h1] at F2
      rw [h2] at F3
      clear K ho
      go_enter Try.func23, Try.ntmps23
      go_wp2_with fail
      refine F1.mono ?_
      rintro e w1 ⟨rfl, rfl⟩
      go_wp2_with fail
      refine F2.mono ?_
      rintro e w2 ⟨rfl, rfl⟩
      go_wp2_with fail
      refine F3.mono ?_
      rintro e w3 ⟨rfl, rfl⟩
      go_wp2_with fail
      refine F4.mono ?_
      rintro e w4 ⟨rfl, rfl⟩
      go_wp2_with fail
      go_ret
      exact ⟨rfl, HK.out, But.refl _ _⟩
    have h4 : upB p 1099511627776 = false := by
      have := ho
      unfold okB at this
      rw [h1, h2, h3] at this
      simpa using this
    rw [h4] at F5
    rw [h1] at F2
    rw [h2] at F3
    rw [h3] at F4
    clear K ho
    go_enter Try.func23, Try.ntmps23
    go_wp2_with fail
    refine F1.mono ?_
    rintro e w1 ⟨rfl, rfl⟩
    go_wp2_with fail
    refine F2.mono ?_
    rintro e w2 ⟨rfl, rfl⟩
    go_wp2_with fail
    refine F3.mono ?_
    rintro e w3 ⟨rfl, rfl⟩
    go_wp2_with fail
    refine F4.mono ?_
    rintro e w4 ⟨rfl, rfl⟩
    go_wp2_with fail
    refine F5.mono ?_
    rintro e w5 ⟨rfl, rfl⟩
    go_wp2_with fail
    go_ret
    exact ⟨rfl, HK.out, But.refl _ _⟩
  · obtain ⟨⟨o1, o2, o3, o4⟩, o5, ⟨o6, o7⟩, o8, o9⟩ := (ok_iff b a s d q p).1 ho
    have hh : hasB b a s = true := (has_iff b a s).2 ⟨o1, o2, o3, o4⟩
    rw [hh] at F2
    rw [(is_iff d).2 o5] at F3
    rw [(up_iff q _).2 ⟨o6, o7⟩] at F4
    rw [(up_iff p _).2 ⟨o8, o9⟩] at F5
    have m := mul_pos_le o6 o8
    have F6 := worth_any q p w
    have nb : ¬ woBad q p := by unfold woBad; omega
    rw [show woN q p = ansN (q * p) from if_neg nb, show woE q p = ansE (q * p) from if_neg nb] at F6
    by_cases hw : 9223372036854775807 < q * p
    · rw [(ch_wide true ho hw).1, (ch_wide true ho hw).2]
      rw [(ans_no hw).1, (ans_no hw).2] at F6
      clear K ho m nb hw
      go_enter Try.func23, Try.ntmps23
      go_wp2_with fail
      refine F1.mono ?_
      rintro e w1 ⟨rfl, rfl⟩
      go_wp2_with fail
      refine F2.mono ?_
      rintro e w2 ⟨rfl, rfl⟩
      go_wp2_with fail
      refine F3.mono ?_
      rintro e w3 ⟨rfl, rfl⟩
      go_wp2_with fail
      refine F4.mono ?_
      rintro e w4 ⟨rfl, rfl⟩
      go_wp2_with fail
      refine F5.mono ?_
      rintro e w5 ⟨rfl, rfl⟩
      go_wp2_with fail
      refine F6.mono ?_
      rintro e w6 ⟨rfl, hb6⟩
      go_wp2_with fail
      go_ret
      exact ⟨rfl, HK.out.below hb6, But.of_below hb6⟩
    rw [(ans_ok (show 0 ≤ q * p by omega) (by omega)).1, (ans_ok (show 0 ≤ q * p by omega) (by omega)).2] at F6
    have G := fun w => place_any d (by omega) (by omega) w
    obtain ⟨v1, v2⟩ := K.good.val hh o5
    obtain ⟨p1, p2⟩ := pl_lt hh o5
    have c0 := K.cV _ _ p1 (show pl s d < b.nS * 4 by omega)
    have c1 := K.cV _ _ p1 p2
    have a2 := K.good.a2
    have s2 := K.good.s2
    have h0 := K.cA
    have h1 := K.cR _ p1
    rw [show b.V a.toNat (pl s d) = vQ b a s d from rfl] at c0
    rw [show b.V a.toNat (pl s d + 1) = vW b a s d from rfl] at c1
    have W1 := fun w h => less_bad (vQ b a s d) (vW b a s d) q (q * p) w v1 v2 (by omega) (by omega) h
    have W2 := fun w h => less_any (vQ b a s d) (vW b a s d) q (q * p) w v1 v2 (by omega) (by omega) h
    cases hb : badB true (vQ b a s d) (vW b a s d) q (q * p)
    · rw [(ch_yes true ho hw hb).1, (ch_yes true ho hw hb).2]
      have W3 := fun w => W2 w hb
      have HP : Hid (∀ W, PosAt W n b → PosAt ((W.setCell ⟨n + 2 + a.toNat, pl s d, none⟩ (.int .i64 (nxt true (vQ b a s d) q))).setCell ⟨n + 2 + a.toNat, pl s d + 1, none⟩ (.int .i64 (nxt true (vW b a s d) (q * p)))) n (setP b a.toNat (pl s d) (nxt true (vQ b a s d) q) (nxt true (vW b a s d) (q * p)))) := fun W KW => by
        obtain ⟨n1, n2⟩ := nxt_bounds v1 v2 (show 0 ≤ q by omega) (show 0 ≤ q * p by omega) hb
        exact KW.put p1 p2 n1 n2
      obtain ⟨c, rfl⟩ := Int.eq_ofNat_of_zero_le o1
      obtain ⟨t, rfl⟩ := Int.eq_ofNat_of_zero_le o3
      obtain ⟨i, hi⟩ : ∃ i : Nat, d - 1 = (i : Int) := ⟨(d - 1).toNat, by omega⟩
      rw [hi] at G
      have t3 : (i : Int) < 2 := by omega
      have hc : c < b.nA := by omega
      rw [show pl (t : Int) d = t * 4 + i * 2 by unfold pl; omega] at c0 c1
      rw [Int.toNat_natCast] at c0 c1 h1
      rw [show pl (t : Int) d = t * 4 + i * 2 by unfold pl; omega, Int.toNat_natCast] at HP ⊢
      generalize nxt true (vQ b (c : Int) (t : Int) d) q = X at *
      generalize nxt true (vW b (c : Int) (t : Int) d) (q * p) = Y at *
      generalize vQ b (c : Int) (t : Int) d = x at *
      generalize vW b (c : Int) (t : Int) d = y at *
      generalize q * p = v at *
      clear K ho m nb hw hb W1 W2 hh
      go_enter Try.func23, Try.ntmps23
      go_wp2_with fail
      refine F1.mono ?_
      rintro e w1 ⟨rfl, rfl⟩
      go_wp2_with fail
      refine F2.mono ?_
      rintro e w2 ⟨rfl, rfl⟩
      go_wp2_with fail
      refine F3.mono ?_
      rintro e w3 ⟨rfl, rfl⟩
      go_wp2_with fail
      refine F4.mono ?_
      rintro e w4 ⟨rfl, rfl⟩
      go_wp2_with fail
      refine F5.mono ?_
      rintro e w5 ⟨rfl, rfl⟩
      go_wp2_with fail
      refine F6.mono ?_
      rintro e w6 ⟨rfl, hb6⟩
      have HB6 : Hid (Below w5.heap.size w5 w6) := hb6
      have HK6 : Hid (PosAt w6 n b) := HK.out.below hb6
      have d0 := HK6.out.cA
      have d1 := HK6.out.cR c hc
      have d2 := (hb6.cell (p := ⟨n + 2 + c, t * 4 + i * 2, none⟩) (World.block_lt_of_cell? _ _ c0)).trans c0
      have d3 := (hb6.cell (p := ⟨n + 2 + c, t * 4 + i * 2 + 1, none⟩) (World.block_lt_of_cell? _ _ c1)).trans c1
      clear hb6 h0 h1 c0 c1 F1 F2 F3 F4 F5 F6
      go_wp2_with fail
      go_quiet (first | (go_at_call 30; exact Calls.quiet_of_same ((G _).mono fun e' w' ⟨h1, h2⟩ => ⟨h1, h2⟩)))
      go_wp2_with fail
      refine (W3 _).mono ?_
      rintro e w7 ⟨rfl, hb7⟩
      have HK7 : Hid (PosAt w7 n b) := HK6.out.below (below_of_drewN hb7)
      have HB7 : Hid (Below w5.heap.size w5 w7) := HB6.out.trans ((below_of_drewN hb7).mono HB6.out.size)
      have z0 := HK7.out.th c (t * 4 + i * 2) hc
      have z1 := HK7.out.th c (t * 4 + i * 2 + 1) hc
      have e0 := HK7.out.cV c (t * 4 + i * 2) hc (by omega)
      have e1 := HK7.out.cV c (t * 4 + i * 2 + 1) hc (by omega)
      have hlt := World.block_lt_of_cell? _ _ e0
      simp only at hlt
      clear hb7 d0 d1 d2 d3
      go_wp2_with fail
      go_ret
      have HR := HP.out w7 HK7.out
      refine ⟨rfl, HR.below ?_, ?_⟩
      · exact (Below.refl _ _).alloc (Nat.le_refl _) _
      · exact (((But.of_below HB7.out).setCell (n + 2 + c) _ _ (fun _ => ⟨by omega, by omega⟩)).setCell (n + 2 + c) _ _ (fun _ => ⟨by omega, by omega⟩)).alloc _
    · rw [(ch_bad true ho hw hb).1, (ch_bad true ho hw hb).2]
      have W3 := fun w => W1 w hb
      obtain ⟨c, rfl⟩ := Int.eq_ofNat_of_zero_le o1
      obtain ⟨t, rfl⟩ := Int.eq_ofNat_of_zero_le o3
      obtain ⟨i, hi⟩ : ∃ i : Nat, d - 1 = (i : Int) := ⟨(d - 1).toNat, by omega⟩
      rw [hi] at G
      have t3 : (i : Int) < 2 := by omega
      have hc : c < b.nA := by omega
      rw [show pl (t : Int) d = t * 4 + i * 2 by unfold pl; omega] at c0 c1
      rw [Int.toNat_natCast] at c0 c1 h1
      generalize vQ b (c : Int) (t : Int) d = x at *
      generalize vW b (c : Int) (t : Int) d = y at *
      generalize q * p = v at *
      clear K ho m nb hw hb W1 W2 hh
      go_enter Try.func23, Try.ntmps23
      go_wp2_with fail
      refine F1.mono ?_
      rintro e w1 ⟨rfl, rfl⟩
      go_wp2_with fail
      refine F2.mono ?_
      rintro e w2 ⟨rfl, rfl⟩
      go_wp2_with fail
      refine F3.mono ?_
      rintro e w3 ⟨rfl, rfl⟩
      go_wp2_with fail
      refine F4.mono ?_
      rintro e w4 ⟨rfl, rfl⟩
      go_wp2_with fail
      refine F5.mono ?_
      rintro e w5 ⟨rfl, rfl⟩
      go_wp2_with fail
      refine F6.mono ?_
      rintro e w6 ⟨rfl, hb6⟩
      have HB6 : Hid (Below w5.heap.size w5 w6) := hb6
      have HK6 : Hid (PosAt w6 n b) := HK.out.below hb6
      have d0 := HK6.out.cA
      have d1 := HK6.out.cR c hc
      have d2 := (hb6.cell (p := ⟨n + 2 + c, t * 4 + i * 2, none⟩) (World.block_lt_of_cell? _ _ c0)).trans c0
      have d3 := (hb6.cell (p := ⟨n + 2 + c, t * 4 + i * 2 + 1, none⟩) (World.block_lt_of_cell? _ _ c1)).trans c1
      clear hb6 h0 h1 c0 c1 F1 F2 F3 F4 F5 F6
      go_wp2_with fail
      go_quiet (first | (go_at_call 30; exact Calls.quiet_of_same ((G _).mono fun e' w' ⟨h1, h2⟩ => ⟨h1, h2⟩)))
      go_wp2_with fail
      refine (W3 _).mono ?_
      rintro e w7 ⟨rfl, hb7⟩
      have HB7 : Hid (Below w5.heap.size w5 w7) := HB6.out.trans ((below_of_drewN hb7).mono HB6.out.size)
      clear hb7
      go_wp2_with fail
      go_ret
      have HB8 := HB7.out.alloc HB7.out.size (.cells #[.int .i64 0, .int .i64 0] 66)
      exact ⟨rfl, HK.out.below HB8, But.of_below HB8⟩
theorem fill_on {w : World} {r : Value} {a s d q p x : Int} {Q : World → Prop} (C : Calls Try.prog 23 #[r, .int .i64 a, .int .i64 s, .int .i64 d, .int .i64 q, .int .i64 p, .func (.func 24) #[] #[]] w fun e w' => e = .returned (.int .i64 x) ∧ Q w') :
    Calls Try.prog 14 #[r, .int .i64 a, .int .i64 s, .int .i64 d, .int .i64 q, .int .i64 p] w fun e w' => e = .returned (.int .i64 x) ∧ Q w' := by
  go_enter Try.func14, Try.ntmps14
  go_wp2_with fail
  refine C.mono ?_
  rintro e w1 ⟨rfl, h⟩
  go_wp2_with fail
  go_ret
  exact ⟨rfl, h⟩
theorem fill_any {w : World} {n : Nat} {b : Pk} (K : PosAt w n b) (a s d q p : Int) :
    Calls Try.prog 14 #[.pointer (some ⟨n + 1, 0, none⟩), .int .i64 a, .int .i64 s, .int .i64 d, .int .i64 q, .int .i64 p] w fun e w' => e = .returned (.int .i64 (chE b false a s d q p)) ∧ PosAt w' n (chB b false a s d q p) ∧ But (rows n b.nA) w w' :=
  fill_on (chM_any K a s d q p)
theorem fillN {w : World} {r : Value} (h : NoPos w r) (a s d q p : Int) :
    Calls Try.prog 14 #[r, .int .i64 a, .int .i64 s, .int .i64 d, .int .i64 q, .int .i64 p] w fun e w' => e = .returned (.int .i64 1) ∧ w' = w := by
  refine fill_on ?_
  have F1 := made_no h
  clear h
  go_enter Try.func23, Try.ntmps23
  go_wp2_with fail
  refine F1.mono ?_
  rintro e w1 ⟨rfl, rfl⟩
  go_wp2_with fail
  go_ret
  exact ⟨rfl, rfl⟩
theorem bust_on {w : World} {r : Value} {a s d q p x : Int} {Q : World → Prop} (C : Calls Try.prog 23 #[r, .int .i64 a, .int .i64 s, .int .i64 d, .int .i64 q, .int .i64 p, .func (.func 28) #[] #[]] w fun e w' => e = .returned (.int .i64 x) ∧ Q w') :
    Calls Try.prog 20 #[r, .int .i64 a, .int .i64 s, .int .i64 d, .int .i64 q, .int .i64 p] w fun e w' => e = .returned (.int .i64 x) ∧ Q w' := by
  go_enter Try.func20, Try.ntmps20
  go_wp2_with fail
  refine C.mono ?_
  rintro e w1 ⟨rfl, h⟩
  go_wp2_with fail
  go_ret
  exact ⟨rfl, h⟩
theorem bust_any {w : World} {n : Nat} {b : Pk} (K : PosAt w n b) (a s d q p : Int) :
    Calls Try.prog 20 #[.pointer (some ⟨n + 1, 0, none⟩), .int .i64 a, .int .i64 s, .int .i64 d, .int .i64 q, .int .i64 p] w fun e w' => e = .returned (.int .i64 (chE b true a s d q p)) ∧ PosAt w' n (chB b true a s d q p) ∧ But (rows n b.nA) w w' :=
  bust_on (chL_any K a s d q p)
theorem bustN {w : World} {r : Value} (h : NoPos w r) (a s d q p : Int) :
    Calls Try.prog 20 #[r, .int .i64 a, .int .i64 s, .int .i64 d, .int .i64 q, .int .i64 p] w fun e w' => e = .returned (.int .i64 1) ∧ w' = w := by
  refine bust_on ?_
  have F1 := made_no h
  clear h
  go_enter Try.func23, Try.ntmps23
  go_wp2_with fail
  refine F1.mono ?_
  rintro e w1 ⟨rfl, rfl⟩
  go_wp2_with fail
  go_ret
  exact ⟨rfl, rfl⟩
theorem move_on {w : World} {r : Value} {a s d q p x : Int} {k : Bool} {Q : World → Prop}
    (C : k = false → ∀ w', Below w.heap.size w w' → Calls Try.prog 14 #[r, .int .i64 a, .int .i64 s, .int .i64 d, .int .i64 q, .int .i64 p] w' fun e w'' => e = .returned (.int .i64 x) ∧ Q w'')
    (D : k = true → ∀ w', Below w.heap.size w w' → Calls Try.prog 20 #[r, .int .i64 a, .int .i64 s, .int .i64 d, .int .i64 q, .int .i64 p] w' fun e w'' => e = .returned (.int .i64 x) ∧ Q w'') :
    Calls Try.prog 9 #[r, .agg #[.int .i64 a, .int .i64 s, .int .i64 d, .int .i64 q, .int .i64 p, .bool k]] w fun e w' => e = .returned (.int .i64 x) ∧ Q w' := by
  have hb : Below w.heap.size w (w.alloc (.cells #[.int .i64 a, .int .i64 s, .int .i64 d, .int .i64 q, .int .i64 p, .bool k] 30)) := (Below.refl _ _).alloc (Nat.le_refl _) _
  cases k
  · have G := C rfl _ hb
    clear C D hb
    go_enter Try.func9, Try.ntmps9
    go_wp2_with fail
    refine G.mono ?_
    rintro e w1 ⟨rfl, h⟩
    go_wp2_with fail
    go_ret
    exact ⟨rfl, h⟩
  · have G := D rfl _ hb
    clear C D hb
    go_enter Try.func9, Try.ntmps9
    go_wp2_with fail
    refine G.mono ?_
    rintro e w1 ⟨rfl, h⟩
    go_wp2_with fail
    go_ret
    exact ⟨rfl, h⟩
theorem move_any {w : World} {n : Nat} {b : Pk} (K : PosAt w n b) (a s d q p : Int) (k : Bool) :
    Calls Try.prog 9 #[.pointer (some ⟨n + 1, 0, none⟩), .agg #[.int .i64 a, .int .i64 s, .int .i64 d, .int .i64 q, .int .i64 p, .bool k]] w fun e w' => e = .returned (.int .i64 (chE b k a s d q p)) ∧ PosAt w' n (chB b k a s d q p) ∧ But (rows n b.nA) w w' := by
  have tr : ∀ w' w'', Below w.heap.size w w' → But (rows n b.nA) w' w'' → But (rows n b.nA) w w'' := fun w' w'' h1 h2 => (But.of_below h1).trans h2 (fun _ _ h => h)
  exact move_on (fun e _ hb => by subst e; exact (fill_any (K.below hb) a s d q p).mono fun _ _ h => ⟨h.1, h.2.1, tr _ _ hb h.2.2⟩) (fun e _ hb => by subst e; exact (bust_any (K.below hb) a s d q p).mono fun _ _ h => ⟨h.1, h.2.1, tr _ _ hb h.2.2⟩)
theorem moveN {w : World} {r : Value} (h : NoPos w r) (a s d q p : Int) (k : Bool) :
    Calls Try.prog 9 #[r, .agg #[.int .i64 a, .int .i64 s, .int .i64 d, .int .i64 q, .int .i64 p, .bool k]] w fun e w' => e = .returned (.int .i64 1) ∧ Below w.heap.size w w' :=
  move_on (fun _ _ hb => (fillN (h.below hb) a s d q p).mono fun _ _ h => ⟨h.1, by rw [h.2]; exact hb⟩) (fun _ _ hb => (bustN (h.below hb) a s d q p).mono fun _ _ h => ⟨h.1, by rw [h.2]; exact hb⟩)
end Go.Proofs.Ytbmmokdccfajmaa.PO
