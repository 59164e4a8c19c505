/-
  The fourteenth reference's DecodeReply: the way of the word 8, case a.
-/
import Derived.Test.YtdbkoflejimibaaGreatDoorJQ
namespace Go.Proofs.YtdbkoflejimibaaGreatDoor.PP.R
open Go.ChangeShapes Go.WideShapes Go.ChangeAt Go.RowKit Go.Lib

set_option maxRecDepth 100000 in
set_option maxHeartbeats 16000000 in
theorem refDecode_8a (s : ByteArray) (w : World) (hs : s.size ≤ 1000000) (hE : readE s.data.toList = 0) (hk : textOf (fieldsL s.data.toList).1 35 = ⟨#[56]⟩) (hq : said (fieldsL s.data.toList).1 ≠ noText ∧ kindOf (said (fieldsL s.data.toList).1) = 0) :
    Calls Tryz.prog 8 #[.string s] w (DecOk s.data.toList w) := by
  have RD := fun w => refRead_any s w hs
  obtain ⟨_, ⟨V35, rest, hl⟩, hnd⟩ := read_head hE
  have h35 : textOf (fieldsL s.data.toList).1 35 = V35 := textOf_mem hnd (by rw [hl]; simp)
  have TS := text_small s.data.toList
  obtain ⟨F, hF⟩ : ∃ F, (fieldsL s.data.toList).1 = F := ⟨_, rfl⟩
  have hF35 : textOf F 35 = V35 := by rw [← hF]; exact h35
  rw [h35] at hk
  rw [hF] at hq
  have kr := kind_range (said F)
  have hKK : kindOf (said F) = 0 := hq.2
  have hE4 : (runS (x0F F) ((head3 ++ [rep1]).map Pl.want)).2.2 = 0 := (said_err F).1 hq.1
  have HD : Hid (decT s.data.toList = (150, 120)) := by
    show decT s.data.toList = _
    unfold decT decE
    rw [if_neg (by omega), hF, hF35, hk, if_neg (by decide), if_pos rfl, if_pos hq]
  have HKK : Hid (kindOf (said F) = 0) := hKK
  obtain ⟨E4, hE4'⟩ : ∃ E4, (runS (x0F F) ((head3 ++ [rep1]).map Pl.want)).2.2 = E4 := ⟨_, rfl⟩
  rw [hE4'] at hE4
  have HE4 : Hid ((runS (x0F F) ((head3 ++ [rep1]).map Pl.want)).2.2 = E4) := hE4'
  clear hE4'
  subst hE4
  clear kr hKK hq
  subst hk
  have hk : True := trivial
  have HRD : Hid (∀ w e w', RRead s.data.toList w e w' → ∃ fb v, e = .returned (.tuple #[.pointer (some ⟨fb, 0, none⟩), .int .i64 0]) ∧ RSt w.heap.size (fun j => w.heap.size ≤ j) w w' fb v F ([], 0, 0)) := fun w e w' h => by
    rcases h with ⟨h1, _⟩ | ⟨_, fb, v, h1, h2⟩
    · exact absurd hE h1
    · rw [hF] at h2; exact ⟨fb, v, h1, h2⟩
  rw [hF] at hl hnd TS
  have HND : Hid ((F.map Prod.fst).Nodup) := hnd
  have HTS : Hid (∀ t s, textO F t = some s → s.size ≤ 100000) := TS
  clear h35 hF hF35 hnd TS hE
  clear hk
  have B0 : Hid (Below w.heap.size w (outR w)) := outR_below w
  have C0 : Hid (ThAt nm (outR w) w.heap.size (zeroT 0)) := outR_at w
  go_enter Tryz.func8, Tryz.ntmps8
  go_wp2_with fail
  refine (RD _).mono ?_
  intro e w1 hrd
  obtain ⟨fb, v, rfl, hS1⟩ := HRD.out _ _ _ hrd
  have K1 := refKind_any hS1 (by simp) _ rest hl
  clear RD hrd HRD hS1
  go_wp2_with fail
  refine K1.mono ?_
  rintro e w2 ⟨rfl, hS2⟩
  clear K1
  have Q2 : Hid (RP nm (w.heap.size + 1) (outR w) (w.heap.size + 1) (w2.alloc (.cells #[.int .i64 7, .int .i64 0, .string ⟨#[]⟩, .string ⟨#[]⟩, .int .i64 0, .int .i64 0, .string ⟨#[]⟩] 35)) fb w2.heap.size v F [] (zeroT 7) []) := (rs_begin hS2 (zeroT 7)).2
  clear hS2
  have F0 := Q2.out.int (by decide) HTS.out 34 1 1 1099511627776 (by decide) rfl rfl
  go_wp2_with fail
  refine F0.mono ?_
  rintro e y0 ⟨x0, o0, rfl, c0, z0, k0, P0⟩
  have j0 : y0.cell? ⟨w2.heap.size, 0, none⟩ = some (.int .i64 7) := k0
  have R0 : Hid (RP nm (w.heap.size + 1) (outR w) (w.heap.size + 1) (y0.setCell ⟨w2.heap.size, 1, none⟩ (.int .i64 x0)) fb w2.heap.size v F [] (zeroT 7) [⟨34, false, 1, 1, 1099511627776⟩]) := P0
  clear F0 P0 k0 Q2
  have F1 := R0.out.name (by decide) HTS.out 11 2 0 0 (by decide) rfl rfl
  go_wp2_with fail
  refine F1.mono ?_
  rintro e y1 ⟨x1, o1, rfl, c1, z1, k1, P1⟩
  have j1 : y1.cell? ⟨w2.heap.size, 0, none⟩ = some (.int .i64 7) := k1
  have R1 : Hid (RP nm (w.heap.size + 1) (outR w) (w.heap.size + 1) (y1.setCell ⟨w2.heap.size, 2, none⟩ (.string x1)) fb w2.heap.size v F [] (zeroT 7) [⟨34, false, 1, 1, 1099511627776⟩, ⟨11, true, 2, 0, 0⟩]) := P1
  clear F1 P1 k1 R0 c0 z0 j0
  have F2 := R1.out.name (by decide) HTS.out 17 3 0 0 (by decide) rfl rfl
  go_wp2_with fail
  refine F2.mono ?_
  rintro e y2 ⟨x2, o2, rfl, c2, z2, k2, P2⟩
  have j2 : y2.cell? ⟨w2.heap.size, 0, none⟩ = some (.int .i64 7) := k2
  have R2 : Hid (RP nm (w.heap.size + 1) (outR w) (w.heap.size + 1) (y2.setCell ⟨w2.heap.size, 3, none⟩ (.string x2)) fb w2.heap.size v F [] (zeroT 7) [⟨34, false, 1, 1, 1099511627776⟩, ⟨11, true, 2, 0, 0⟩, ⟨17, true, 3, 0, 0⟩]) := P2
  clear F2 P2 k2 R1 c1 z1 j1
  have F3 := R2.out.ask (by decide) HTS.out rep1 rfl
  dsimp only at F3
  go_wp2_with fail
  refine F3.mono ?_
  rintro e y3 ⟨x3, rfl, hx3, P3⟩
  have HX : Hid (x3 = said F) := hx3
  have c3 : y3.cell? ⟨w2.heap.size, 0, none⟩ = some (.int .i64 7) := RS.th P3 |>.num (j := 0) (by omega) rfl
  have z3 := (RS.th P3).fz 0
  have Q4 : Hid (RP nm (w.heap.size + 1) (outR w) (w.heap.size + 1) (y3.setCell ⟨w2.heap.size, 0, none⟩ (.int .i64 0)) fb w2.heap.size v F (head3 ++ [rep1]) ((fil head3 (x0F F) (zeroT 7)).2.1, upd (fil head3 (x0F F) (zeroT 7)).2.2 0 (bestK (said F) 1)) []) := by
    have := RP.kind P3 rfl 0
    rw [best_1]
    exact this
  clear F3 P3 hx3 R2 c2 z2 j2
  go_wp2_with fail
  go_loopw [10] (fun i wr => ∃ k : Nat, i = .int .i64 (k : Int) ∧ 1 ≤ k ∧ k ≤ 7 ∧ Hid (RP nm (w.heap.size + 1) (outR w) (w.heap.size + 1) wr fb w2.heap.size v F (head3 ++ [rep1]) ((fil head3 (x0F F) (zeroT 7)).2.1, upd (fil head3 (x0F F) (zeroT 7)).2.2 0 (bestK (said F) (k : Int))) [])) (fun i _ => 7 - (RowKit.intOf i).toNat)
  case atStart => exact ⟨1, rfl, by omega, by omega, Q4⟩
  case round =>
    clear Q4 c3 z3
    obtain ⟨k, rfl, hk1, hk7, HQ⟩ := hrel
    by_cases hlt : k < 7
    · have t7 : (k : Int) < 7 := by omega
      have WD := refWord_any (k : Int) (by omega) (by omega) wr
      have HI : Hid (wordK (k : Int) = said F ↔ kindOf (said F) = (k : Int)) := word_iff (by omega) (by omega)
      have HLT : Hid (1 ≤ k ∧ k < 7) := ⟨hk1, hlt⟩
      have bq := beq_bytes (wordK (k : Int)) x3
      by_cases hq : kindOf (said F) = (k : Int)
      · have HN : Hid (bestK (said F) ((k : Int) + 1) = (k : Int)) := best_eq hq
        rw [decide_eq_true (by rw [HX.out]; exact HI.out.2 hq)] at bq
        generalize wordK (k : Int) = wk at WD bq
        clear hk1 hk7 hlt HI hq
        go_wp2_with fail
        refine WD.mono ?_
        rintro e y4 ⟨rfl, b4⟩
        have S4 := RS.still HQ.out b4
        have c4 := S4.th.num (j := 0) (by omega) rfl
        have z4 := S4.th.fz 0
        have HQ4 : Hid (RP nm (w.heap.size + 1) (outR w) (w.heap.size + 1) (y4.setCell ⟨w2.heap.size, 0, none⟩ (.int .i64 (k : Int))) fb w2.heap.size v F (head3 ++ [rep1]) ((fil head3 (x0F F) (zeroT 7)).2.1, upd (fil head3 (x0F F) (zeroT 7)).2.2 0 (bestK (said F) ((k : Int) + 1))) []) := by
          rw [HN.out, ← upd_upd _ (bestK (said F) (k : Int))]
          exact RP.kind S4 rfl (k : Int)
        clear WD b4 S4 HQ
        go_wp2_with fail
        go_roundw
        case rel => exact ⟨k + 1, by simp, by omega, by have := HLT.out; omega, by exact HQ4⟩
        case measure => have := HLT.out; simp [RowKit.intOf]; omega
      · have HN : Hid (bestK (said F) ((k : Int) + 1) = bestK (said F) (k : Int)) := best_ne hq
        rw [decide_eq_false (by rw [HX.out]; exact fun e => hq (HI.out.1 e))] at bq
        generalize wordK (k : Int) = wk at WD bq
        clear hk1 hk7 hlt HI hq
        go_wp2_with fail
        refine WD.mono ?_
        rintro e y4 ⟨rfl, b4⟩
        have HQ4 : Hid (RP nm (w.heap.size + 1) (outR w) (w.heap.size + 1) y4 fb w2.heap.size v F (head3 ++ [rep1]) ((fil head3 (x0F F) (zeroT 7)).2.1, upd (fil head3 (x0F F) (zeroT 7)).2.2 0 (bestK (said F) ((k : Int) + 1))) []) := by
          rw [HN.out]
          exact RS.still HQ.out b4
        clear WD b4 HQ
        go_wp2_with fail
        go_roundw
        case rel => exact ⟨k + 1, by simp, by omega, by have := HLT.out; omega, by exact HQ4⟩
        case measure => have := HLT.out; simp [RowKit.intOf]; omega
    · obtain rfl : k = 7 := by omega
      have t7 : ¬ ((7 : Nat) : Int) < 7 := by omega
      have HQ5 : Hid (RP nm (w.heap.size + 1) (outR w) (w.heap.size + 1) wr fb w2.heap.size v F (head3 ++ [rep1]) ((fil head3 (x0F F) (zeroT 7)).2.1, upd (fil head3 (x0F F) (zeroT 7)).2.2 0 0) []) := by
        have := HQ.out
        rw [show ((7 : Nat) : Int) = 7 from rfl, best_7, HKK.out] at this
        exact this
      have ce := RP.err HQ5.out
      rw [show (head3 ++ [rep1] ++ ([] : List Pl)) = head3 ++ [rep1] from rfl, HE4.out] at ce
      have ck : wr.cell? ⟨w2.heap.size, 0, none⟩ = some (.int .i64 0) := (RS.th HQ5.out).num (j := 0) (by omega) rfl
      clear hk1 hk7 hlt HQ
      have BQ := RS.below HQ5.out
      have C2 : Hid (ThAt nm wr w.heap.size (zeroT 0)) := C0.out.still (by rw [outR_size]; exact BQ)
      have HB2 : Hid (Below w.heap.size w wr) := B0.out.trans (BQ.mono (by omega))
      clear BQ HQ5
      obtain ⟨r0, r1, r2, r3, r4, r5, r6⟩ := ThAt.zero C2.out
      have z := C2.out.fz
      have P : Hid (ThAt nm (put0 wr w.heap.size) w.heap.size (zeroT 0)) := put_at C2.out (zeroT 0)
      have PB : Hid (But (fun j => j = w.heap.size) wr (put0 wr w.heap.size)) := put_but wr w.heap.size (zeroT 0)
      go_wp2_with fail
      have P' := P.out
      have PB' := PB.out
      unfold put0 at P' PB'
      clear P PB
      generalize hW9 : World.setCell _ ⟨w.heap.size, 6, none⟩ _ = W9 at *
      obtain ⟨p0, p1, p2, p3, p4, p5, p6⟩ := ThAt.zero P'
      refine bodyPost_ret (v := .tuple #[.agg #[.int .i64 0, .int .i64 0, .string ⟨#[]⟩, .string ⟨#[]⟩, .int .i64 0, .int .i64 0, .string ⟨#[]⟩], .int .i64 150, .int .i64 120]) (by simp [results, Tryz.results8, go_sem, p0, p1, p2, p3, p4, p5, p6]) rfl ?_
      exact ⟨zeroT 0, by rw [HD.out]; rfl, zero_same (by rw [HD.out]; simp), HB2.out.trans (PB'.below HB2.out.size (fun i e => by have e' : i = w.heap.size := e; omega))⟩
end Go.Proofs.YtdbkoflejimibaaGreatDoor.PP.R
/-
  The fourteenth reference's DecodeReply: the way of the word 8, case b.
-/
namespace Go.Proofs.YtdbkoflejimibaaGreatDoor.PP.R
open Go.ChangeShapes Go.WideShapes Go.ChangeAt Go.RowKit Go.Lib

set_option maxRecDepth 100000 in
set_option maxHeartbeats 16000000 in
theorem refDecode_8b (s : ByteArray) (w : World) (hs : s.size ≤ 1000000) (hE : readE s.data.toList = 0) (hk : textOf (fieldsL s.data.toList).1 35 = ⟨#[56]⟩) (hq : said (fieldsL s.data.toList).1 = noText) :
    Calls Tryz.prog 8 #[.string s] w (DecOk s.data.toList w) := by
  have RD := fun w => refRead_any s w hs
  obtain ⟨_, ⟨V35, rest, hl⟩, hnd⟩ := read_head hE
  have h35 : textOf (fieldsL s.data.toList).1 35 = V35 := textOf_mem hnd (by rw [hl]; simp)
  have TS := text_small s.data.toList
  obtain ⟨F, hF⟩ : ∃ F, (fieldsL s.data.toList).1 = F := ⟨_, rfl⟩
  have hF35 : textOf F 35 = V35 := by rw [← hF]; exact h35
  rw [h35] at hk
  rw [hF] at hq
  have kr := kind_range (said F)
  have hKK : kindOf (said F) = 0 := by rw [hq]; exact kind_none
  have hE4 : (runS (x0F F) ((head3 ++ [rep1]).map Pl.want)).2.2 ≠ 0 := fun h => (said_err F).2 h hq
  have HDT : Hid (decT s.data.toList = doneE (runS (x0F F) ((listK 0).map Pl.want)) (F.map Prod.fst)) := by
    show decT s.data.toList = _
    unfold decT decE
    rw [if_neg (by omega), hF, hF35, hk, if_neg (by decide), if_pos rfl, if_neg (fun q => q.1 hq), hKK]
  have HAK : Hid ((decT s.data.toList).2 = 0 → decA s.data.toList = tolds (listK 0) F (zeroT 0)) := fun h => by
    unfold decA decK
    rw [if_pos h, hF, hF35, hk, if_neg (by decide), hKK]
  have HKK : Hid (kindOf (said F) = 0) := hKK
  obtain ⟨E4, hE4'⟩ : ∃ E4, (runS (x0F F) ((head3 ++ [rep1]).map Pl.want)).2.2 = E4 := ⟨_, rfl⟩
  rw [hE4'] at hE4
  have HE4 : Hid ((runS (x0F F) ((head3 ++ [rep1]).map Pl.want)).2.2 = E4) := hE4'
  have te4 : (E4 == 0) = false := beq_false_of_ne hE4
  clear hE4 hE4'
  clear kr hKK hq
  subst hk
  have hk : True := trivial
  have HRD : Hid (∀ w e w', RRead s.data.toList w e w' → ∃ fb v, e = .returned (.tuple #[.pointer (some ⟨fb, 0, none⟩), .int .i64 0]) ∧ RSt w.heap.size (fun j => w.heap.size ≤ j) w w' fb v F ([], 0, 0)) := fun w e w' h => by
    rcases h with ⟨h1, _⟩ | ⟨_, fb, v, h1, h2⟩
    · exact absurd hE h1
    · rw [hF] at h2; exact ⟨fb, v, h1, h2⟩
  rw [hF] at hl hnd TS
  have HND : Hid ((F.map Prod.fst).Nodup) := hnd
  have HTS : Hid (∀ t s, textO F t = some s → s.size ≤ 100000) := TS
  clear h35 hF hF35 hnd TS hE
  clear hk
  have B0 : Hid (Below w.heap.size w (outR w)) := outR_below w
  have C0 : Hid (ThAt nm (outR w) w.heap.size (zeroT 0)) := outR_at w
  go_enter Tryz.func8, Tryz.ntmps8
  go_wp2_with fail
  refine (RD _).mono ?_
  intro e w1 hrd
  obtain ⟨fb, v, rfl, hS1⟩ := HRD.out _ _ _ hrd
  have K1 := refKind_any hS1 (by simp) _ rest hl
  clear RD hrd HRD hS1
  go_wp2_with fail
  refine K1.mono ?_
  rintro e w2 ⟨rfl, hS2⟩
  clear K1
  have Q2 : Hid (RP nm (w.heap.size + 1) (outR w) (w.heap.size + 1) (w2.alloc (.cells #[.int .i64 7, .int .i64 0, .string ⟨#[]⟩, .string ⟨#[]⟩, .int .i64 0, .int .i64 0, .string ⟨#[]⟩] 35)) fb w2.heap.size v F [] (zeroT 7) []) := (rs_begin hS2 (zeroT 7)).2
  clear hS2
  have F0 := Q2.out.int (by decide) HTS.out 34 1 1 1099511627776 (by decide) rfl rfl
  go_wp2_with fail
  refine F0.mono ?_
  rintro e y0 ⟨x0, o0, rfl, c0, z0, k0, P0⟩
  have j0 : y0.cell? ⟨w2.heap.size, 0, none⟩ = some (.int .i64 7) := k0
  have R0 : Hid (RP nm (w.heap.size + 1) (outR w) (w.heap.size + 1) (y0.setCell ⟨w2.heap.size, 1, none⟩ (.int .i64 x0)) fb w2.heap.size v F [] (zeroT 7) [⟨34, false, 1, 1, 1099511627776⟩]) := P0
  clear F0 P0 k0 Q2
  have F1 := R0.out.name (by decide) HTS.out 11 2 0 0 (by decide) rfl rfl
  go_wp2_with fail
  refine F1.mono ?_
  rintro e y1 ⟨x1, o1, rfl, c1, z1, k1, P1⟩
  have j1 : y1.cell? ⟨w2.heap.size, 0, none⟩ = some (.int .i64 7) := k1
  have R1 : Hid (RP nm (w.heap.size + 1) (outR w) (w.heap.size + 1) (y1.setCell ⟨w2.heap.size, 2, none⟩ (.string x1)) fb w2.heap.size v F [] (zeroT 7) [⟨34, false, 1, 1, 1099511627776⟩, ⟨11, true, 2, 0, 0⟩]) := P1
  clear F1 P1 k1 R0 c0 z0 j0
  have F2 := R1.out.name (by decide) HTS.out 17 3 0 0 (by decide) rfl rfl
  go_wp2_with fail
  refine F2.mono ?_
  rintro e y2 ⟨x2, o2, rfl, c2, z2, k2, P2⟩
  have j2 : y2.cell? ⟨w2.heap.size, 0, none⟩ = some (.int .i64 7) := k2
  have R2 : Hid (RP nm (w.heap.size + 1) (outR w) (w.heap.size + 1) (y2.setCell ⟨w2.heap.size, 3, none⟩ (.string x2)) fb w2.heap.size v F [] (zeroT 7) [⟨34, false, 1, 1, 1099511627776⟩, ⟨11, true, 2, 0, 0⟩, ⟨17, true, 3, 0, 0⟩]) := P2
  clear F2 P2 k2 R1 c1 z1 j1
  have F3 := R2.out.ask (by decide) HTS.out rep1 rfl
  dsimp only at F3
  go_wp2_with fail
  refine F3.mono ?_
  rintro e y3 ⟨x3, rfl, hx3, P3⟩
  have HX : Hid (x3 = said F) := hx3
  have c3 : y3.cell? ⟨w2.heap.size, 0, none⟩ = some (.int .i64 7) := RS.th P3 |>.num (j := 0) (by omega) rfl
  have z3 := (RS.th P3).fz 0
  have Q4 : Hid (RP nm (w.heap.size + 1) (outR w) (w.heap.size + 1) (y3.setCell ⟨w2.heap.size, 0, none⟩ (.int .i64 0)) fb w2.heap.size v F (head3 ++ [rep1]) ((fil head3 (x0F F) (zeroT 7)).2.1, upd (fil head3 (x0F F) (zeroT 7)).2.2 0 (bestK (said F) 1)) []) := by
    have := RP.kind P3 rfl 0
    rw [best_1]
    exact this
  clear F3 P3 hx3 R2 c2 z2 j2
  go_wp2_with fail
  go_loopw [10] (fun i wr => ∃ k : Nat, i = .int .i64 (k : Int) ∧ 1 ≤ k ∧ k ≤ 7 ∧ Hid (RP nm (w.heap.size + 1) (outR w) (w.heap.size + 1) wr fb w2.heap.size v F (head3 ++ [rep1]) ((fil head3 (x0F F) (zeroT 7)).2.1, upd (fil head3 (x0F F) (zeroT 7)).2.2 0 (bestK (said F) (k : Int))) [])) (fun i _ => 7 - (RowKit.intOf i).toNat)
  case atStart => exact ⟨1, rfl, by omega, by omega, Q4⟩
  case round =>
    clear Q4 c3 z3
    obtain ⟨k, rfl, hk1, hk7, HQ⟩ := hrel
    by_cases hlt : k < 7
    · have t7 : (k : Int) < 7 := by omega
      have WD := refWord_any (k : Int) (by omega) (by omega) wr
      have HI : Hid (wordK (k : Int) = said F ↔ kindOf (said F) = (k : Int)) := word_iff (by omega) (by omega)
      have HLT : Hid (1 ≤ k ∧ k < 7) := ⟨hk1, hlt⟩
      have bq := beq_bytes (wordK (k : Int)) x3
      by_cases hq : kindOf (said F) = (k : Int)
      · have HN : Hid (bestK (said F) ((k : Int) + 1) = (k : Int)) := best_eq hq
        rw [decide_eq_true (by rw [HX.out]; exact HI.out.2 hq)] at bq
        generalize wordK (k : Int) = wk at WD bq
        clear hk1 hk7 hlt HI hq
        go_wp2_with fail
        refine WD.mono ?_
        rintro e y4 ⟨rfl, b4⟩
        have S4 := RS.still HQ.out b4
        have c4 := S4.th.num (j := 0) (by omega) rfl
        have z4 := S4.th.fz 0
        have HQ4 : Hid (RP nm (w.heap.size + 1) (outR w) (w.heap.size + 1) (y4.setCell ⟨w2.heap.size, 0, none⟩ (.int .i64 (k : Int))) fb w2.heap.size v F (head3 ++ [rep1]) ((fil head3 (x0F F) (zeroT 7)).2.1, upd (fil head3 (x0F F) (zeroT 7)).2.2 0 (bestK (said F) ((k : Int) + 1))) []) := by
          rw [HN.out, ← upd_upd _ (bestK (said F) (k : Int))]
          exact RP.kind S4 rfl (k : Int)
        clear WD b4 S4 HQ
        go_wp2_with fail
        go_roundw
        case rel => exact ⟨k + 1, by simp, by omega, by have := HLT.out; omega, by exact HQ4⟩
        case measure => have := HLT.out; simp [RowKit.intOf]; omega
      · have HN : Hid (bestK (said F) ((k : Int) + 1) = bestK (said F) (k : Int)) := best_ne hq
        rw [decide_eq_false (by rw [HX.out]; exact fun e => hq (HI.out.1 e))] at bq
        generalize wordK (k : Int) = wk at WD bq
        clear hk1 hk7 hlt HI hq
        go_wp2_with fail
        refine WD.mono ?_
        rintro e y4 ⟨rfl, b4⟩
        have HQ4 : Hid (RP nm (w.heap.size + 1) (outR w) (w.heap.size + 1) y4 fb w2.heap.size v F (head3 ++ [rep1]) ((fil head3 (x0F F) (zeroT 7)).2.1, upd (fil head3 (x0F F) (zeroT 7)).2.2 0 (bestK (said F) ((k : Int) + 1))) []) := by
          rw [HN.out]
          exact RS.still HQ.out b4
        clear WD b4 HQ
        go_wp2_with fail
        go_roundw
        case rel => exact ⟨k + 1, by simp, by omega, by have := HLT.out; omega, by exact HQ4⟩
        case measure => have := HLT.out; simp [RowKit.intOf]; omega
    · obtain rfl : k = 7 := by omega
      have t7 : ¬ ((7 : Nat) : Int) < 7 := by omega
      have HQ5 : Hid (RP nm (w.heap.size + 1) (outR w) (w.heap.size + 1) wr fb w2.heap.size v F (head3 ++ [rep1]) ((fil head3 (x0F F) (zeroT 7)).2.1, upd (fil head3 (x0F F) (zeroT 7)).2.2 0 0) []) := by
        have := HQ.out
        rw [show ((7 : Nat) : Int) = 7 from rfl, best_7, HKK.out] at this
        exact this
      have ce := RP.err HQ5.out
      rw [show (head3 ++ [rep1] ++ ([] : List Pl)) = head3 ++ [rep1] from rfl, HE4.out] at ce
      have ck : wr.cell? ⟨w2.heap.size, 0, none⟩ = some (.int .i64 0) := (RS.th HQ5.out).num (j := 0) (by omega) rfl
      clear hk1 hk7 hlt HQ
      have DN := RP.done HQ5.out HND.out
      have HBR : Hid (Below (w.heap.size + 1) (outR w) wr) := RS.below HQ5.out
      obtain ⟨DT, DE, hDD⟩ : ∃ DT DE, doneE (runS (x0F F) ((listK 0).map Pl.want)) (F.map Prod.fst) = (DT, DE) := ⟨_, _, rfl⟩
      have HY : Hid ((doneE (runS (x0F F) ((listK 0).map Pl.want)) (F.map Prod.fst)).2 = 0 → DE = 0) := fun h => by rw [hDD] at h; exact h
      have HYB : Hid (DE = 0 → (doneE (runS (x0F F) ((listK 0).map Pl.want)) (F.map Prod.fst)).2 = 0) := fun h => by rw [hDD]; exact h
      have e1 : doneE (runS (x0F F) (((head3 ++ [rep1]) ++ ([] : List Pl)).map Pl.want)) (F.map Prod.fst) = (DT, DE) := hDD
      rw [e1] at DN
      dsimp only at DN
      clear e1
      have HDD : Hid (decT s.data.toList = (DT, DE)) := by show decT s.data.toList = _; rw [HDT.out]; exact hDD
      clear hDD HQ5
      go_wp2_with fail
      refine DN.mono ?_
      rintro e w9 ⟨u, rfl, T9, hu, b9⟩
      have HB9 : Hid (Below (w.heap.size + 1) (outR w) w9) := HBR.out.trans (b9.mono (lo_size HBR.out))
      have C9 : Hid (ThAt nm w9 w.heap.size (zeroT 0)) := C0.out.still (by rw [outR_size]; exact HB9.out)
      have HBW : Hid (Below w.heap.size w w9) := B0.out.trans (HB9.out.mono (by omega))
      have HT9 : Hid (ThAt nm w9 w2.heap.size u) := T9
      have HU : Hid (u = (fil ([] : List Pl) (runS (x0F F) ((head3 ++ [rep1]).map Pl.want)) ((fil head3 (x0F F) (zeroT 7)).2.1, upd (fil head3 (x0F F) (zeroT 7)).2.2 0 0)).2) := hu
      clear DN T9 hu b9 HBR HB9 ce ck
      by_cases hDE : DE = 0
      case neg =>
        have te : (DE == 0) = false := beq_false_of_ne hDE
        have HN : Hid (DE ≠ 0) := hDE
        clear hDE
        obtain ⟨r0, r1, r2, r3, r4, r5, r6⟩ := ThAt.zero C9.out
        have z := C9.out.fz
        have P : Hid (ThAt nm (put0 w9 w.heap.size) w.heap.size (zeroT 0)) := put_at C9.out (zeroT 0)
        have PB : Hid (But (fun j => j = w.heap.size) w9 (put0 w9 w.heap.size)) := put_but w9 w.heap.size (zeroT 0)
        go_wp2_with fail
        have P' := P.out
        have PB' := PB.out
        unfold put0 at P' PB'
        clear P PB
        generalize hW9 : World.setCell _ ⟨w.heap.size, 6, none⟩ _ = W9 at *
        obtain ⟨p0, p1, p2, p3, p4, p5, p6⟩ := ThAt.zero P'
        refine bodyPost_ret (v := .tuple #[.agg #[.int .i64 0, .int .i64 0, .string ⟨#[]⟩, .string ⟨#[]⟩, .int .i64 0, .int .i64 0, .string ⟨#[]⟩], .int .i64 DT, .int .i64 DE]) (by simp [results, Tryz.results8, go_sem, p0, p1, p2, p3, p4, p5, p6]) rfl ?_
        exact ⟨zeroT 0, by rw [HDD.out]; rfl, zero_same (by rw [HDD.out]; exact HN.out), HBW.out.trans (PB'.below HBW.out.size (fun i e => by have e' : i = w.heap.size := e; omega))⟩
      case pos =>
        have h0 : (decT s.data.toList).2 = 0 := by rw [HDD.out]; exact hDE
        have HSM : Hid (Same u (decA s.data.toList)) := by
          show Same u _
          rw [HAK.out h0, HU.out]
          have h1 := (done_run (HYB.out hDE)).1
          exact told7 (l := F) (K := 0) (by omega) h1
        have HZ : Hid (decT s.data.toList = (0, 0)) := (decT_zero h0).1
        clear h0
        subst hDE
        obtain ⟨r0, r1, r2, r3, r4, r5, r6⟩ := ThAt.zero C9.out
        have z := C9.out.fz
        obtain ⟨d0, d1, d2, d3, d4, d5, d6⟩ := ThAt.all HT9.out
        have P : Hid (ThAt nm (put7 w9 w.heap.size u) w.heap.size u) := put_at C9.out u
        have PB : Hid (But (fun j => j = w.heap.size) w9 (put7 w9 w.heap.size u)) := put_but w9 w.heap.size u
        go_wp2_with fail
        have P' := P.out
        have PB' := PB.out
        unfold put7 at P' PB'
        clear P PB
        generalize hW9 : World.setCell _ ⟨w.heap.size, 6, none⟩ _ = W9 at *
        obtain ⟨p0, p1, p2, p3, p4, p5, p6⟩ := ThAt.all P'
        refine bodyPost_ret (v := .tuple #[.agg #[.int .i64 (u.2 0), .int .i64 (u.2 1), .string (u.1 2), .string (u.1 3), .int .i64 (u.2 4), .int .i64 (u.2 5), .string (u.1 6)], .int .i64 0, .int .i64 0]) (by simp [results, Tryz.results8, go_sem, p0, p1, p2, p3, p4, p5, p6]) rfl ?_
        exact ⟨u, by rw [HZ.out]; rfl, HSM.out, HBW.out.trans (PB'.below HBW.out.size (fun i e => by have e' : i = w.heap.size := e; omega))⟩
end Go.Proofs.YtdbkoflejimibaaGreatDoor.PP.R
/-
  The fourteenth reference's DecodeReply: the way of the word 8, case c.
-/
namespace Go.Proofs.YtdbkoflejimibaaGreatDoor.PP.R
open Go.ChangeShapes Go.WideShapes Go.ChangeAt Go.RowKit Go.Lib

set_option maxRecDepth 100000 in
set_option maxHeartbeats 16000000 in
theorem refDecode_8c (s : ByteArray) (w : World) (hs : s.size ≤ 1000000) (hE : readE s.data.toList = 0) (hk : textOf (fieldsL s.data.toList).1 35 = ⟨#[56]⟩) (hq : kindOf (said (fieldsL s.data.toList).1) = 5) :
    Calls Tryz.prog 8 #[.string s] w (DecOk s.data.toList w) := by
  have RD := fun w => refRead_any s w hs
  obtain ⟨_, ⟨V35, rest, hl⟩, hnd⟩ := read_head hE
  have h35 : textOf (fieldsL s.data.toList).1 35 = V35 := textOf_mem hnd (by rw [hl]; simp)
  have TS := text_small s.data.toList
  obtain ⟨F, hF⟩ : ∃ F, (fieldsL s.data.toList).1 = F := ⟨_, rfl⟩
  have hF35 : textOf F 35 = V35 := by rw [← hF]; exact h35
  rw [h35] at hk
  rw [hF] at hq
  have kr := kind_range (said F)
  have hKK : kindOf (said F) = 5 := hq
  have hE4 : (runS (x0F F) ((head3 ++ [rep1]).map Pl.want)).2.2 = 0 := (said_err F).1 (fun h => by rw [h, kind_none] at hKK; omega)
  have HDT : Hid (decT s.data.toList = doneE (runS (x0F F) ((listK 5).map Pl.want)) (F.map Prod.fst)) := by
    show decT s.data.toList = _
    unfold decT decE
    rw [if_neg (by omega), hF, hF35, hk, if_neg (by decide), if_pos rfl, if_neg (fun q => by have := q.2; omega), hKK]
  have HAK : Hid ((decT s.data.toList).2 = 0 → decA s.data.toList = tolds (listK 5) F (zeroT 5)) := fun h => by
    unfold decA decK
    rw [if_pos h, hF, hF35, hk, if_neg (by decide), hKK]
  have HKK : Hid (kindOf (said F) = 5) := hKK
  obtain ⟨E4, hE4'⟩ : ∃ E4, (runS (x0F F) ((head3 ++ [rep1]).map Pl.want)).2.2 = E4 := ⟨_, rfl⟩
  rw [hE4'] at hE4
  have HE4 : Hid ((runS (x0F F) ((head3 ++ [rep1]).map Pl.want)).2.2 = E4) := hE4'
  clear hE4'
  subst hE4
  clear kr hKK hq
  subst hk
  have hk : True := trivial
  have HRD : Hid (∀ w e w', RRead s.data.toList w e w' → ∃ fb v, e = .returned (.tuple #[.pointer (some ⟨fb, 0, none⟩), .int .i64 0]) ∧ RSt w.heap.size (fun j => w.heap.size ≤ j) w w' fb v F ([], 0, 0)) := fun w e w' h => by
    rcases h with ⟨h1, _⟩ | ⟨_, fb, v, h1, h2⟩
    · exact absurd hE h1
    · rw [hF] at h2; exact ⟨fb, v, h1, h2⟩
  rw [hF] at hl hnd TS
  have HND : Hid ((F.map Prod.fst).Nodup) := hnd
  have HTS : Hid (∀ t s, textO F t = some s → s.size ≤ 100000) := TS
  clear h35 hF hF35 hnd TS hE
  clear hk
  have B0 : Hid (Below w.heap.size w (outR w)) := outR_below w
  have C0 : Hid (ThAt nm (outR w) w.heap.size (zeroT 0)) := outR_at w
  go_enter Tryz.func8, Tryz.ntmps8
  go_wp2_with fail
  refine (RD _).mono ?_
  intro e w1 hrd
  obtain ⟨fb, v, rfl, hS1⟩ := HRD.out _ _ _ hrd
  have K1 := refKind_any hS1 (by simp) _ rest hl
  clear RD hrd HRD hS1
  go_wp2_with fail
  refine K1.mono ?_
  rintro e w2 ⟨rfl, hS2⟩
  clear K1
  have Q2 : Hid (RP nm (w.heap.size + 1) (outR w) (w.heap.size + 1) (w2.alloc (.cells #[.int .i64 7, .int .i64 0, .string ⟨#[]⟩, .string ⟨#[]⟩, .int .i64 0, .int .i64 0, .string ⟨#[]⟩] 35)) fb w2.heap.size v F [] (zeroT 7) []) := (rs_begin hS2 (zeroT 7)).2
  clear hS2
  have F0 := Q2.out.int (by decide) HTS.out 34 1 1 1099511627776 (by decide) rfl rfl
  go_wp2_with fail
  refine F0.mono ?_
  rintro e y0 ⟨x0, o0, rfl, c0, z0, k0, P0⟩
  have j0 : y0.cell? ⟨w2.heap.size, 0, none⟩ = some (.int .i64 7) := k0
  have R0 : Hid (RP nm (w.heap.size + 1) (outR w) (w.heap.size + 1) (y0.setCell ⟨w2.heap.size, 1, none⟩ (.int .i64 x0)) fb w2.heap.size v F [] (zeroT 7) [⟨34, false, 1, 1, 1099511627776⟩]) := P0
  clear F0 P0 k0 Q2
  have F1 := R0.out.name (by decide) HTS.out 11 2 0 0 (by decide) rfl rfl
  go_wp2_with fail
  refine F1.mono ?_
  rintro e y1 ⟨x1, o1, rfl, c1, z1, k1, P1⟩
  have j1 : y1.cell? ⟨w2.heap.size, 0, none⟩ = some (.int .i64 7) := k1
  have R1 : Hid (RP nm (w.heap.size + 1) (outR w) (w.heap.size + 1) (y1.setCell ⟨w2.heap.size, 2, none⟩ (.string x1)) fb w2.heap.size v F [] (zeroT 7) [⟨34, false, 1, 1, 1099511627776⟩, ⟨11, true, 2, 0, 0⟩]) := P1
  clear F1 P1 k1 R0 c0 z0 j0
  have F2 := R1.out.name (by decide) HTS.out 17 3 0 0 (by decide) rfl rfl
  go_wp2_with fail
  refine F2.mono ?_
  rintro e y2 ⟨x2, o2, rfl, c2, z2, k2, P2⟩
  have j2 : y2.cell? ⟨w2.heap.size, 0, none⟩ = some (.int .i64 7) := k2
  have R2 : Hid (RP nm (w.heap.size + 1) (outR w) (w.heap.size + 1) (y2.setCell ⟨w2.heap.size, 3, none⟩ (.string x2)) fb w2.heap.size v F [] (zeroT 7) [⟨34, false, 1, 1, 1099511627776⟩, ⟨11, true, 2, 0, 0⟩, ⟨17, true, 3, 0, 0⟩]) := P2
  clear F2 P2 k2 R1 c1 z1 j1
  have F3 := R2.out.ask (by decide) HTS.out rep1 rfl
  dsimp only at F3
  go_wp2_with fail
  refine F3.mono ?_
  rintro e y3 ⟨x3, rfl, hx3, P3⟩
  have HX : Hid (x3 = said F) := hx3
  have c3 : y3.cell? ⟨w2.heap.size, 0, none⟩ = some (.int .i64 7) := RS.th P3 |>.num (j := 0) (by omega) rfl
  have z3 := (RS.th P3).fz 0
  have Q4 : Hid (RP nm (w.heap.size + 1) (outR w) (w.heap.size + 1) (y3.setCell ⟨w2.heap.size, 0, none⟩ (.int .i64 0)) fb w2.heap.size v F (head3 ++ [rep1]) ((fil head3 (x0F F) (zeroT 7)).2.1, upd (fil head3 (x0F F) (zeroT 7)).2.2 0 (bestK (said F) 1)) []) := by
    have := RP.kind P3 rfl 0
    rw [best_1]
    exact this
  clear F3 P3 hx3 R2 c2 z2 j2
  go_wp2_with fail
  go_loopw [10] (fun i wr => ∃ k : Nat, i = .int .i64 (k : Int) ∧ 1 ≤ k ∧ k ≤ 7 ∧ Hid (RP nm (w.heap.size + 1) (outR w) (w.heap.size + 1) wr fb w2.heap.size v F (head3 ++ [rep1]) ((fil head3 (x0F F) (zeroT 7)).2.1, upd (fil head3 (x0F F) (zeroT 7)).2.2 0 (bestK (said F) (k : Int))) [])) (fun i _ => 7 - (RowKit.intOf i).toNat)
  case atStart => exact ⟨1, rfl, by omega, by omega, Q4⟩
  case round =>
    clear Q4 c3 z3
    obtain ⟨k, rfl, hk1, hk7, HQ⟩ := hrel
    by_cases hlt : k < 7
    · have t7 : (k : Int) < 7 := by omega
      have WD := refWord_any (k : Int) (by omega) (by omega) wr
      have HI : Hid (wordK (k : Int) = said F ↔ kindOf (said F) = (k : Int)) := word_iff (by omega) (by omega)
      have HLT : Hid (1 ≤ k ∧ k < 7) := ⟨hk1, hlt⟩
      have bq := beq_bytes (wordK (k : Int)) x3
      by_cases hq : kindOf (said F) = (k : Int)
      · have HN : Hid (bestK (said F) ((k : Int) + 1) = (k : Int)) := best_eq hq
        rw [decide_eq_true (by rw [HX.out]; exact HI.out.2 hq)] at bq
        generalize wordK (k : Int) = wk at WD bq
        clear hk1 hk7 hlt HI hq
        go_wp2_with fail
        refine WD.mono ?_
        rintro e y4 ⟨rfl, b4⟩
        have S4 := RS.still HQ.out b4
        have c4 := S4.th.num (j := 0) (by omega) rfl
        have z4 := S4.th.fz 0
        have HQ4 : Hid (RP nm (w.heap.size + 1) (outR w) (w.heap.size + 1) (y4.setCell ⟨w2.heap.size, 0, none⟩ (.int .i64 (k : Int))) fb w2.heap.size v F (head3 ++ [rep1]) ((fil head3 (x0F F) (zeroT 7)).2.1, upd (fil head3 (x0F F) (zeroT 7)).2.2 0 (bestK (said F) ((k : Int) + 1))) []) := by
          rw [HN.out, ← upd_upd _ (bestK (said F) (k : Int))]
          exact RP.kind S4 rfl (k : Int)
        clear WD b4 S4 HQ
        go_wp2_with fail
        go_roundw
        case rel => exact ⟨k + 1, by simp, by omega, by have := HLT.out; omega, by exact HQ4⟩
        case measure => have := HLT.out; simp [RowKit.intOf]; omega
      · have HN : Hid (bestK (said F) ((k : Int) + 1) = bestK (said F) (k : Int)) := best_ne hq
        rw [decide_eq_false (by rw [HX.out]; exact fun e => hq (HI.out.1 e))] at bq
        generalize wordK (k : Int) = wk at WD bq
        clear hk1 hk7 hlt HI hq
        go_wp2_with fail
        refine WD.mono ?_
        rintro e y4 ⟨rfl, b4⟩
        have HQ4 : Hid (RP nm (w.heap.size + 1) (outR w) (w.heap.size + 1) y4 fb w2.heap.size v F (head3 ++ [rep1]) ((fil head3 (x0F F) (zeroT 7)).2.1, upd (fil head3 (x0F F) (zeroT 7)).2.2 0 (bestK (said F) ((k : Int) + 1))) []) := by
          rw [HN.out]
          exact RS.still HQ.out b4
        clear WD b4 HQ
        go_wp2_with fail
        go_roundw
        case rel => exact ⟨k + 1, by simp, by omega, by have := HLT.out; omega, by exact HQ4⟩
        case measure => have := HLT.out; simp [RowKit.intOf]; omega
    · obtain rfl : k = 7 := by omega
      have t7 : ¬ ((7 : Nat) : Int) < 7 := by omega
      have HQ5 : Hid (RP nm (w.heap.size + 1) (outR w) (w.heap.size + 1) wr fb w2.heap.size v F (head3 ++ [rep1]) ((fil head3 (x0F F) (zeroT 7)).2.1, upd (fil head3 (x0F F) (zeroT 7)).2.2 0 5) []) := by
        have := HQ.out
        rw [show ((7 : Nat) : Int) = 7 from rfl, best_7, HKK.out] at this
        exact this
      have ce := RP.err HQ5.out
      rw [show (head3 ++ [rep1] ++ ([] : List Pl)) = head3 ++ [rep1] from rfl, HE4.out] at ce
      have ck : wr.cell? ⟨w2.heap.size, 0, none⟩ = some (.int .i64 5) := (RS.th HQ5.out).num (j := 0) (by omega) rfl
      clear hk1 hk7 hlt HQ
      have F5 := HQ5.out.int (by decide) HTS.out 32 4 1 1099511627776 (by decide) rfl rfl
      go_wp2_with fail
      refine F5.mono ?_
      rintro e y5 ⟨x5, o5, rfl, c5, z5, k5, P5⟩
      have j5 : y5.cell? ⟨w2.heap.size, 0, none⟩ = some (.int .i64 5) := k5
      have R5 : Hid (RP nm (w.heap.size + 1) (outR w) (w.heap.size + 1) (y5.setCell ⟨w2.heap.size, 4, none⟩ (.int .i64 x5)) fb w2.heap.size v F (head3 ++ [rep1]) ((fil head3 (x0F F) (zeroT 7)).2.1, upd (fil head3 (x0F F) (zeroT 7)).2.2 0 5) [⟨32, false, 4, 1, 1099511627776⟩]) := P5
      clear F5 P5 k5 HQ5 ce ck
      have F6 := R5.out.int (by decide) HTS.out 31 5 1 1099511627776 (by decide) rfl rfl
      go_wp2_with fail
      refine F6.mono ?_
      rintro e y6 ⟨x6, o6, rfl, c6, z6, k6, P6⟩
      have j6 : y6.cell? ⟨w2.heap.size, 0, none⟩ = some (.int .i64 5) := k6
      have R6 : Hid (RP nm (w.heap.size + 1) (outR w) (w.heap.size + 1) (y6.setCell ⟨w2.heap.size, 5, none⟩ (.int .i64 x6)) fb w2.heap.size v F (head3 ++ [rep1]) ((fil head3 (x0F F) (zeroT 7)).2.1, upd (fil head3 (x0F F) (zeroT 7)).2.2 0 5) [⟨32, false, 4, 1, 1099511627776⟩, ⟨31, false, 5, 1, 1099511627776⟩]) := P6
      clear F6 P6 k6 R5 c5 z5 j5
      have DN := RP.done R6.out HND.out
      have HBR : Hid (Below (w.heap.size + 1) (outR w) (y6.setCell ⟨w2.heap.size, 5, none⟩ (.int .i64 x6))) := RS.below R6.out
      obtain ⟨DT, DE, hDD⟩ : ∃ DT DE, doneE (runS (x0F F) ((listK 5).map Pl.want)) (F.map Prod.fst) = (DT, DE) := ⟨_, _, rfl⟩
      have HY : Hid ((doneE (runS (x0F F) ((listK 5).map Pl.want)) (F.map Prod.fst)).2 = 0 → DE = 0) := fun h => by rw [hDD] at h; exact h
      have HYB : Hid (DE = 0 → (doneE (runS (x0F F) ((listK 5).map Pl.want)) (F.map Prod.fst)).2 = 0) := fun h => by rw [hDD]; exact h
      have e1 : doneE (runS (x0F F) (((head3 ++ [rep1]) ++ ([⟨32, false, 4, 1, 1099511627776⟩, ⟨31, false, 5, 1, 1099511627776⟩] : List Pl)).map Pl.want)) (F.map Prod.fst) = (DT, DE) := hDD
      rw [e1] at DN
      dsimp only at DN
      clear e1
      have HDD : Hid (decT s.data.toList = (DT, DE)) := by show decT s.data.toList = _; rw [HDT.out]; exact hDD
      clear hDD R6
      go_wp2_with fail
      refine DN.mono ?_
      rintro e w9 ⟨u, rfl, T9, hu, b9⟩
      have HB9 : Hid (Below (w.heap.size + 1) (outR w) w9) := HBR.out.trans (b9.mono (lo_size HBR.out))
      have C9 : Hid (ThAt nm w9 w.heap.size (zeroT 0)) := C0.out.still (by rw [outR_size]; exact HB9.out)
      have HBW : Hid (Below w.heap.size w w9) := B0.out.trans (HB9.out.mono (by omega))
      have HT9 : Hid (ThAt nm w9 w2.heap.size u) := T9
      have HU : Hid (u = (fil ([⟨32, false, 4, 1, 1099511627776⟩, ⟨31, false, 5, 1, 1099511627776⟩] : List Pl) (runS (x0F F) ((head3 ++ [rep1]).map Pl.want)) ((fil head3 (x0F F) (zeroT 7)).2.1, upd (fil head3 (x0F F) (zeroT 7)).2.2 0 5)).2) := hu
      clear DN T9 hu b9 HBR HB9 c6 z6 j6
      by_cases hDE : DE = 0
      case neg =>
        have te : (DE == 0) = false := beq_false_of_ne hDE
        have HN : Hid (DE ≠ 0) := hDE
        clear hDE
        obtain ⟨r0, r1, r2, r3, r4, r5, r6⟩ := ThAt.zero C9.out
        have z := C9.out.fz
        have P : Hid (ThAt nm (put0 w9 w.heap.size) w.heap.size (zeroT 0)) := put_at C9.out (zeroT 0)
        have PB : Hid (But (fun j => j = w.heap.size) w9 (put0 w9 w.heap.size)) := put_but w9 w.heap.size (zeroT 0)
        go_wp2_with fail
        have P' := P.out
        have PB' := PB.out
        unfold put0 at P' PB'
        clear P PB
        generalize hW9 : World.setCell _ ⟨w.heap.size, 6, none⟩ _ = W9 at *
        obtain ⟨p0, p1, p2, p3, p4, p5, p6⟩ := ThAt.zero P'
        refine bodyPost_ret (v := .tuple #[.agg #[.int .i64 0, .int .i64 0, .string ⟨#[]⟩, .string ⟨#[]⟩, .int .i64 0, .int .i64 0, .string ⟨#[]⟩], .int .i64 DT, .int .i64 DE]) (by simp [results, Tryz.results8, go_sem, p0, p1, p2, p3, p4, p5, p6]) rfl ?_
        exact ⟨zeroT 0, by rw [HDD.out]; rfl, zero_same (by rw [HDD.out]; exact HN.out), HBW.out.trans (PB'.below HBW.out.size (fun i e => by have e' : i = w.heap.size := e; omega))⟩
      case pos =>
        have h0 : (decT s.data.toList).2 = 0 := by rw [HDD.out]; exact hDE
        have HSM : Hid (Same u (decA s.data.toList)) := by
          show Same u _
          rw [HAK.out h0, HU.out]
          have h1 := (done_run (HYB.out hDE)).1
          exact told7 (l := F) (K := 5) (by omega) h1
        have HZ : Hid (decT s.data.toList = (0, 0)) := (decT_zero h0).1
        clear h0
        subst hDE
        obtain ⟨r0, r1, r2, r3, r4, r5, r6⟩ := ThAt.zero C9.out
        have z := C9.out.fz
        obtain ⟨d0, d1, d2, d3, d4, d5, d6⟩ := ThAt.all HT9.out
        have P : Hid (ThAt nm (put7 w9 w.heap.size u) w.heap.size u) := put_at C9.out u
        have PB : Hid (But (fun j => j = w.heap.size) w9 (put7 w9 w.heap.size u)) := put_but w9 w.heap.size u
        go_wp2_with fail
        have P' := P.out
        have PB' := PB.out
        unfold put7 at P' PB'
        clear P PB
        generalize hW9 : World.setCell _ ⟨w.heap.size, 6, none⟩ _ = W9 at *
        obtain ⟨p0, p1, p2, p3, p4, p5, p6⟩ := ThAt.all P'
        refine bodyPost_ret (v := .tuple #[.agg #[.int .i64 (u.2 0), .int .i64 (u.2 1), .string (u.1 2), .string (u.1 3), .int .i64 (u.2 4), .int .i64 (u.2 5), .string (u.1 6)], .int .i64 0, .int .i64 0]) (by simp [results, Tryz.results8, go_sem, p0, p1, p2, p3, p4, p5, p6]) rfl ?_
        exact ⟨u, by rw [HZ.out]; rfl, HSM.out, HBW.out.trans (PB'.below HBW.out.size (fun i e => by have e' : i = w.heap.size := e; omega))⟩
end Go.Proofs.YtdbkoflejimibaaGreatDoor.PP.R
/-
  The fourteenth reference's DecodeReply: the way of the word 8, case d.
-/
namespace Go.Proofs.YtdbkoflejimibaaGreatDoor.PP.R
open Go.ChangeShapes Go.WideShapes Go.ChangeAt Go.RowKit Go.Lib

set_option maxRecDepth 100000 in
set_option maxHeartbeats 16000000 in
theorem refDecode_8d (s : ByteArray) (w : World) (hs : s.size ≤ 1000000) (hE : readE s.data.toList = 0) (hk : textOf (fieldsL s.data.toList).1 35 = ⟨#[56]⟩) (hq : kindOf (said (fieldsL s.data.toList).1) = 6) :
    Calls Tryz.prog 8 #[.string s] w (DecOk s.data.toList w) := by
  have RD := fun w => refRead_any s w hs
  obtain ⟨_, ⟨V35, rest, hl⟩, hnd⟩ := read_head hE
  have h35 : textOf (fieldsL s.data.toList).1 35 = V35 := textOf_mem hnd (by rw [hl]; simp)
  have TS := text_small s.data.toList
  obtain ⟨F, hF⟩ : ∃ F, (fieldsL s.data.toList).1 = F := ⟨_, rfl⟩
  have hF35 : textOf F 35 = V35 := by rw [← hF]; exact h35
  rw [h35] at hk
  rw [hF] at hq
  have kr := kind_range (said F)
  have hKK : kindOf (said F) = 6 := hq
  have hE4 : (runS (x0F F) ((head3 ++ [rep1]).map Pl.want)).2.2 = 0 := (said_err F).1 (fun h => by rw [h, kind_none] at hKK; omega)
  have HDT : Hid (decT s.data.toList = doneE (runS (x0F F) ((listK 6).map Pl.want)) (F.map Prod.fst)) := by
    show decT s.data.toList = _
    unfold decT decE
    rw [if_neg (by omega), hF, hF35, hk, if_neg (by decide), if_pos rfl, if_neg (fun q => by have := q.2; omega), hKK]
  have HAK : Hid ((decT s.data.toList).2 = 0 → decA s.data.toList = tolds (listK 6) F (zeroT 6)) := fun h => by
    unfold decA decK
    rw [if_pos h, hF, hF35, hk, if_neg (by decide), hKK]
  have HKK : Hid (kindOf (said F) = 6) := hKK
  obtain ⟨E4, hE4'⟩ : ∃ E4, (runS (x0F F) ((head3 ++ [rep1]).map Pl.want)).2.2 = E4 := ⟨_, rfl⟩
  rw [hE4'] at hE4
  have HE4 : Hid ((runS (x0F F) ((head3 ++ [rep1]).map Pl.want)).2.2 = E4) := hE4'
  clear hE4'
  subst hE4
  clear kr hKK hq
  subst hk
  have hk : True := trivial
  have HRD : Hid (∀ w e w', RRead s.data.toList w e w' → ∃ fb v, e = .returned (.tuple #[.pointer (some ⟨fb, 0, none⟩), .int .i64 0]) ∧ RSt w.heap.size (fun j => w.heap.size ≤ j) w w' fb v F ([], 0, 0)) := fun w e w' h => by
    rcases h with ⟨h1, _⟩ | ⟨_, fb, v, h1, h2⟩
    · exact absurd hE h1
    · rw [hF] at h2; exact ⟨fb, v, h1, h2⟩
  rw [hF] at hl hnd TS
  have HND : Hid ((F.map Prod.fst).Nodup) := hnd
  have HTS : Hid (∀ t s, textO F t = some s → s.size ≤ 100000) := TS
  clear h35 hF hF35 hnd TS hE
  clear hk
  have B0 : Hid (Below w.heap.size w (outR w)) := outR_below w
  have C0 : Hid (ThAt nm (outR w) w.heap.size (zeroT 0)) := outR_at w
  go_enter Tryz.func8, Tryz.ntmps8
  go_wp2_with fail
  refine (RD _).mono ?_
  intro e w1 hrd
  obtain ⟨fb, v, rfl, hS1⟩ := HRD.out _ _ _ hrd
  have K1 := refKind_any hS1 (by simp) _ rest hl
  clear RD hrd HRD hS1
  go_wp2_with fail
  refine K1.mono ?_
  rintro e w2 ⟨rfl, hS2⟩
  clear K1
  have Q2 : Hid (RP nm (w.heap.size + 1) (outR w) (w.heap.size + 1) (w2.alloc (.cells #[.int .i64 7, .int .i64 0, .string ⟨#[]⟩, .string ⟨#[]⟩, .int .i64 0, .int .i64 0, .string ⟨#[]⟩] 35)) fb w2.heap.size v F [] (zeroT 7) []) := (rs_begin hS2 (zeroT 7)).2
  clear hS2
  have F0 := Q2.out.int (by decide) HTS.out 34 1 1 1099511627776 (by decide) rfl rfl
  go_wp2_with fail
  refine F0.mono ?_
  rintro e y0 ⟨x0, o0, rfl, c0, z0, k0, P0⟩
  have j0 : y0.cell? ⟨w2.heap.size, 0, none⟩ = some (.int .i64 7) := k0
  have R0 : Hid (RP nm (w.heap.size + 1) (outR w) (w.heap.size + 1) (y0.setCell ⟨w2.heap.size, 1, none⟩ (.int .i64 x0)) fb w2.heap.size v F [] (zeroT 7) [⟨34, false, 1, 1, 1099511627776⟩]) := P0
  clear F0 P0 k0 Q2
  have F1 := R0.out.name (by decide) HTS.out 11 2 0 0 (by decide) rfl rfl
  go_wp2_with fail
  refine F1.mono ?_
  rintro e y1 ⟨x1, o1, rfl, c1, z1, k1, P1⟩
  have j1 : y1.cell? ⟨w2.heap.size, 0, none⟩ = some (.int .i64 7) := k1
  have R1 : Hid (RP nm (w.heap.size + 1) (outR w) (w.heap.size + 1) (y1.setCell ⟨w2.heap.size, 2, none⟩ (.string x1)) fb w2.heap.size v F [] (zeroT 7) [⟨34, false, 1, 1, 1099511627776⟩, ⟨11, true, 2, 0, 0⟩]) := P1
  clear F1 P1 k1 R0 c0 z0 j0
  have F2 := R1.out.name (by decide) HTS.out 17 3 0 0 (by decide) rfl rfl
  go_wp2_with fail
  refine F2.mono ?_
  rintro e y2 ⟨x2, o2, rfl, c2, z2, k2, P2⟩
  have j2 : y2.cell? ⟨w2.heap.size, 0, none⟩ = some (.int .i64 7) := k2
  have R2 : Hid (RP nm (w.heap.size + 1) (outR w) (w.heap.size + 1) (y2.setCell ⟨w2.heap.size, 3, none⟩ (.string x2)) fb w2.heap.size v F [] (zeroT 7) [⟨34, false, 1, 1, 1099511627776⟩, ⟨11, true, 2, 0, 0⟩, ⟨17, true, 3, 0, 0⟩]) := P2
  clear F2 P2 k2 R1 c1 z1 j1
  have F3 := R2.out.ask (by decide) HTS.out rep1 rfl
  dsimp only at F3
  go_wp2_with fail
  refine F3.mono ?_
  rintro e y3 ⟨x3, rfl, hx3, P3⟩
  have HX : Hid (x3 = said F) := hx3
  have c3 : y3.cell? ⟨w2.heap.size, 0, none⟩ = some (.int .i64 7) := RS.th P3 |>.num (j := 0) (by omega) rfl
  have z3 := (RS.th P3).fz 0
  have Q4 : Hid (RP nm (w.heap.size + 1) (outR w) (w.heap.size + 1) (y3.setCell ⟨w2.heap.size, 0, none⟩ (.int .i64 0)) fb w2.heap.size v F (head3 ++ [rep1]) ((fil head3 (x0F F) (zeroT 7)).2.1, upd (fil head3 (x0F F) (zeroT 7)).2.2 0 (bestK (said F) 1)) []) := by
    have := RP.kind P3 rfl 0
    rw [best_1]
    exact this
  clear F3 P3 hx3 R2 c2 z2 j2
  go_wp2_with fail
  go_loopw [10] (fun i wr => ∃ k : Nat, i = .int .i64 (k : Int) ∧ 1 ≤ k ∧ k ≤ 7 ∧ Hid (RP nm (w.heap.size + 1) (outR w) (w.heap.size + 1) wr fb w2.heap.size v F (head3 ++ [rep1]) ((fil head3 (x0F F) (zeroT 7)).2.1, upd (fil head3 (x0F F) (zeroT 7)).2.2 0 (bestK (said F) (k : Int))) [])) (fun i _ => 7 - (RowKit.intOf i).toNat)
  case atStart => exact ⟨1, rfl, by omega, by omega, Q4⟩
  case round =>
    clear Q4 c3 z3
    obtain ⟨k, rfl, hk1, hk7, HQ⟩ := hrel
    by_cases hlt : k < 7
    · have t7 : (k : Int) < 7 := by omega
      have WD := refWord_any (k : Int) (by omega) (by omega) wr
      have HI : Hid (wordK (k : Int) = said F ↔ kindOf (said F) = (k : Int)) := word_iff (by omega) (by omega)
      have HLT : Hid (1 ≤ k ∧ k < 7) := ⟨hk1, hlt⟩
      have bq := beq_bytes (wordK (k : Int)) x3
      by_cases hq : kindOf (said F) = (k : Int)
      · have HN : Hid (bestK (said F) ((k : Int) + 1) = (k : Int)) := best_eq hq
        rw [decide_eq_true (by rw [HX.out]; exact HI.out.2 hq)] at bq
        generalize wordK (k : Int) = wk at WD bq
        clear hk1 hk7 hlt HI hq
        go_wp2_with fail
        refine WD.mono ?_
        rintro e y4 ⟨rfl, b4⟩
        have S4 := RS.still HQ.out b4
        have c4 := S4.th.num (j := 0) (by omega) rfl
        have z4 := S4.th.fz 0
        have HQ4 : Hid (RP nm (w.heap.size + 1) (outR w) (w.heap.size + 1) (y4.setCell ⟨w2.heap.size, 0, none⟩ (.int .i64 (k : Int))) fb w2.heap.size v F (head3 ++ [rep1]) ((fil head3 (x0F F) (zeroT 7)).2.1, upd (fil head3 (x0F F) (zeroT 7)).2.2 0 (bestK (said F) ((k : Int) + 1))) []) := by
          rw [HN.out, ← upd_upd _ (bestK (said F) (k : Int))]
          exact RP.kind S4 rfl (k : Int)
        clear WD b4 S4 HQ
        go_wp2_with fail
        go_roundw
        case rel => exact ⟨k + 1, by simp, by omega, by have := HLT.out; omega, by exact HQ4⟩
        case measure => have := HLT.out; simp [RowKit.intOf]; omega
      · have HN : Hid (bestK (said F) ((k : Int) + 1) = bestK (said F) (k : Int)) := best_ne hq
        rw [decide_eq_false (by rw [HX.out]; exact fun e => hq (HI.out.1 e))] at bq
        generalize wordK (k : Int) = wk at WD bq
        clear hk1 hk7 hlt HI hq
        go_wp2_with fail
        refine WD.mono ?_
        rintro e y4 ⟨rfl, b4⟩
        have HQ4 : Hid (RP nm (w.heap.size + 1) (outR w) (w.heap.size + 1) y4 fb w2.heap.size v F (head3 ++ [rep1]) ((fil head3 (x0F F) (zeroT 7)).2.1, upd (fil head3 (x0F F) (zeroT 7)).2.2 0 (bestK (said F) ((k : Int) + 1))) []) := by
          rw [HN.out]
          exact RS.still HQ.out b4
        clear WD b4 HQ
        go_wp2_with fail
        go_roundw
        case rel => exact ⟨k + 1, by simp, by omega, by have := HLT.out; omega, by exact HQ4⟩
        case measure => have := HLT.out; simp [RowKit.intOf]; omega
    · obtain rfl : k = 7 := by omega
      have t7 : ¬ ((7 : Nat) : Int) < 7 := by omega
      have HQ5 : Hid (RP nm (w.heap.size + 1) (outR w) (w.heap.size + 1) wr fb w2.heap.size v F (head3 ++ [rep1]) ((fil head3 (x0F F) (zeroT 7)).2.1, upd (fil head3 (x0F F) (zeroT 7)).2.2 0 6) []) := by
        have := HQ.out
        rw [show ((7 : Nat) : Int) = 7 from rfl, best_7, HKK.out] at this
        exact this
      have ce := RP.err HQ5.out
      rw [show (head3 ++ [rep1] ++ ([] : List Pl)) = head3 ++ [rep1] from rfl, HE4.out] at ce
      have ck : wr.cell? ⟨w2.heap.size, 0, none⟩ = some (.int .i64 6) := (RS.th HQ5.out).num (j := 0) (by omega) rfl
      clear hk1 hk7 hlt HQ
      have F5 := HQ5.out.name (by decide) HTS.out 19 6 0 0 (by decide) rfl rfl
      go_wp2_with fail
      refine F5.mono ?_
      rintro e y5 ⟨x5, o5, rfl, c5, z5, k5, P5⟩
      have j5 : y5.cell? ⟨w2.heap.size, 0, none⟩ = some (.int .i64 6) := k5
      have R5 : Hid (RP nm (w.heap.size + 1) (outR w) (w.heap.size + 1) (y5.setCell ⟨w2.heap.size, 6, none⟩ (.string x5)) fb w2.heap.size v F (head3 ++ [rep1]) ((fil head3 (x0F F) (zeroT 7)).2.1, upd (fil head3 (x0F F) (zeroT 7)).2.2 0 6) [⟨19, true, 6, 0, 0⟩]) := P5
      clear F5 P5 k5 HQ5 ce ck
      have DN := RP.done R5.out HND.out
      have HBR : Hid (Below (w.heap.size + 1) (outR w) (y5.setCell ⟨w2.heap.size, 6, none⟩ (.string x5))) := RS.below R5.out
      obtain ⟨DT, DE, hDD⟩ : ∃ DT DE, doneE (runS (x0F F) ((listK 6).map Pl.want)) (F.map Prod.fst) = (DT, DE) := ⟨_, _, rfl⟩
      have HY : Hid ((doneE (runS (x0F F) ((listK 6).map Pl.want)) (F.map Prod.fst)).2 = 0 → DE = 0) := fun h => by rw [hDD] at h; exact h
      have HYB : Hid (DE = 0 → (doneE (runS (x0F F) ((listK 6).map Pl.want)) (F.map Prod.fst)).2 = 0) := fun h => by rw [hDD]; exact h
      have e1 : doneE (runS (x0F F) (((head3 ++ [rep1]) ++ ([⟨19, true, 6, 0, 0⟩] : List Pl)).map Pl.want)) (F.map Prod.fst) = (DT, DE) := hDD
      rw [e1] at DN
      dsimp only at DN
      clear e1
      have HDD : Hid (decT s.data.toList = (DT, DE)) := by show decT s.data.toList = _; rw [HDT.out]; exact hDD
      clear hDD R5
      go_wp2_with fail
      refine DN.mono ?_
      rintro e w9 ⟨u, rfl, T9, hu, b9⟩
      have HB9 : Hid (Below (w.heap.size + 1) (outR w) w9) := HBR.out.trans (b9.mono (lo_size HBR.out))
      have C9 : Hid (ThAt nm w9 w.heap.size (zeroT 0)) := C0.out.still (by rw [outR_size]; exact HB9.out)
      have HBW : Hid (Below w.heap.size w w9) := B0.out.trans (HB9.out.mono (by omega))
      have HT9 : Hid (ThAt nm w9 w2.heap.size u) := T9
      have HU : Hid (u = (fil ([⟨19, true, 6, 0, 0⟩] : List Pl) (runS (x0F F) ((head3 ++ [rep1]).map Pl.want)) ((fil head3 (x0F F) (zeroT 7)).2.1, upd (fil head3 (x0F F) (zeroT 7)).2.2 0 6)).2) := hu
      clear DN T9 hu b9 HBR HB9 c5 z5 j5
      by_cases hDE : DE = 0
      case neg =>
        have te : (DE == 0) = false := beq_false_of_ne hDE
        have HN : Hid (DE ≠ 0) := hDE
        clear hDE
        obtain ⟨r0, r1, r2, r3, r4, r5, r6⟩ := ThAt.zero C9.out
        have z := C9.out.fz
        have P : Hid (ThAt nm (put0 w9 w.heap.size) w.heap.size (zeroT 0)) := put_at C9.out (zeroT 0)
        have PB : Hid (But (fun j => j = w.heap.size) w9 (put0 w9 w.heap.size)) := put_but w9 w.heap.size (zeroT 0)
        go_wp2_with fail
        have P' := P.out
        have PB' := PB.out
        unfold put0 at P' PB'
        clear P PB
        generalize hW9 : World.setCell _ ⟨w.heap.size, 6, none⟩ _ = W9 at *
        obtain ⟨p0, p1, p2, p3, p4, p5, p6⟩ := ThAt.zero P'
        refine bodyPost_ret (v := .tuple #[.agg #[.int .i64 0, .int .i64 0, .string ⟨#[]⟩, .string ⟨#[]⟩, .int .i64 0, .int .i64 0, .string ⟨#[]⟩], .int .i64 DT, .int .i64 DE]) (by simp [results, Tryz.results8, go_sem, p0, p1, p2, p3, p4, p5, p6]) rfl ?_
        exact ⟨zeroT 0, by rw [HDD.out]; rfl, zero_same (by rw [HDD.out]; exact HN.out), HBW.out.trans (PB'.below HBW.out.size (fun i e => by have e' : i = w.heap.size := e; omega))⟩
      case pos =>
        have h0 : (decT s.data.toList).2 = 0 := by rw [HDD.out]; exact hDE
        have HSM : Hid (Same u (decA s.data.toList)) := by
          show Same u _
          rw [HAK.out h0, HU.out]
          have h1 := (done_run (HYB.out hDE)).1
          exact told7 (l := F) (K := 6) (by omega) h1
        have HZ : Hid (decT s.data.toList = (0, 0)) := (decT_zero h0).1
        clear h0
        subst hDE
        obtain ⟨r0, r1, r2, r3, r4, r5, r6⟩ := ThAt.zero C9.out
        have z := C9.out.fz
        obtain ⟨d0, d1, d2, d3, d4, d5, d6⟩ := ThAt.all HT9.out
        have P : Hid (ThAt nm (put7 w9 w.heap.size u) w.heap.size u) := put_at C9.out u
        have PB : Hid (But (fun j => j = w.heap.size) w9 (put7 w9 w.heap.size u)) := put_but w9 w.heap.size u
        go_wp2_with fail
        have P' := P.out
        have PB' := PB.out
        unfold put7 at P' PB'
        clear P PB
        generalize hW9 : World.setCell _ ⟨w.heap.size, 6, none⟩ _ = W9 at *
        obtain ⟨p0, p1, p2, p3, p4, p5, p6⟩ := ThAt.all P'
        refine bodyPost_ret (v := .tuple #[.agg #[.int .i64 (u.2 0), .int .i64 (u.2 1), .string (u.1 2), .string (u.1 3), .int .i64 (u.2 4), .int .i64 (u.2 5), .string (u.1 6)], .int .i64 0, .int .i64 0]) (by simp [results, Tryz.results8, go_sem, p0, p1, p2, p3, p4, p5, p6]) rfl ?_
        exact ⟨u, by rw [HZ.out]; rfl, HSM.out, HBW.out.trans (PB'.below HBW.out.size (fun i e => by have e' : i = w.heap.size := e; omega))⟩
end Go.Proofs.YtdbkoflejimibaaGreatDoor.PP.R
/-
  The fourteenth reference's DecodeReply: the way of the word 8, case e.
-/
namespace Go.Proofs.YtdbkoflejimibaaGreatDoor.PP.R
open Go.ChangeShapes Go.WideShapes Go.ChangeAt Go.RowKit Go.Lib

set_option maxRecDepth 100000 in
set_option maxHeartbeats 16000000 in
theorem refDecode_8e (s : ByteArray) (w : World) (hs : s.size ≤ 1000000) (hE : readE s.data.toList = 0) (hk : textOf (fieldsL s.data.toList).1 35 = ⟨#[56]⟩) {K : Int} (hq : kindOf (said (fieldsL s.data.toList).1) = K) (hK0 : K ≠ 0) (hK5 : K ≠ 5) (hK6 : K ≠ 6) :
    Calls Tryz.prog 8 #[.string s] w (DecOk s.data.toList w) := by
  have RD := fun w => refRead_any s w hs
  obtain ⟨_, ⟨V35, rest, hl⟩, hnd⟩ := read_head hE
  have h35 : textOf (fieldsL s.data.toList).1 35 = V35 := textOf_mem hnd (by rw [hl]; simp)
  have TS := text_small s.data.toList
  obtain ⟨F, hF⟩ : ∃ F, (fieldsL s.data.toList).1 = F := ⟨_, rfl⟩
  have hF35 : textOf F 35 = V35 := by rw [← hF]; exact h35
  rw [h35] at hk
  rw [hF] at hq
  have kr := kind_range (said F)
  have hKK : kindOf (said F) = K := hq
  have hE4 : (runS (x0F F) ((head3 ++ [rep1]).map Pl.want)).2.2 = 0 := (said_err F).1 (fun h => by rw [h, kind_none] at hKK; omega)
  have HDT : Hid (decT s.data.toList = doneE (runS (x0F F) ((listK K).map Pl.want)) (F.map Prod.fst)) := by
    show decT s.data.toList = _
    unfold decT decE
    rw [if_neg (by omega), hF, hF35, hk, if_neg (by decide), if_pos rfl, if_neg (fun q => by have := q.2; omega), hKK]
  have HAK : Hid ((decT s.data.toList).2 = 0 → decA s.data.toList = tolds (listK K) F (zeroT K)) := fun h => by
    unfold decA decK
    rw [if_pos h, hF, hF35, hk, if_neg (by decide), hKK]
  have HKK : Hid (kindOf (said F) = K) := hKK
  obtain ⟨E4, hE4'⟩ : ∃ E4, (runS (x0F F) ((head3 ++ [rep1]).map Pl.want)).2.2 = E4 := ⟨_, rfl⟩
  rw [hE4'] at hE4
  have HE4 : Hid ((runS (x0F F) ((head3 ++ [rep1]).map Pl.want)).2.2 = E4) := hE4'
  clear hE4'
  subst hE4
  have HKR : Hid (1 ≤ K ∧ K ≤ 6) := by show 1 ≤ K ∧ K ≤ 6; rw [hKK] at kr; omega
  have t0 : (K == 0) = false := beq_false_of_ne hK0
  have t5 : (K == 5) = false := beq_false_of_ne hK5
  have t6 : (K == 6) = false := beq_false_of_ne hK6
  have s0 : ¬ K = 0 := hK0
  clear kr hKK hq hK0 hK5 hK6
  subst hk
  have hk : True := trivial
  have HRD : Hid (∀ w e w', RRead s.data.toList w e w' → ∃ fb v, e = .returned (.tuple #[.pointer (some ⟨fb, 0, none⟩), .int .i64 0]) ∧ RSt w.heap.size (fun j => w.heap.size ≤ j) w w' fb v F ([], 0, 0)) := fun w e w' h => by
    rcases h with ⟨h1, _⟩ | ⟨_, fb, v, h1, h2⟩
    · exact absurd hE h1
    · rw [hF] at h2; exact ⟨fb, v, h1, h2⟩
  rw [hF] at hl hnd TS
  have HND : Hid ((F.map Prod.fst).Nodup) := hnd
  have HTS : Hid (∀ t s, textO F t = some s → s.size ≤ 100000) := TS
  clear h35 hF hF35 hnd TS hE
  clear hk
  have B0 : Hid (Below w.heap.size w (outR w)) := outR_below w
  have C0 : Hid (ThAt nm (outR w) w.heap.size (zeroT 0)) := outR_at w
  go_enter Tryz.func8, Tryz.ntmps8
  go_wp2_with fail
  refine (RD _).mono ?_
  intro e w1 hrd
  obtain ⟨fb, v, rfl, hS1⟩ := HRD.out _ _ _ hrd
  have K1 := refKind_any hS1 (by simp) _ rest hl
  clear RD hrd HRD hS1
  go_wp2_with fail
  refine K1.mono ?_
  rintro e w2 ⟨rfl, hS2⟩
  clear K1
  have Q2 : Hid (RP nm (w.heap.size + 1) (outR w) (w.heap.size + 1) (w2.alloc (.cells #[.int .i64 7, .int .i64 0, .string ⟨#[]⟩, .string ⟨#[]⟩, .int .i64 0, .int .i64 0, .string ⟨#[]⟩] 35)) fb w2.heap.size v F [] (zeroT 7) []) := (rs_begin hS2 (zeroT 7)).2
  clear hS2
  have F0 := Q2.out.int (by decide) HTS.out 34 1 1 1099511627776 (by decide) rfl rfl
  go_wp2_with fail
  refine F0.mono ?_
  rintro e y0 ⟨x0, o0, rfl, c0, z0, k0, P0⟩
  have j0 : y0.cell? ⟨w2.heap.size, 0, none⟩ = some (.int .i64 7) := k0
  have R0 : Hid (RP nm (w.heap.size + 1) (outR w) (w.heap.size + 1) (y0.setCell ⟨w2.heap.size, 1, none⟩ (.int .i64 x0)) fb w2.heap.size v F [] (zeroT 7) [⟨34, false, 1, 1, 1099511627776⟩]) := P0
  clear F0 P0 k0 Q2
  have F1 := R0.out.name (by decide) HTS.out 11 2 0 0 (by decide) rfl rfl
  go_wp2_with fail
  refine F1.mono ?_
  rintro e y1 ⟨x1, o1, rfl, c1, z1, k1, P1⟩
  have j1 : y1.cell? ⟨w2.heap.size, 0, none⟩ = some (.int .i64 7) := k1
  have R1 : Hid (RP nm (w.heap.size + 1) (outR w) (w.heap.size + 1) (y1.setCell ⟨w2.heap.size, 2, none⟩ (.string x1)) fb w2.heap.size v F [] (zeroT 7) [⟨34, false, 1, 1, 1099511627776⟩, ⟨11, true, 2, 0, 0⟩]) := P1
  clear F1 P1 k1 R0 c0 z0 j0
  have F2 := R1.out.name (by decide) HTS.out 17 3 0 0 (by decide) rfl rfl
  go_wp2_with fail
  refine F2.mono ?_
  rintro e y2 ⟨x2, o2, rfl, c2, z2, k2, P2⟩
  have j2 : y2.cell? ⟨w2.heap.size, 0, none⟩ = some (.int .i64 7) := k2
  have R2 : Hid (RP nm (w.heap.size + 1) (outR w) (w.heap.size + 1) (y2.setCell ⟨w2.heap.size, 3, none⟩ (.string x2)) fb w2.heap.size v F [] (zeroT 7) [⟨34, false, 1, 1, 1099511627776⟩, ⟨11, true, 2, 0, 0⟩, ⟨17, true, 3, 0, 0⟩]) := P2
  clear F2 P2 k2 R1 c1 z1 j1
  have F3 := R2.out.ask (by decide) HTS.out rep1 rfl
  dsimp only at F3
  go_wp2_with fail
  refine F3.mono ?_
  rintro e y3 ⟨x3, rfl, hx3, P3⟩
  have HX : Hid (x3 = said F) := hx3
  have c3 : y3.cell? ⟨w2.heap.size, 0, none⟩ = some (.int .i64 7) := RS.th P3 |>.num (j := 0) (by omega) rfl
  have z3 := (RS.th P3).fz 0
  have Q4 : Hid (RP nm (w.heap.size + 1) (outR w) (w.heap.size + 1) (y3.setCell ⟨w2.heap.size, 0, none⟩ (.int .i64 0)) fb w2.heap.size v F (head3 ++ [rep1]) ((fil head3 (x0F F) (zeroT 7)).2.1, upd (fil head3 (x0F F) (zeroT 7)).2.2 0 (bestK (said F) 1)) []) := by
    have := RP.kind P3 rfl 0
    rw [best_1]
    exact this
  clear F3 P3 hx3 R2 c2 z2 j2
  go_wp2_with fail
  go_loopw [10] (fun i wr => ∃ k : Nat, i = .int .i64 (k : Int) ∧ 1 ≤ k ∧ k ≤ 7 ∧ Hid (RP nm (w.heap.size + 1) (outR w) (w.heap.size + 1) wr fb w2.heap.size v F (head3 ++ [rep1]) ((fil head3 (x0F F) (zeroT 7)).2.1, upd (fil head3 (x0F F) (zeroT 7)).2.2 0 (bestK (said F) (k : Int))) [])) (fun i _ => 7 - (RowKit.intOf i).toNat)
  case atStart => exact ⟨1, rfl, by omega, by omega, Q4⟩
  case round =>
    clear Q4 c3 z3
    obtain ⟨k, rfl, hk1, hk7, HQ⟩ := hrel
    by_cases hlt : k < 7
    · have t7 : (k : Int) < 7 := by omega
      have WD := refWord_any (k : Int) (by omega) (by omega) wr
      have HI : Hid (wordK (k : Int) = said F ↔ kindOf (said F) = (k : Int)) := word_iff (by omega) (by omega)
      have HLT : Hid (1 ≤ k ∧ k < 7) := ⟨hk1, hlt⟩
      have bq := beq_bytes (wordK (k : Int)) x3
      by_cases hq : kindOf (said F) = (k : Int)
      · have HN : Hid (bestK (said F) ((k : Int) + 1) = (k : Int)) := best_eq hq
        rw [decide_eq_true (by rw [HX.out]; exact HI.out.2 hq)] at bq
        generalize wordK (k : Int) = wk at WD bq
        clear hk1 hk7 hlt HI hq
        go_wp2_with fail
        refine WD.mono ?_
        rintro e y4 ⟨rfl, b4⟩
        have S4 := RS.still HQ.out b4
        have c4 := S4.th.num (j := 0) (by omega) rfl
        have z4 := S4.th.fz 0
        have HQ4 : Hid (RP nm (w.heap.size + 1) (outR w) (w.heap.size + 1) (y4.setCell ⟨w2.heap.size, 0, none⟩ (.int .i64 (k : Int))) fb w2.heap.size v F (head3 ++ [rep1]) ((fil head3 (x0F F) (zeroT 7)).2.1, upd (fil head3 (x0F F) (zeroT 7)).2.2 0 (bestK (said F) ((k : Int) + 1))) []) := by
          rw [HN.out, ← upd_upd _ (bestK (said F) (k : Int))]
          exact RP.kind S4 rfl (k : Int)
        clear WD b4 S4 HQ
        go_wp2_with fail
        go_roundw
        case rel => exact ⟨k + 1, by simp, by omega, by have := HLT.out; omega, by exact HQ4⟩
        case measure => have := HLT.out; simp [RowKit.intOf]; omega
      · have HN : Hid (bestK (said F) ((k : Int) + 1) = bestK (said F) (k : Int)) := best_ne hq
        rw [decide_eq_false (by rw [HX.out]; exact fun e => hq (HI.out.1 e))] at bq
        generalize wordK (k : Int) = wk at WD bq
        clear hk1 hk7 hlt HI hq
        go_wp2_with fail
        refine WD.mono ?_
        rintro e y4 ⟨rfl, b4⟩
        have HQ4 : Hid (RP nm (w.heap.size + 1) (outR w) (w.heap.size + 1) y4 fb w2.heap.size v F (head3 ++ [rep1]) ((fil head3 (x0F F) (zeroT 7)).2.1, upd (fil head3 (x0F F) (zeroT 7)).2.2 0 (bestK (said F) ((k : Int) + 1))) []) := by
          rw [HN.out]
          exact RS.still HQ.out b4
        clear WD b4 HQ
        go_wp2_with fail
        go_roundw
        case rel => exact ⟨k + 1, by simp, by omega, by have := HLT.out; omega, by exact HQ4⟩
        case measure => have := HLT.out; simp [RowKit.intOf]; omega
    · obtain rfl : k = 7 := by omega
      have t7 : ¬ ((7 : Nat) : Int) < 7 := by omega
      have HQ5 : Hid (RP nm (w.heap.size + 1) (outR w) (w.heap.size + 1) wr fb w2.heap.size v F (head3 ++ [rep1]) ((fil head3 (x0F F) (zeroT 7)).2.1, upd (fil head3 (x0F F) (zeroT 7)).2.2 0 K) []) := by
        have := HQ.out
        rw [show ((7 : Nat) : Int) = 7 from rfl, best_7, HKK.out] at this
        exact this
      have ce := RP.err HQ5.out
      rw [show (head3 ++ [rep1] ++ ([] : List Pl)) = head3 ++ [rep1] from rfl, HE4.out] at ce
      have ck : wr.cell? ⟨w2.heap.size, 0, none⟩ = some (.int .i64 K) := (RS.th HQ5.out).num (j := 0) (by omega) rfl
      clear hk1 hk7 hlt HQ
      have HL0 : Hid (listK K = head3 ++ [rep1]) := by
        show listK K = _
        have := HKR.out
        rw [listK_0 (ne_of_beq_false t5) (ne_of_beq_false t6) (by omega)]
        rfl
      have DN := RP.done HQ5.out HND.out
      have HBR : Hid (Below (w.heap.size + 1) (outR w) wr) := RS.below HQ5.out
      obtain ⟨DT, DE, hDD⟩ : ∃ DT DE, doneE (runS (x0F F) ((listK K).map Pl.want)) (F.map Prod.fst) = (DT, DE) := ⟨_, _, rfl⟩
      have HY : Hid ((doneE (runS (x0F F) ((listK K).map Pl.want)) (F.map Prod.fst)).2 = 0 → DE = 0) := fun h => by rw [hDD] at h; exact h
      have HYB : Hid (DE = 0 → (doneE (runS (x0F F) ((listK K).map Pl.want)) (F.map Prod.fst)).2 = 0) := fun h => by rw [hDD]; exact h
      have e1 : doneE (runS (x0F F) (((head3 ++ [rep1]) ++ ([] : List Pl)).map Pl.want)) (F.map Prod.fst) = (DT, DE) := by rw [← hDD, HL0.out]; rfl
      rw [e1] at DN
      dsimp only at DN
      clear e1
      have HDD : Hid (decT s.data.toList = (DT, DE)) := by show decT s.data.toList = _; rw [HDT.out]; exact hDD
      clear hDD HQ5
      go_wp2_with fail
      refine DN.mono ?_
      rintro e w9 ⟨u, rfl, T9, hu, b9⟩
      have HB9 : Hid (Below (w.heap.size + 1) (outR w) w9) := HBR.out.trans (b9.mono (lo_size HBR.out))
      have C9 : Hid (ThAt nm w9 w.heap.size (zeroT 0)) := C0.out.still (by rw [outR_size]; exact HB9.out)
      have HBW : Hid (Below w.heap.size w w9) := B0.out.trans (HB9.out.mono (by omega))
      have HT9 : Hid (ThAt nm w9 w2.heap.size u) := T9
      have HU : Hid (u = (fil ([] : List Pl) (runS (x0F F) ((head3 ++ [rep1]).map Pl.want)) ((fil head3 (x0F F) (zeroT 7)).2.1, upd (fil head3 (x0F F) (zeroT 7)).2.2 0 K)).2) := hu
      clear DN T9 hu b9 HBR HB9 ce ck
      by_cases hDE : DE = 0
      case neg =>
        have te : (DE == 0) = false := beq_false_of_ne hDE
        have HN : Hid (DE ≠ 0) := hDE
        clear hDE
        obtain ⟨r0, r1, r2, r3, r4, r5, r6⟩ := ThAt.zero C9.out
        have z := C9.out.fz
        have P : Hid (ThAt nm (put0 w9 w.heap.size) w.heap.size (zeroT 0)) := put_at C9.out (zeroT 0)
        have PB : Hid (But (fun j => j = w.heap.size) w9 (put0 w9 w.heap.size)) := put_but w9 w.heap.size (zeroT 0)
        go_wp2_with fail
        have P' := P.out
        have PB' := PB.out
        unfold put0 at P' PB'
        clear P PB
        generalize hW9 : World.setCell _ ⟨w.heap.size, 6, none⟩ _ = W9 at *
        obtain ⟨p0, p1, p2, p3, p4, p5, p6⟩ := ThAt.zero P'
        refine bodyPost_ret (v := .tuple #[.agg #[.int .i64 0, .int .i64 0, .string ⟨#[]⟩, .string ⟨#[]⟩, .int .i64 0, .int .i64 0, .string ⟨#[]⟩], .int .i64 DT, .int .i64 DE]) (by simp [results, Tryz.results8, go_sem, p0, p1, p2, p3, p4, p5, p6]) rfl ?_
        exact ⟨zeroT 0, by rw [HDD.out]; rfl, zero_same (by rw [HDD.out]; exact HN.out), HBW.out.trans (PB'.below HBW.out.size (fun i e => by have e' : i = w.heap.size := e; omega))⟩
      case pos =>
        have h0 : (decT s.data.toList).2 = 0 := by rw [HDD.out]; exact hDE
        have HSM : Hid (Same u (decA s.data.toList)) := by
          show Same u _
          rw [HAK.out h0, HU.out]
          have h1 := (done_run (HYB.out hDE)).1
          have hT : tailK K = [] := by unfold tailK; rw [if_neg (ne_of_beq_false t5), if_neg (ne_of_beq_false t6)]
          have := told7 (l := F) (K := K) (by have := HKR.out; omega) h1
          rw [hT] at this
          exact this
        have HZ : Hid (decT s.data.toList = (0, 0)) := (decT_zero h0).1
        clear h0
        subst hDE
        obtain ⟨r0, r1, r2, r3, r4, r5, r6⟩ := ThAt.zero C9.out
        have z := C9.out.fz
        obtain ⟨d0, d1, d2, d3, d4, d5, d6⟩ := ThAt.all HT9.out
        have P : Hid (ThAt nm (put7 w9 w.heap.size u) w.heap.size u) := put_at C9.out u
        have PB : Hid (But (fun j => j = w.heap.size) w9 (put7 w9 w.heap.size u)) := put_but w9 w.heap.size u
        go_wp2_with fail
        have P' := P.out
        have PB' := PB.out
        unfold put7 at P' PB'
        clear P PB
        generalize hW9 : World.setCell _ ⟨w.heap.size, 6, none⟩ _ = W9 at *
        obtain ⟨p0, p1, p2, p3, p4, p5, p6⟩ := ThAt.all P'
        refine bodyPost_ret (v := .tuple #[.agg #[.int .i64 (u.2 0), .int .i64 (u.2 1), .string (u.1 2), .string (u.1 3), .int .i64 (u.2 4), .int .i64 (u.2 5), .string (u.1 6)], .int .i64 0, .int .i64 0]) (by simp [results, Tryz.results8, go_sem, p0, p1, p2, p3, p4, p5, p6]) rfl ?_
        exact ⟨u, by rw [HZ.out]; rfl, HSM.out, HBW.out.trans (PB'.below HBW.out.size (fun i e => by have e' : i = w.heap.size := e; omega))⟩
end Go.Proofs.YtdbkoflejimibaaGreatDoor.PP.R
/-
  The contract of the fourteenth reference's DecodeReply, for every text.
-/
namespace Go.Proofs.YtdbkoflejimibaaGreatDoor.PP.R
open Go.ChangeShapes Go.WideShapes Go.ChangeAt Go.RowKit Go.Lib

theorem refDecode_any (s : ByteArray) (w : World) (hs : s.size ≤ 1000000) : Calls Tryz.prog 8 #[.string s] w (DecOk s.data.toList w) := by
  by_cases hE : readE s.data.toList = 0
  · by_cases e9 : textOf (fieldsL s.data.toList).1 35 = ⟨#[57]⟩
    · exact refDecode_9 s w hs hE e9
    · by_cases e8 : textOf (fieldsL s.data.toList).1 35 = ⟨#[56]⟩
      · by_cases k0 : kindOf (said (fieldsL s.data.toList).1) = 0
        · by_cases n : said (fieldsL s.data.toList).1 = noText
          · exact refDecode_8b s w hs hE e8 n
          · exact refDecode_8a s w hs hE e8 ⟨n, k0⟩
        · by_cases k5 : kindOf (said (fieldsL s.data.toList).1) = 5
          · exact refDecode_8c s w hs hE e8 k5
          · by_cases k6 : kindOf (said (fieldsL s.data.toList).1) = 6
            · exact refDecode_8d s w hs hE e8 k6
            · exact refDecode_8e s w hs hE e8 rfl k0 k5 k6
      · exact refDecode_none s w hs hE ⟨e8, e9⟩
  · exact refDecode_read s w hs hE
end Go.Proofs.YtdbkoflejimibaaGreatDoor.PP.R
