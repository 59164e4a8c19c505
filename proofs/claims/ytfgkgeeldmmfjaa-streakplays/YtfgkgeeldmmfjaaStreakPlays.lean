/-
  StreakPlays: every play of executions is the document's: how many are the same, and whether there ever were too many. For every most and every list of steps, no condition.
-/
import Derived.Test.YtfgkgeeldmmfjaaStrDuo
import Derived.Test.YtfgkgeeldmmfjaaStrAwake
import Derived.Test.YtfgkgeeldmmfjaaFrame7
namespace Go.Proofs.Ytfgkgeeldmmfjaa
open Go.ChangeShapes Go.WideShapes Go.ChangeAt Go.RowKit Go.Lib

set_option maxRecDepth 100000 in
set_option maxHeartbeats 1000000 in
theorem plays_many (w : World) (most : Int) (a : Option Addr) (n cap : Nat) (hn : 100 < n) :
    Calls Try.prog 3 #[.int .i64 most, .slice a n cap] w fun e w' => e = .returned (.bool true) ∧ Below w.heap.size w w' := by
  have F1 := awake7_any w
  have t : (100 : Int) < (n : Int) := by omega
  go_enter Try.func3, Try.ntmps3
  go_wp2_with fail
  refine F1.mono ?_
  rintro e w1 ⟨rfl, hb⟩
  go_wp2_with fail
  go_ret
  exact ⟨rfl, hb⟩
set_option maxRecDepth 100000 in
set_option maxHeartbeats 1000000 in
theorem plays_low (w : World) (most : Int) (a : Option Addr) (n cap : Nat) (hn : ¬ 100 < n) (hr : most < 2) :
    Calls Try.prog 3 #[.int .i64 most, .slice a n cap] w fun e w' => e = .returned (.bool true) ∧ Below w.heap.size w w' := by
  have F1 := awake7_any w
  have F2 := fun w => new_no most w (.inl hr)
  have t : ¬ (100 : Int) < (n : Int) := by omega
  go_enter Try.func3, Try.ntmps3
  go_wp2_with fail
  refine F1.mono ?_
  rintro e w1 ⟨rfl, hb⟩
  go_wp2_with fail
  refine (F2 _).mono ?_
  rintro e w2 ⟨rfl, rfl⟩
  go_wp2_with fail
  go_ret
  exact ⟨by simp, hb⟩
set_option maxRecDepth 100000 in
set_option maxHeartbeats 1000000 in
theorem plays_high (w : World) (most : Int) (a : Option Addr) (n cap : Nat) (hn : ¬ 100 < n) (h1 : ¬ most < 2) (hr : 1024 < most) :
    Calls Try.prog 3 #[.int .i64 most, .slice a n cap] w fun e w' => e = .returned (.bool true) ∧ Below w.heap.size w w' := by
  have F1 := awake7_any w
  have F2 := fun w => new_no most w (.inr hr)
  have t : ¬ (100 : Int) < (n : Int) := by omega
  go_enter Try.func3, Try.ntmps3
  go_wp2_with fail
  refine F1.mono ?_
  rintro e w1 ⟨rfl, hb⟩
  go_wp2_with fail
  refine (F2 _).mono ?_
  rintro e w2 ⟨rfl, rfl⟩
  go_wp2_with fail
  go_ret
  exact ⟨by simp, hb⟩
set_option maxRecDepth 100000 in
set_option maxHeartbeats 16000000 in
theorem plays_main (w : World) (M : Nat) (v : Value) (n : Nat) (C : Nat → Bool) (V Q X : Nat → Int) (h : Ops w v n C V Q X) (hn : n ≤ 100) (m1 : 2 ≤ M) (m2 : M ≤ 1024) :
    Calls Try.prog 3 #[.int .i64 (M : Int), v] w fun e w' => e = .returned (.bool true) ∧ Below w.heap.size w w' := by
  have F1 := awake7_any w
  have F2 := fun w' => new_yes M w' m1 m2
  obtain ⟨a, cap, rfl, h1, h2, h3⟩ := h
  have t3 : ¬ (100 : Int) < (n : Int) := by omega
  have t4 : ¬ (M : Int) < 2 := by omega
  have t5 : ¬ (1024 : Int) < (M : Int) := by omega
  obtain ⟨i0, hi0, hz0, hzs, hzb⟩ := info_parts infoF
  go_enter Try.func3, Try.ntmps3
  go_wp2_with fail
  refine F1.mono ?_
  rintro e w1 ⟨rfl, B1⟩
  have z1 := B1.size
  go_wp2_with fail
  refine (F2 _).mono ?_
  rintro e w2 ⟨rfl, S2, B2, _⟩
  obtain ⟨P, hP⟩ : ∃ P, P = w1.heap.size := ⟨_, rfl⟩
  have D2 : Duo w P M w2 (.slice none 0 0) (fun _ => (0, 0, 0)) 0 (fun _ => (0, 0, 0)) 0 :=
    ⟨by rw [hP]; exact StrAt.none _ S2, World.ownsRow_nil _ _ _ _, by simp [Value.ownBlock], by rw [hP]; exact z1, B1.trans (B2.mono z1)⟩
  rw [← hP]
  clear hP S2 B2 F1 F2 B1 z1
  go_wp2_with fail
  go_loopw [7, 40] (fun va i wr => ∃ (k N : Nat) (f : Nat → Int × Int × Int), i = .int .i64 (k : Int) ∧ k ≤ n ∧ N ≤ k ∧ Duo w P M wr va f N f N) (fun _ i _ => n - (RowKit.intOf i).toNat)
  case atStart => exact ⟨0, 0, _, rfl, Nat.zero_le _, Nat.le_refl _, D2⟩
  case round =>
    clear D2
    obtain ⟨k, N, f, rfl, hk, hN, D⟩ := hrel
    by_cases hlt : k < n
    · have t : (k : Int) < (n : Int) := by omega
      obtain ⟨b, off, rfl, c0, c1, c2, c3⟩ := h3 k hlt
      have d0 : wr.cell? ⟨b, off + k * 4, none⟩ = some (.bool (C k)) := (D.below.cell (p := ⟨b, off + k * 4, none⟩) (World.block_lt_of_cell? _ _ c0)).trans c0
      have d1 : wr.cell? ⟨b, off + k * 4 + 1, none⟩ = some (.int .i64 (V k)) := (D.below.cell (p := ⟨b, off + k * 4 + 1, none⟩) (World.block_lt_of_cell? _ _ c1)).trans c1
      have d2 : wr.cell? ⟨b, off + k * 4 + 2, none⟩ = some (.int .i64 (Q k)) := (D.below.cell (p := ⟨b, off + k * 4 + 2, none⟩) (World.block_lt_of_cell? _ _ c2)).trans c2
      have d3 : wr.cell? ⟨b, off + k * 4 + 3, none⟩ = some (.int .i64 (X k)) := (D.below.cell (p := ⟨b, off + k * 4 + 3, none⟩) (World.block_lt_of_cell? _ _ c3)).trans c3
      clear c0 c1 c2 c3 h3
      generalize V k = v at *
      generalize Q k = q at *
      generalize X k = x at *
      cases hC : C k
      · rw [hC] at d0
        clear hC
        have D1 := D.still ((Below.refl _ wr).alloc (Nat.le_refl _) (.cells #[.bool false, .int .i64 v, .int .i64 q, .int .i64 x] 30))
        have D1 := D1.still ((Below.refl _ _).alloc (Nat.le_refl _) (.cells #[.int .i64 v, .int .i64 q, .int .i64 x] 32))
        have hown := D1.all
        have hz := D.below.size
        have hne : u7.ownBlock ≠ some wr.heap.size := fun e => by have := (D.all.lt _ e).2; omega
        have HD : Hid (Duo w P M ((wr.alloc (.cells #[.bool false, .int .i64 v, .int .i64 q, .int .i64 x] 30)).alloc (.cells #[.int .i64 v, .int .i64 q, .int .i64 x] 32)) u7 f N f N) := D1
        clear D D1
        go_wp2_with (at_builtin; refine wpList_append_own_at _ rfl _ _ 28 rfl w.heap.size 32 i0 (.agg #[.int .i64 0, .int .i64 0, .int .i64 0]) 3 24 Try.underlying28 hi0 hz0 hzs hzb rfl (by decide) _ _ _ rfl hown ⟨wr.heap.size + 1, 0, none⟩ 1 1 (fill3 (v, q, x)) rfl rfl ?hnews (fill3_one _) ?h63 ?hbytes ?hbase ?_)
        case hnews => exact cell_three_new wr _ (v, q, x) _
        case h63 => unfold maxLen; omega
        case hbytes => omega
        case hbase => first | omega | (simp; omega)
        intro v5 w5 hown5 hg5 _ hat5
        have D5 := HD.out.more hg5 (by simpa using hat5) hown5
        have K5 := But.of_grown hg5
        have lt5 : wr.heap.size < ((wr.alloc (.cells #[.bool false, .int .i64 v, .int .i64 q, .int .i64 x] 30)).alloc (.cells #[.int .i64 v, .int .i64 q, .int .i64 x] 32)).heap.size := by simp; omega
        have b1 : w5.cell? ⟨wr.heap.size, 1, none⟩ = some (.int .i64 v) := by rw [K5.cell lt5 hne]; simp
        have b2 : w5.cell? ⟨wr.heap.size, 2, none⟩ = some (.int .i64 q) := by rw [K5.cell lt5 hne]; simp
        have b3 : w5.cell? ⟨wr.heap.size, 3, none⟩ = some (.int .i64 x) := by rw [K5.cell lt5 hne]; simp
        have G5 : Calls Try.prog 9 #[.pointer (some ⟨P, 0, none⟩), .int .i64 v, .int .i64 q, .int .i64 x] w5 fun e w' => e = .returned (.bool (tripB (upd f N (v, q, x)) M (N + 1))) ∧ StrAt w' P M (upd f N (v, q, x)) (N + 1) ∧ But (fun k => k = P) w5 w' := note_next D5.str m1 m2 (by omega) (v, q, x)
        obtain ⟨g, hg⟩ : ∃ g, upd f N (v, q, x) = g := ⟨_, rfl⟩
        rw [hg] at D5 G5
        clear hg hown5 hg5 hat5 hown HD K5 lt5 hne d0 d1 d2 d3
        have HD : Hid (Duo w P M w5 v5 g (N + 1) f N) := D5
        clear D5
        obtain ⟨T, hT⟩ : ∃ T, tripB g M (N + 1) = T := ⟨_, rfl⟩
        rw [hT] at G5
        go_wp2_with fail
        refine G5.mono ?_
        rintro e w6 ⟨rfl, S6, k6⟩
        have D6 := HD.out.put S6 k6
        have G6 := refTripped_any (fills_of_own D6.all) (by omega) M
        rw [hT] at G6
        clear hT S6 k6 HD G5 b1 b2 b3
        go_wp2_with fail
        refine G6.mono ?_
        rintro e w7 ⟨rfl, m7, hw7⟩
        have D7 := D6.drewN m7
        rw [← hw7] at D7
        clear G6 D6 hw7
        have D6 := D7
        clear D7
        have G7 := count_any D6.str m1
        have HC : Hid (Fills w7 v5 (N + 1) g) := fills_of_own D6.all
        have G8 := refCount_any HC.out (by omega)
        obtain ⟨R, hR⟩ : ∃ R, runOf g (N + 1) = R := ⟨_, rfl⟩
        rw [hR] at G7 G8
        clear hR
        go_wp2_with fail
        refine G7.mono ?_
        rintro e w8 ⟨rfl, rfl⟩
        clear G7
        go_wp2_with fail
        refine G8.mono ?_
        rintro e w9 ⟨rfl, m9, hw9⟩
        have D9 := D6.drewN m9
        rw [← hw9] at D9
        clear G8 D6 hw9 HC
        have G9 := tripped_any D9.str m1
        have G10 := refTripped_any (fills_of_own D9.all) (by omega) M
        obtain ⟨T, hT⟩ : ∃ T, tripB g M (N + 1) = T := ⟨_, rfl⟩
        rw [hT] at G9 G10
        clear hT
        go_wp2_with fail
        refine G9.mono ?_
        rintro e w10 ⟨rfl, rfl⟩
        clear G9
        go_wp2_with fail
        refine G10.mono ?_
        rintro e w11 ⟨rfl, m11, hw11⟩
        have D11 := D9.drewN m11
        rw [← hw11] at D11
        clear G10 D9 hw11
        go_wp2_with fail
        go_roundw
        case rel => exact ⟨k + 1, N + 1, g, by simp, by omega, by omega, D11⟩
        case measure => simp [RowKit.intOf]; omega
      · rw [hC] at d0
        clear hC
        have D1 := D.still ((Below.refl _ wr).alloc (Nat.le_refl _) (.cells #[.bool true, .int .i64 v, .int .i64 q, .int .i64 x] 30))
        have G1 := clear_any D1.str m1
        have HD : Hid (Duo w P M (wr.alloc (.cells #[.bool true, .int .i64 v, .int .i64 q, .int .i64 x] 30)) u7 f N f N) := D1
        clear D D1
        go_wp2_with fail
        refine G1.mono ?_
        rintro e w6 ⟨rfl, S6, k6⟩
        have D6 := (HD.out.put (StrAt.none f S6) k6).anew
        clear HD G1 S6 k6 d0 d1 d2 d3
        have G7 := count_any D6.str m1
        have HC : Hid (Fills w6 (.slice none 0 0) 0 f) := fills_of_own D6.all
        have G8 := refCount_any HC.out (by omega)
        obtain ⟨R, hR⟩ : ∃ R, runOf f 0 = R := ⟨_, rfl⟩
        rw [hR] at G7 G8
        clear hR
        go_wp2_with fail
        refine G7.mono ?_
        rintro e w8 ⟨rfl, rfl⟩
        clear G7
        go_wp2_with fail
        refine G8.mono ?_
        rintro e w9 ⟨rfl, m9, hw9⟩
        have D9 := D6.drewN m9
        rw [← hw9] at D9
        clear G8 D6 hw9 HC
        have G9 := tripped_any D9.str m1
        have G10 := refTripped_any (fills_of_own D9.all) (by omega) M
        obtain ⟨T, hT⟩ : ∃ T, tripB f M 0 = T := ⟨_, rfl⟩
        rw [hT] at G9 G10
        clear hT
        go_wp2_with fail
        refine G9.mono ?_
        rintro e w10 ⟨rfl, rfl⟩
        clear G9
        go_wp2_with fail
        refine G10.mono ?_
        rintro e w11 ⟨rfl, m11, hw11⟩
        have D11 := D9.drewN m11
        rw [← hw11] at D11
        clear G10 D9 hw11
        go_wp2_with fail
        go_roundw
        case rel => exact ⟨k + 1, 0, f, by simp, by omega, by omega, D11⟩
        case measure => simp [RowKit.intOf]; omega
    · obtain rfl : k = n := by omega
      have t : ¬ (k : Int) < (k : Int) := by omega
      have BF := D.below
      clear h3 D
      go_wp2_with fail
      go_ret
      exact ⟨rfl, BF⟩
theorem streakPlays_walk (w : World) (most : Int) (_bd : -9223372036854775808 ≤ most ∧ most ≤ 9223372036854775807) (v : Value) (n : Nat) (C : Nat → Bool) (V Q X : Nat → Int) (h : Ops w v n C V Q X) :
    Calls Try.prog 3 #[.int .i64 most, v] w fun e w' => e = .returned (.bool true) ∧ Below w.heap.size w w' := by
  obtain ⟨a, cap, rfl, _⟩ := id h
  by_cases hn : 100 < n
  · exact plays_many w most a n cap hn
  by_cases h1 : most < 2
  · exact plays_low w most a n cap hn h1
  by_cases h2 : 1024 < most
  · exact plays_high w most a n cap hn h1 h2
  obtain ⟨M, rfl⟩ : ∃ r : Nat, most = (r : Int) := ⟨most.toNat, by omega⟩
  exact plays_main w M _ n C V Q X h (by omega) (by omega) (by omega)
theorem streakPlays_own : ownKnob Try.prog.godebug = none := by kernel_rfl
theorem streakPlays_laidOut : laidOutB Try.prog = true := by kernel_rfl
set_option maxRecDepth 100000 in
theorem streakPlays_lifted (os : Os) (started : os.Started) (H : Type) (enc : TypeId × Value → H) :
    ReturnsInHanded {} Try.checked os 3 .any (Rows.streakPlaysSpec.pre6 enc Try.prog Try.f3 Rows.streakPlaysRow.domain false) (Rows.streakPlaysSpec.post enc Try.prog Try.f3 false true false false) := by
  refine returnsInHanded_of_change (C := Try.checked) streakPlays_own started (by kernel_rfl) Try.func3
    (ChangeSpec.witness6 (enc := enc) (C := Try.checked) false ⟨#[], #[.int .i64 0, .slice none 0 0], []⟩ 8 (by kernel_rfl) (by kernel_rfl) (by kernel_rfl) (by kernel_rfl)) ?_
  intro W base args ds gs before hval0 hW hcnd _
  have hval : ∀ (j : Nat) t v, Try.f3.params[j]? = some t → args[j]? = some v → Value.okWide Try.prog W .any base t v := hval0
  have hW' := hW
  obtain ⟨p, q, hA0, hV, rfl, hfz, hnd⟩ := hW
  have hA : DataW.TrodAll enc Try.prog W 0 (fun _ => true) true Try.f3.params.toList args.toList ds p := hA0
  rw [Try.params3] at hA hval
  obtain ⟨v0, vs0, d0, ds0, p0, q0, hargs, rfl, rfl, h0, r0⟩ := trodAll_cons hA
  obtain ⟨v1, vs1, d1, ds1, p1, q1, rfl, rfl, rfl, h1, r1⟩ := trodAll_cons r0
  obtain ⟨rfl, rfl, rfl⟩ := trodAll_nil r1
  obtain rfl : args = #[v0, v1] := by cases args; simp_all
  obtain ⟨rfl, rfl⟩ := trodVars_none hV
  obtain ⟨a0, rfl, rfl, rfl, w0⟩ := open_int Try.underlying3 (hval 0 3 v0 rfl rfl) h0
  have bd0 := bounds_i64 w0
  obtain ⟨ad1, n1, cap1, rfl⟩ := okWide_slice Try.underlying22 (hval 1 22 v1 rfl rfl)
  have k1 := h1
  have lt1 : ∀ x ∈ p1, x.block < W.heap.size := by obtain ⟨m, hm⟩ := k1; exact DataW.trod_lt m _ _ _ hm
  obtain ⟨C1, V1, Q1, X1, ops1⟩ : ∃ C V Q X, Ops W (.slice ad1 n1 cap1) n1 C V Q X := by obtain ⟨fuel, hf⟩ := h1; exact open_ops hf
  clear hA0 hval0
  simp only [List.append_nil, List.nil_append] at hW'
  refine (streakPlays_walk W a0 bd0 _ n1 C1 V1 Q1 X1 ops1).mono fun e W' ⟨he, bel⟩ => ?_
  subst he
  exact ⟨_, rfl, _, _, _, [], _, [], hW', trodAll_mk1 (shut_bool Try.underlying4 _), (trodAll_cons_mk (shut_int Try.underlying3 w0) (trodAll_cons_mk (Below.trod streakPlays_laidOut (by kernel_rfl) (of_decide_eq_true (by kernel_rfl)) k1 bel lt1) trodAll_mk0)), rfl, bel.frame _, fun h => by cases h⟩

/-- THE STATEMENT. -/
theorem streakPlays_proved : Rows.StreakPlaysSaid :=
  OpenClaim.holds_of_wide 3 Try.f3 rfl rfl rfl rfl rfl rfl rfl ⟨rfl, rfl, rfl, rfl, rfl⟩ rfl rfl rfl rfl rfl (by kernel_rfl) Try.func3 (by kernel_rfl)
    (of_decide_eq_true (by kernel_rfl)) (by unfold Func.isWrapper; first | (rw [if_pos (by decide +kernel)]; kernel_rfl) | (rw [if_neg (by decide +kernel)]; exact ⟨rfl, rfl⟩))
    (fun os started H enc _ => streakPlays_lifted os started H enc)
#print axioms streakPlays_proved
end Go.Proofs.Ytfgkgeeldmmfjaa
