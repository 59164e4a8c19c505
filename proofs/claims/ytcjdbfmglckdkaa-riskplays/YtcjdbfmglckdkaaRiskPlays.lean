/-
  RiskPlays: every play of reservations, changes, settlements and what is taken back is the document's, account by account, slot by slot. For every list of limits, every number of slots and every list of steps, no condition.
-/
import Derived.Test.YtcjdbfmglckdkaaRkAwake
import Derived.Test.YtcjdbfmglckdkaaRkTold
import Derived.Test.YtcjdbfmglckdkaaRkRefNew
import Derived.Test.YtcjdbfmglckdkaaFrame3
import Derived.Test.YtcjdbfmglckdkaaFrame17
namespace Go.Proofs.Ytcjdbfmglckdkaa
open Go.ChangeShapes Go.WideShapes Go.ChangeAt Go.RowKit Go.Lib RK

set_option maxRecDepth 100000 in
set_option maxHeartbeats 16000000 in
theorem plays_long (w : World) (L : Nat → Int) (n : Nat) (v : Value) (row : Row w v n fun i => .int .i64 (L i)) (s : Int) (vo : Value) (no : Nat) (C V Q X : Nat → Int) (ops : Ops w vo no C V Q X) (hn : 30 < n) : Calls Try.prog 3 #[v, .int .i64 s, vo] w fun e w' => e = .returned (.bool true) ∧ Below w.heap.size w w' := by
  have F1 := awake_any w
  obtain ⟨a0, cap0, rfl, _, _, _⟩ := row
  obtain ⟨a1, cap1, rfl, _, _, _⟩ := ops
  have t : (30 : Int) < (n : Int) := by omega
  go_enter Try.func3, Try.ntmps3
  go_wp2_with fail
  refine F1.mono ?_
  rintro e w1 ⟨rfl, hb⟩
  go_wp2_with fail
  go_ret
  exact ⟨rfl, hb⟩
set_option maxRecDepth 100000 in
set_option maxHeartbeats 16000000 in
theorem plays_many (w : World) (L : Nat → Int) (n : Nat) (v : Value) (row : Row w v n fun i => .int .i64 (L i)) (s : Int) (vo : Value) (no : Nat) (C V Q X : Nat → Int) (ops : Ops w vo no C V Q X) (hn : n ≤ 30 ∧ 100 < no) : Calls Try.prog 3 #[v, .int .i64 s, vo] w fun e w' => e = .returned (.bool true) ∧ Below w.heap.size w w' := by
  have F1 := awake_any w
  obtain ⟨a0, cap0, rfl, _, _, _⟩ := row
  obtain ⟨a1, cap1, rfl, _, _, _⟩ := ops
  have t0 : ¬ (30 : Int) < (n : Int) := by omega
  have t : (100 : Int) < (no : Int) := by omega
  go_enter Try.func3, Try.ntmps3
  go_wp2_with fail
  refine F1.mono ?_
  rintro e w1 ⟨rfl, hb⟩
  go_wp2_with fail
  go_ret
  exact ⟨rfl, hb⟩
set_option maxRecDepth 100000 in
set_option maxHeartbeats 16000000 in
theorem plays_out (w : World) (L : Nat → Int) (n : Nat) (v : Value) (row : Row w v n fun i => .int .i64 (L i)) (s : Int) (vo : Value) (no : Nat) (C V Q X : Nat → Int) (ops : Ops w vo no C V Q X) (hn : n ≤ 30) (hno : no ≤ 100) (ho : n < 1 ∨ 16 < n ∨ s < 1 ∨ 64 < s) : Calls Try.prog 3 #[v, .int .i64 s, vo] w fun e w' => e = .returned (.bool true) ∧ Below w.heap.size w w' := by
  have F1 := awake_any w
  have F2 := fun w1 (hb : Below w.heap.size w w1) => new_out (row.below hb) s ho
  have F3 := fun w1 (hb : Below w.heap.size w w1) => rRight_any (row.below hb) (by omega) s false (fun _ => rfl) (fun _ => by
    unfold szB
    rcases ho with h | h | h | h
    · rw [decide_eq_false (show ¬ (1 : Int) ≤ (n : Int) by omega)]; rfl
    · rw [decide_eq_false (show ¬ (n : Int) ≤ 16 by omega), Bool.and_false]; rfl
    · rw [decide_eq_false (show ¬ (1 : Int) ≤ s by omega), Bool.false_and, Bool.and_false]
    · rw [decide_eq_false (show ¬ s ≤ 64 by omega), Bool.and_false, Bool.and_false])
  obtain ⟨a0, cap0, rfl, _, _, _⟩ := row
  obtain ⟨a1, cap1, rfl, _, _, _⟩ := ops
  have t0 : ¬ (30 : Int) < (n : Int) := by omega
  have t : ¬ (100 : Int) < (no : Int) := by omega
  clear ho
  go_enter Try.func3, Try.ntmps3
  go_wp2_with fail
  refine F1.mono ?_
  rintro e w1 ⟨rfl, hb⟩
  go_wp2_with fail
  refine (F2 _ hb).mono ?_
  rintro e w2 ⟨rfl, rfl⟩
  go_wp2_with fail
  refine (F3 _ hb).mono ?_
  rintro e w3 ⟨rfl, rfl⟩
  go_wp2_with fail
  go_ret
  exact ⟨by simp, hb⟩
set_option maxRecDepth 100000 in
set_option maxHeartbeats 16000000 in
theorem plays_in (w : World) (L : Nat → Int) (n : Nat) (v : Value) (row : Row w v n fun i => .int .i64 (L i)) (m : Nat) (vo : Value) (no : Nat) (C V Q X : Nat → Int) (ops : Ops w vo no C V Q X) (hno : no ≤ 100) (a1 : 1 ≤ n) (a2 : n ≤ 16) (s1 : 1 ≤ m) (s2 : m ≤ 64) : Calls Try.prog 3 #[v, .int .i64 (m : Int), vo] w fun e w' => e = .returned (.bool true) ∧ Below w.heap.size w w' := by
  have F1 := awake_any w
  have F2 := fun w1 (hb : Below w.heap.size w w1) => new_in (row.below hb) a1 a2 s1 s2 w.heap.size hb.size
  have F3 := fun w1 (hb : Below w.heap.size w w1) Z h1 h2 => rRight_any (row.below hb) (by omega) (m : Int) Z h1 h2
  have F4 : Hid (∀ w1, Below w.heap.size w w1 → Fit n L m → Calls Try.prog 10 #[v, .int .i64 (m : Int)] w1 fun e w' => e = .returned (.pointer (some ⟨w1.heap.size + 1, 0, none⟩)) ∧ (∃ r, w1.heap.size ≤ r ∧ RefAt w' w.heap.size (w1.heap.size + 1) w1.heap.size r v (newB n L m)) ∧ Below w1.heap.size w1 w') := fun w1 hb F => by
    obtain ⟨a0, cap0, rfl, l1, l2, l3⟩ := row
    obtain ⟨lb, lo, rfl, c0⟩ := l3 0 (by omega)
    refine rNew_any F w.heap.size hb.size ⟨lb, lo, cap0, rfl, l1, l2, World.block_lt_of_cell? _ _ c0, fun i hi => ?_⟩
    obtain ⟨b', o', e, c⟩ := l3 i hi
    injection e with e
    injection e with e1 e2
    subst e1 e2
    rw [hb.cell (p := ⟨lb, lo + i, none⟩) (World.block_lt_of_cell? _ _ c)]
    exact c
  have hsz : szB n (m : Int) = true := by
    unfold szB
    rw [decide_eq_true (by omega), decide_eq_true (by omega), decide_eq_true (by omega), decide_eq_true (by omega)]; rfl
  obtain ⟨av, capv, rfl⟩ : ∃ a c, v = .slice a n c := by obtain ⟨a0, cap0, rfl, _, _, _⟩ := row; exact ⟨_, _, rfl⟩
  obtain ⟨ao, capo, rfl, o1, o2, o3⟩ := ops
  have t0 : ¬ (30 : Int) < (n : Int) := by omega
  have t : ¬ (100 : Int) < (no : Int) := by omega
  clear row
  go_enter Try.func3, Try.ntmps3
  go_wp2_with fail
  refine F1.mono ?_
  rintro e w1 ⟨rfl, hb⟩
  go_wp2_with fail
  refine (F2 _ hb).mono ?_
  rintro e w2 ⟨B2, ⟨rfl, i, hi, hbad⟩ | ⟨rfl, FT, K2, _⟩⟩
  · have hb2 := hb.trans (B2.mono hb.size)
    have G := F3 _ hb2 false (fun _ => rfl) (fun h => absurd (h i hi) (by rw [hbad]; decide))
    clear F1 F2 F3 F4 hb B2
    go_wp2_with fail
    refine G.mono ?_
    rintro e w3 ⟨rfl, rfl⟩
    go_wp2_with fail
    go_ret
    exact ⟨by simp, hb2⟩
  · have hb2 := hb.trans (B2.mono hb.size)
    have G := F3 _ hb2 true (fun ⟨i, hi, h⟩ => absurd (FT.l i hi) (by rw [h]; decide)) (fun _ => hsz.symm)
    have G4 := F4.out _ hb2 FT
    obtain ⟨P, hP⟩ : ∃ P, P = w1.heap.size + 2 := ⟨_, rfl⟩
    obtain ⟨g, h, K⟩ : ∃ g h, BookAt w2 w.heap.size P g h (newB n L m) := ⟨_, _, by rw [hP]; exact K2⟩
    obtain ⟨q, hq⟩ : ∃ q, q = w2.heap.size + 1 := ⟨_, rfl⟩
    rw [← hP]
    rw [← hq] at G4
    have HK : Hid (BookAt w2 w.heap.size P g h (newB n L m) ∧ Below w.heap.size w w2 ∧ w2.heap.size ≤ q) := ⟨K, hb2, by omega⟩
    clear F1 F2 F3 F4 hb B2 K2 K FT hsz hP hq hb2
    go_wp2_with fail
    refine G.mono ?_
    rintro e w3 ⟨rfl, rfl⟩
    go_wp2_with fail
    refine G4.mono ?_
    rintro e w4 ⟨rfl, ⟨r, hr, R4⟩, b4⟩
    have T4 : Hid (∃ d, Two w w4 P g h q d r (.slice av n capv) (newB n L m)) := by
      obtain ⟨K, hb2, hq⟩ := HK.out
      refine ⟨_, K.below b4, R4, fun i hi hj => ?_, hb2.trans (b4.mono hb2.size)⟩
      have := (K.least i hi).2
      rcases hj with e | e | e <;> omega
    clear HK G G4 R4 b4 hr
    obtain ⟨d, T5⟩ := T4.out
    have T6 : Hid (Two w w4 P g h q d r (.slice av n capv) (newB n L m)) := T5
    clear T4 T5
    go_wp2_with fail
    go_loopw [49] (fun c wr => ∃ k : Nat, c = .int .i64 (k : Int) ∧ k ≤ no ∧ ∃ b, Hid (Two w wr P g h q d r (.slice av n capv) b)) (fun c _ => no - (RowKit.intOf c).toNat)
    case atStart => exact ⟨0, rfl, Nat.zero_le _, _, T6.out⟩
    case round =>
      clear T6
      obtain ⟨k, rfl, hk, b, hT⟩ := hrel
      by_cases hlt : k < no
      · have t1 : (k : Int) < (no : Int) := by omega
        obtain ⟨ob, off, rfl, c0, c1, c2, c3⟩ := o3 k hlt
        have lt0 := World.block_lt_of_cell? _ _ c0
        have d0 : wr.cell? ⟨ob, off + k * 4, none⟩ = some (.int .i64 (C k)) := (hT.out.bel.cell (p := ⟨ob, off + k * 4, none⟩) lt0).trans c0
        have d1 : wr.cell? ⟨ob, off + k * 4 + 1, none⟩ = some (.int .i64 (V k)) := (hT.out.bel.cell (p := ⟨ob, off + k * 4 + 1, none⟩) lt0).trans c1
        have d2 : wr.cell? ⟨ob, off + k * 4 + 2, none⟩ = some (.int .i64 (Q k)) := (hT.out.bel.cell (p := ⟨ob, off + k * 4 + 2, none⟩) lt0).trans c2
        have d3 : wr.cell? ⟨ob, off + k * 4 + 3, none⟩ = some (.int .i64 (X k)) := (hT.out.bel.cell (p := ⟨ob, off + k * 4 + 3, none⟩) lt0).trans c3
        clear c0 c1 c2 c3 o3 lt0
        generalize C k = xc at *
        generalize V k = xv at *
        generalize Q k = xq at *
        generalize X k = xx at *
        have T1 := hT.out.still ((Below.refl _ wr).alloc (Nat.le_refl _) (.cells #[.int .i64 xc, .int .i64 xv, .int .i64 xq, .int .i64 xx] 33))
        have nO : ¬ (own P g h wr.heap.size ∨ own q d r wr.heap.size) := fun e => by
          rcases e with e | e
          · have := (hT.out.bk.least _ e).2; omega
          · have := (hT.out.rf.least _ e).2; omega
        have Z : wr.heap.size < (wr.alloc (.cells #[.int .i64 xc, .int .i64 xv, .int .i64 xq, .int .i64 xx] 33)).heap.size := by simp
        have c0 : (wr.alloc (.cells #[.int .i64 xc, .int .i64 xv, .int .i64 xq, .int .i64 xx] 33)).cell? ⟨wr.heap.size, 0, none⟩ = some (.int .i64 xc) := by simp
        have c1 : (wr.alloc (.cells #[.int .i64 xc, .int .i64 xv, .int .i64 xq, .int .i64 xx] 33)).cell? ⟨wr.heap.size, 1, none⟩ = some (.int .i64 xv) := by simp
        have c2 : (wr.alloc (.cells #[.int .i64 xc, .int .i64 xv, .int .i64 xq, .int .i64 xx] 33)).cell? ⟨wr.heap.size, 2, none⟩ = some (.int .i64 xq) := by simp
        have c3 : (wr.alloc (.cells #[.int .i64 xc, .int .i64 xv, .int .i64 xq, .int .i64 xx] 33)).cell? ⟨wr.heap.size, 3, none⟩ = some (.int .i64 xx) := by simp
        have G1 := step_any T1 xc xv xq xx
        have HC : Hid (_ ∧ _ ∧ _ ∧ _ ∧ _ ∧ _) := ⟨nO, Z, c0, c1, c2, c3⟩
        clear T1 hT nO Z c0 c1 c2 c3
        go_wp2_with fail
        refine G1.mono ?_
        rintro e w6 ⟨rfl, ⟨b', T6⟩, k6⟩
        have f0 := (k6.cell (k := wr.heap.size) (o := 0) HC.out.2.1 HC.out.1).trans HC.out.2.2.1
        have f1 := (k6.cell (k := wr.heap.size) (o := 1) HC.out.2.1 HC.out.1).trans HC.out.2.2.2.1
        have f2 := (k6.cell (k := wr.heap.size) (o := 2) HC.out.2.1 HC.out.1).trans HC.out.2.2.2.2.1
        have f3 := (k6.cell (k := wr.heap.size) (o := 3) HC.out.2.1 HC.out.1).trans HC.out.2.2.2.2.2
        have G2 := told_any T6 xc xv xq xx
        have HT6 : Hid (Two w w6 P g h q d r (.slice av n capv) b') := T6
        clear T6 k6 HC G1 d0 d1 d2 d3
        go_wp2_with fail
        refine G2.mono ?_
        rintro e w7 ⟨rfl, hb7⟩
        have HT7 : Hid (Two w w7 P g h q d r (.slice av n capv) b') := HT6.out.still hb7
        clear HT6 hb7 G2 f0 f1 f2 f3
        go_wp2_with fail
        go_roundw
        case rel => exact ⟨k + 1, by simp, by omega, b', HT7.out⟩
        case measure => simp [RowKit.intOf]; omega
      · obtain rfl : k = no := by omega
        have t1 : ¬ (k : Int) < (k : Int) := by omega
        clear o3
        go_wp2_with fail
        go_ret
        exact ⟨rfl, hT.out.bel⟩
theorem riskPlays_walk (w : World) (L : Nat → Int) (n : Nat) (v : Value) (row : Row w v n fun i => .int .i64 (L i)) (_ : ∀ i, n ≤ i → L i = 0) (_ : ∀ i, -9223372036854775808 ≤ L i ∧ L i ≤ 9223372036854775807) (s : Int) (_ : -9223372036854775808 ≤ s ∧ s ≤ 9223372036854775807) (vo : Value) (no : Nat) (C V Q X : Nat → Int) (ops : Ops w vo no C V Q X) : Calls Try.prog 3 #[v, .int .i64 s, vo] w fun e w' => e = .returned (.bool true) ∧ Below w.heap.size w w' := by
  by_cases h1 : 30 < n
  · exact plays_long w L n v row s vo no C V Q X ops h1
  by_cases h2 : 100 < no
  · exact plays_many w L n v row s vo no C V Q X ops ⟨by omega, h2⟩
  by_cases ho : n < 1 ∨ 16 < n ∨ s < 1 ∨ 64 < s
  · exact plays_out w L n v row s vo no C V Q X ops (by omega) (by omega) ho
  · obtain ⟨m, rfl⟩ : ∃ m : Nat, s = (m : Int) := ⟨s.toNat, by omega⟩
    exact plays_in w L n v row m vo no C V Q X ops (by omega) (by omega) (by omega) (by omega) (by omega)
theorem riskPlays_own : ownKnob Try.prog.godebug = none := by kernel_rfl
theorem riskPlays_laidOut : laidOutB Try.prog = true := by kernel_rfl
set_option maxRecDepth 100000 in
theorem riskPlays_lifted (os : Os) (started : os.Started) (H : Type) (enc : TypeId × Value → H) :
    ReturnsInHanded {} Try.checked os 3 .any (Rows.riskPlaysSpec.pre6 enc Try.prog Try.f3 Rows.riskPlaysRow.domain false) (Rows.riskPlaysSpec.post enc Try.prog Try.f3 false true false false) := by
  refine returnsInHanded_of_change (C := Try.checked) riskPlays_own started (by kernel_rfl) Try.func3
    (ChangeSpec.witness6 (enc := enc) (C := Try.checked) false ⟨#[], #[.slice none 0 0, .int .i64 0, .slice none 0 0], []⟩ 8 (by kernel_rfl) (by kernel_rfl) (by kernel_rfl) (by kernel_rfl)) ?_
  intro W base args ds gs before hval0 hW hcnd _
  have hval : ∀ (j : Nat) t v, Try.f3.params[j]? = some t → args[j]? = some v → Value.okWide Try.prog W .any base t v := hval0
  have hW' := hW
  obtain ⟨p, q, hA0, hV, rfl, hfz, hnd⟩ := hW
  have hA : DataW.TrodAll enc Try.prog W 0 (fun _ => true) true Try.f3.params.toList args.toList ds p := hA0
  rw [Try.params3] at hA hval
  obtain ⟨v0, vs0, d0, ds0, p0, q0, hargs, rfl, rfl, h0, r0⟩ := trodAll_cons hA
  obtain ⟨v1, vs1, d1, ds1, p1, q1, rfl, rfl, rfl, h1, r1⟩ := trodAll_cons r0
  obtain ⟨v2, vs2, d2, ds2, p2, q2, rfl, rfl, rfl, h2, r2⟩ := trodAll_cons r1
  obtain ⟨rfl, rfl, rfl⟩ := trodAll_nil r2
  obtain rfl : args = #[v0, v1, v2] := by cases args; simp_all
  obtain ⟨rfl, rfl⟩ := trodVars_none hV
  obtain ⟨ad0, n0, cap0, rfl⟩ := okWide_slice Try.underlying22 (hval 0 22 v0 rfl rfl)
  have k0 := h0
  have lt0 : ∀ x ∈ p0, x.block < W.heap.size := by obtain ⟨m, hm⟩ := k0; exact DataW.trod_lt m _ _ _ hm
  obtain ⟨f0, row0, be0, bd0⟩ : ∃ f : Nat → Int, Row W (.slice ad0 n0 cap0) n0 (fun i => .int .i64 (f i)) ∧ (∀ i, n0 ≤ i → f i = 0) ∧ ∀ i, -9223372036854775808 ≤ f i ∧ f i ≤ 9223372036854775807 := by
    obtain ⟨fuel, hf⟩ := h0
    rcases open_ints Try.underlying22 Try.underlying3 (by kernel_rfl) hf with ⟨hcs, _⟩ | ⟨x, l, c, zs, hcs, _, hl, hm, hz, _, hcell, hwz⟩
    · simp [Value.cells] at hcs
      obtain ⟨rfl, rfl, rfl⟩ := hcs
      exact row_none W
    · simp [Value.cells] at hcs
      obtain ⟨rfl, rfl, rfl⟩ := hcs
      exact row_some hl hm (by simpa using hz) hcell (fun z hz => bounds_i64 (hwz z hz))
  obtain ⟨a1, rfl, rfl, rfl, w1⟩ := open_int Try.underlying3 (hval 1 3 v1 rfl rfl) h1
  have bd1 := bounds_i64 w1
  obtain ⟨ad2, n2, cap2, rfl⟩ := okWide_slice Try.underlying23 (hval 2 23 v2 rfl rfl)
  have k2 := h2
  have lt2 : ∀ x ∈ p2, x.block < W.heap.size := by obtain ⟨m, hm⟩ := k2; exact DataW.trod_lt m _ _ _ hm
  obtain ⟨C2, V2, Q2, X2, ops2⟩ : ∃ C V Q X, Ops W (.slice ad2 n2 cap2) n2 C V Q X := by obtain ⟨fuel, hf⟩ := h2; exact open_ops hf
  clear hA0 hval0
  simp only [List.append_nil, List.nil_append] at hW'
  refine (riskPlays_walk W f0 n0 _ row0 be0 bd0 a1 bd1 _ n2 C2 V2 Q2 X2 ops2).mono fun e W' ⟨he, bel⟩ => ?_
  subst he
  exact ⟨_, rfl, _, _, _, [], _, [], hW', trodAll_mk1 (shut_bool Try.underlying4 _), (trodAll_cons_mk (Below.trod riskPlays_laidOut (by kernel_rfl) (of_decide_eq_true (by kernel_rfl)) k0 bel lt0) (trodAll_cons_mk (shut_int Try.underlying3 w1) (trodAll_cons_mk (Below.trod riskPlays_laidOut (by kernel_rfl) (of_decide_eq_true (by kernel_rfl)) k2 bel lt2) trodAll_mk0))), rfl, bel.frame _, fun h => by cases h⟩

/-- THE STATEMENT. -/
theorem riskPlays_proved : Rows.RiskPlaysSaid :=
  OpenClaim.holds_of_wide 3 Try.f3 rfl rfl rfl rfl rfl rfl rfl ⟨rfl, rfl, rfl, rfl, rfl⟩ rfl rfl rfl rfl rfl (by kernel_rfl) Try.func3 (by kernel_rfl)
    (of_decide_eq_true (by kernel_rfl)) (by unfold Func.isWrapper; first | (rw [if_pos (by decide +kernel)]; kernel_rfl) | (rw [if_neg (by decide +kernel)]; exact ⟨rfl, rfl⟩))
    (fun os started H enc _ => riskPlays_lifted os started H enc)
#print axioms riskPlays_proved
end Go.Proofs.Ytcjdbfmglckdkaa
