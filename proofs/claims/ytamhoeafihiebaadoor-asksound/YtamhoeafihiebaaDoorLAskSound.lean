/-
  What is decoded is right, and is decoded again as it was from its own body: the statement AskSound, for every text.
-/
import Derived.Test.YtamhoeafihiebaaDoorGL
import Derived.Test.YtamhoeafihiebaaDoorGA
import Derived.Test.YtamhoeafihiebaaDoorCards
import Derived.Test.YtamhoeafihiebaaDoorTie
import Derived.SevenTiedAt
namespace Go.Proofs.YtamhoeafihiebaaDoor
open Go.ChangeShapes Go.WideShapes Go.ChangeAt Go.WideMaps Go.WideElems Go.RowKit Go.Lib

theorem dec_small {A : AskP} (R : RightP A) : (mk (cat (fieldsP A))).size ≤ 1000000 := by
  obtain ⟨ok, l64⟩ := right_allOk R
  have := cat_len ok
  rw [mk_size]
  omega
set_option maxRecDepth 1000000 in
set_option maxHeartbeats 8000000 in
theorem askSound_walk (w : World) (s : ByteArray) (_ : s.size ≤ maxLen) (hp : Pow w) (hl : Let w) :
    Calls Tryd.prog 4 #[.string s] w fun e w' => e = .returned (.bool true) ∧ Below w.heap.size w w' := by
  have AW := awake12_any w hl hp
  have HL : Hid (Let w) := hl
  have HP : Hid (Pow w) := hp
  clear hl hp
  by_cases h5 : 5000 < s.size
  · have t5 : (5000 : Int) < (s.size : Int) := by omega
    go_enter Tryd.func4, Tryd.ntmps4
    go_wp2_with fail
    refine AW.mono ?_
    rintro e w1 ⟨rfl, b1⟩
    go_wp2_with fail
    go_ret
    exact ⟨rfl, b1⟩
  have t5 : ¬ (5000 : Int) < (s.size : Int) := by omega
  have DE := fun w h => decode_any s w (by omega) h
  have H5 : Hid (s.size ≤ 5000) := by show _ ≤ _; omega
  clear h5
  obtain ⟨T, E, hTE⟩ : ∃ T E, decT s.data.toList = (T, E) := ⟨_, _, rfl⟩
  have HTE : Hid (decT s.data.toList = (T, E)) := hTE
  clear hTE
  go_enter Tryd.func4, Tryd.ntmps4
  go_wp2_with fail
  refine AW.mono ?_
  rintro e w1 ⟨rfl, b1⟩
  have D1 := DE w1 (HL.out.still b1)
  have HB1 : Hid (Below w.heap.size w w1) := b1
  clear AW DE b1
  go_wp2_with fail
  refine D1.mono ?_
  rintro e w2 ⟨k, i, t, c, t5, sd, q, p, al, st, en, ra, sh, a, d, cz, he, RA, ⟨base, hbase, own⟩, b2⟩
  rw [HTE.out] at he
  dsimp only at he
  subst he
  have HB2 : Hid (Below w.heap.size w w2) := HB1.out.trans (b2.mono HB1.out.size)
  have HROW : Hid (Row w2 (.slice a cz.length d) cz.length fun i => .int .i64 (cz.getD i 0)) := its_row own
  have HRA : Hid (ReadAs (decA s.data.toList) k i t c t5 sd q p al st en ra sh cz) := RA
  clear D1 RA own b2 hbase
  have BX := boxA_below w2 k i t c t5 sd q p al st en ra sh (.slice a cz.length d)
  have HBX : Hid (Below w2.heap.size w2 (boxA w2 k i t c t5 sd q p al st en ra sh (.slice a cz.length d))) := BX
  have HAX : Hid (AskAt (boxA w2 k i t c t5 sd q p al st en ra sh (.slice a cz.length d)) w2.heap.size k i t c t5 sd q p al st en ra sh (.slice a cz.length d)) := AskAt.box w2 k i t c t5 sd q p al st en ra sh (.slice a cz.length d)
  clear BX
  by_cases hE : E = 0
  case neg =>
    have te : (E == 0) = false := beq_false_of_ne hE
    have hz : decA s.data.toList = zeroA := if_neg (by rw [HTE.out]; exact hE)
    have eq := HRA.out.eq
    have cu := HRA.out.cur
    rw [hz] at eq cu
    simp only [AskP.mk.injEq] at eq
    obtain ⟨rfl, rfl, rfl, rfl, rfl, rfl, rfl, rfl, rfl, rfl, rfl, rfl, rfl, _⟩ := eq
    subst cu
    have P1 := plain_any 0 ⟨#[]⟩ ⟨#[]⟩ ⟨#[]⟩ ⟨#[]⟩ 0 0 0 0 0 0 0 0 a 0 d (boxA w2 0 ⟨#[]⟩ ⟨#[]⟩ ⟨#[]⟩ ⟨#[]⟩ 0 0 0 0 0 0 0 0 (.slice a 0 d))
    have R0 : Hid (Row w2 (.slice a 0 d) 0 fun i => .int .i64 ((fun _ => 0 : Nat → Int) i)) := by
      obtain ⟨a', c', e, h1, h2, _⟩ := HROW.out
      exact ⟨a', c', e, h1, h2, fun i hi => absurd hi (by omega)⟩
    have HBX' : Hid (Below w2.heap.size w2 (boxA w2 0 ⟨#[]⟩ ⟨#[]⟩ ⟨#[]⟩ ⟨#[]⟩ 0 0 0 0 0 0 0 0 (.slice a 0 d))) := HBX.out
    clear HRA HROW HAX HBX hE hz
    go_wp2_with fail
    refine P1.mono ?_
    rintro e w3 ⟨rfl, b3⟩
    have B3 : Below w2.heap.size w2 w3 := HBX'.out.trans (b3.mono HBX'.out.size)
    have SM := same_yes12 0 ⟨#[]⟩ ⟨#[]⟩ ⟨#[]⟩ ⟨#[]⟩ 0 0 0 0 0 0 0 0 a 0 d none 0 (fun _ => 0) w3 (by omega) (R0.out.below B3) ⟨none, 0, rfl, Nat.le_refl _, by unfold maxLen; omega, fun i hi => absurd hi (by omega)⟩
    have HB3 : Hid (Below w.heap.size w w3) := HB2.out.trans (B3.mono HB2.out.size)
    clear b3 B3 P1
    go_wp2_with fail
    refine SM.mono ?_
    rintro e w4 ⟨rfl, b4⟩
    go_wp2_with fail
    go_ret
    exact ⟨rfl, HB3.out.trans (b4.mono HB3.out.size)⟩
  subst hE
  have hz0 : (decT s.data.toList).2 = 0 := by rw [HTE.out]
  have RP := dec_sound hz0
  obtain ⟨L, hL⟩ : ∃ L, (decA s.data.toList).curve = L := ⟨_, rfl⟩
  have eqA := HRA.out.eq
  have cuA := HRA.out.cur
  rw [hL] at eqA cuA
  subst cuA
  rw [eqA] at RP
  obtain ⟨hT2, hA2⟩ := dec_right RP
  have EN := fun w' (b : Below w2.heap.size w2 w') => encode_yes k i t c t5 sd q p al st en ra sh a d L w' RP ((HL.out.still HB2.out).still b) ((HP.out.still HB2.out).still b) (HROW.out.below b)
  have RG := fun w' (b : Below w2.heap.size w2 w') => right_any k i t c t5 sd q p al st en ra sh a d (intsOf L) w' (HROW.out.below b)
  rw [right_to RP] at RG
  have DE2 := fun w' h => decode_any (mk (cat (fieldsP ⟨k, i, t, c, t5, sd, q, p, al, st, en, ra, sh, L⟩))) w' (dec_small RP) h
  rw [mk_list] at DE2
  have HT2 : Hid (decT (cat (fieldsP ⟨k, i, t, c, t5, sd, q, p, al, st, en, ra, sh, L⟩)) = (0, 0)) := hT2
  have HA2 : Hid (decA (cat (fieldsP ⟨k, i, t, c, t5, sd, q, p, al, st, en, ra, sh, L⟩)) = ⟨k, i, t, c, t5, sd, q, p, al, st, en, ra, sh, L⟩) := hA2
  have H64 : Hid (L.length ≤ 64) := by
    show L.length ≤ 64
    by_cases a2 : al = 2
    · exact (RP.vwap.1 a2).2.1
    · have e : L = [] := RP.vwap.2 a2
      rw [e]
      simp
  clear hz0 RP hL eqA hT2 hA2 HRA HTE
  generalize hcat : cat (fieldsP ⟨k, i, t, c, t5, sd, q, p, al, st, en, ra, sh, L⟩) = BD at *
  clear hcat
  have R1 := RG _ HBX.out
  obtain ⟨n, hn⟩ : ∃ n, (intsOf L).length = n := ⟨_, rfl⟩
  have HN : Hid ((intsOf L).length = n) := hn
  rw [hn] at R1 EN HAX HBX HROW
  rw [hn]
  clear RG hn
  go_wp2_with fail
  refine R1.mono ?_
  rintro e w3 ⟨rfl, b3⟩
  have B3 : Below w2.heap.size w2 w3 := HBX.out.trans (b3.mono HBX.out.size)
  have A3 := HAX.out.still b3 (by simp)
  have E3 := EN w3 B3
  have HA3 : Hid (AskAt w3 w2.heap.size k i t c t5 sd q p al st en ra sh (.slice a n d)) := A3
  have HB3 : Hid (Below w2.heap.size w2 w3) := B3
  obtain ⟨d0, d1, d2, d3, d4, d5, d6, d7, d8, d9, d10, d11, d12, d13⟩ := A3
  clear R1 b3 B3 HAX HBX EN
  go_wp2_with fail
  refine E3.mono ?_
  rintro e w4 ⟨rfl, b4⟩
  have HB4 : Hid (Below w2.heap.size w2 w4) := HB3.out.trans (b4.mono HB3.out.size)
  have HA4 : Hid (AskAt w4 w2.heap.size k i t c t5 sd q p al st en ra sh (.slice a n d)) := HA3.out.still b4 HA3.out.lt
  have D4 := DE2 w4 ((HL.out.still HB2.out).still HB4.out)
  clear E3 b4 DE2 HA3 HB3 d0 d1 d2 d3 d4 d5 d6 d7 d8 d9 d10 d11 d12 d13
  go_wp2_with fail
  refine D4.mono ?_
  rintro e w5 ⟨k', i', t', c', s', sd', q', p', al', st', en', ra', sh', a', d', cz', he, RA', ⟨base', hbase', own'⟩, b5⟩
  rw [HT2.out] at he
  dsimp only at he
  subst he
  have eq' := RA'.eq
  have cu' := RA'.cur
  rw [HA2.out] at eq' cu'
  simp only [AskP.mk.injEq] at eq'
  obtain ⟨rfl, rfl, rfl, rfl, rfl, rfl, rfl, rfl, rfl, rfl, rfl, rfl, rfl, _⟩ := eq'
  subst cu'
  rw [HN.out]
  have ROW' := its_row own'
  rw [HN.out] at ROW'
  have B5 : Below w2.heap.size w2 w5 := HB4.out.trans (b5.mono HB4.out.size)
  have BY := boxA_below w5 k i t c t5 sd q p al st en ra sh (.slice a' n d')
  have A5 := (HA4.out.still b5 HA4.out.lt).still BY (HA4.out.still b5 HA4.out.lt).lt
  have C5 := AskAt.box w5 k i t c t5 sd q p al st en ra sh (.slice a' n d')
  have X5 : Hid (AskAt (boxA w5 k i t c t5 sd q p al st en ra sh (.slice a' n d')) w2.heap.size k i t c t5 sd q p al st en ra sh (.slice a n d)) := A5
  have Y5 : Hid (AskAt (boxA w5 k i t c t5 sd q p al st en ra sh (.slice a' n d')) w5.heap.size k i t c t5 sd q p al st en ra sh (.slice a' n d')) := C5
  have n15 : ¬ w2.heap.size = w5.heap.size := by have := (HA4.out.still b5 HA4.out.lt).lt; omega
  have n51 : ¬ w5.heap.size = w2.heap.size := fun e => n15 e.symm
  have HRW1 : Hid (Row (boxA w5 k i t c t5 sd q p al st en ra sh (.slice a' n d')) (.slice a n d) n fun i => .int .i64 ((intsOf L).getD i 0)) := by
    exact (HROW.out.below B5).below BY
  have HRW2 : Hid (Row (boxA w5 k i t c t5 sd q p al st en ra sh (.slice a' n d')) (.slice a' n d') n fun i => .int .i64 ((intsOf L).getD i 0)) := ROW'.below BY
  have HB5 : Hid (Below w.heap.size w (boxA w5 k i t c t5 sd q p al st en ra sh (.slice a' n d'))) := (HB2.out.trans (B5.mono HB2.out.size)).trans (BY.mono (by have := HB2.out.size; have := B5.size; omega))
  obtain ⟨x0, x1, x2, x3, x4, x5, x6, x7, x8, x9, x10, x11, x12, x13⟩ := A5
  obtain ⟨y0, y1, y2, y3, y4, y5, y6, y7, y8, y9, y10, y11, y12, y13⟩ := C5
  have tok : True := trivial
  clear D4 RA' own' b5 B5 BY HA4 HB4 HROW ROW' HT2 HA2 hbase'
  have HNN : Hid (n ≤ 1000000) := by
    have e1 := HN.out
    have e2 := H64.out
    rw [ints_len] at e1
    show n ≤ 1000000
    omega
  go_wp2_with fail

  go_region_held3 (fun w' => (w'.cell? ⟨w2.heap.size, 0, none⟩ = some (.int .i64 k) ∧ w'.cell? ⟨w2.heap.size, 1, none⟩ = some (.string i) ∧ w'.cell? ⟨w2.heap.size, 2, none⟩ = some (.string t) ∧ w'.cell? ⟨w2.heap.size, 3, none⟩ = some (.string c) ∧ w'.cell? ⟨w2.heap.size, 4, none⟩ = some (.string t5) ∧ w'.cell? ⟨w2.heap.size, 5, none⟩ = some (.int .i64 sd) ∧ w'.cell? ⟨w2.heap.size, 6, none⟩ = some (.int .i64 q) ∧ w'.cell? ⟨w2.heap.size, 7, none⟩ = some (.int .i64 p) ∧ w'.cell? ⟨w2.heap.size, 8, none⟩ = some (.int .i64 al) ∧ w'.cell? ⟨w2.heap.size, 9, none⟩ = some (.int .i64 st) ∧ w'.cell? ⟨w2.heap.size, 10, none⟩ = some (.int .i64 en) ∧ w'.cell? ⟨w2.heap.size, 11, none⟩ = some (.int .i64 ra) ∧ w'.cell? ⟨w2.heap.size, 12, none⟩ = some (.int .i64 sh) ∧ w'.cell? ⟨w2.heap.size, 13, none⟩ = some (.slice a n d)) ∧ w'.cell? ⟨w5.heap.size, 0, none⟩ = some (.int .i64 k) ∧ w'.cell? ⟨w5.heap.size, 1, none⟩ = some (.string i) ∧ w'.cell? ⟨w5.heap.size, 2, none⟩ = some (.string t) ∧ w'.cell? ⟨w5.heap.size, 3, none⟩ = some (.string c) ∧ w'.cell? ⟨w5.heap.size, 4, none⟩ = some (.string t5) ∧ w'.cell? ⟨w5.heap.size, 5, none⟩ = some (.int .i64 sd) ∧ w'.cell? ⟨w5.heap.size, 6, none⟩ = some (.int .i64 q) ∧ w'.cell? ⟨w5.heap.size, 7, none⟩ = some (.int .i64 p) ∧ w'.cell? ⟨w5.heap.size, 8, none⟩ = some (.int .i64 al) ∧ w'.cell? ⟨w5.heap.size, 9, none⟩ = some (.int .i64 st) ∧ w'.cell? ⟨w5.heap.size, 10, none⟩ = some (.int .i64 en) ∧ w'.cell? ⟨w5.heap.size, 11, none⟩ = some (.int .i64 ra) ∧ w'.cell? ⟨w5.heap.size, 12, none⟩ = some (.int .i64 sh) ∧ w'.cell? ⟨w5.heap.size, 13, none⟩ = some (.slice a' n d')) (go_keep) (first
    | (go_at_call 11; first
      | (have _t := tok; refine (plain_any k i t c t5 sd q p al st en ra sh _ n _ _).mono ?_; rintro e w6 ⟨rfl, k6⟩; clear tok; have k6' := below_of_drew k6; have X6 : Hid (AskAt w6 w2.heap.size k i t c t5 sd q p al st en ra sh (.slice a n d)) := X5.out.still k6' X5.out.lt; have Y6 : Hid (AskAt w6 w5.heap.size k i t c t5 sd q p al st en ra sh (.slice a' n d')) := Y5.out.still k6' Y5.out.lt; obtain ⟨ua0, ua1, ua2, ua3, ua4, ua5, ua6, ua7, ua8, ua9, ua10, ua11, ua12, ua13⟩ := X6.out; obtain ⟨ub0, ub1, ub2, ub3, ub4, ub5, ub6, ub7, ub8, ub9, ub10, ub11, ub12, ub13⟩ := Y6.out)
      | (refine (plain_any k i t c t5 sd q p al st en ra sh _ n _ _).mono ?_; rintro e w7 ⟨rfl, k7⟩; have X7 : Hid (AskAt w7 w2.heap.size k i t c t5 sd q p al st en ra sh (.slice a n d)) := X6.out.still k7 X6.out.lt; have Y7 : Hid (AskAt w7 w5.heap.size k i t c t5 sd q p al st en ra sh (.slice a' n d')) := Y6.out.still k7 Y6.out.lt; obtain ⟨va0, va1, va2, va3, va4, va5, va6, va7, va8, va9, va10, va11, va12, va13⟩ := X7.out; obtain ⟨vb0, vb1, vb2, vb3, vb4, vb5, vb6, vb7, vb8, vb9, vb10, vb11, vb12, vb13⟩ := Y7.out))
    | (go_at_call 10; refine (same_yes12 k i t c t5 sd q p al st en ra sh a n d a' d' (fun i => (intsOf L).getD i 0) w7 HNN.out (HRW1.out.below (k6'.trans (k7.mono k6'.size))) (HRW2.out.below (k6'.trans (k7.mono k6'.size)))).mono ?_; rintro e w8 ⟨rfl, k8⟩; have X8 : Hid (AskAt w8 w2.heap.size k i t c t5 sd q p al st en ra sh (.slice a n d)) := X7.out.still k8 X7.out.lt; have Y8 : Hid (AskAt w8 w5.heap.size k i t c t5 sd q p al st en ra sh (.slice a' n d')) := Y7.out.still k8 Y7.out.lt; obtain ⟨za0, za1, za2, za3, za4, za5, za6, za7, za8, za9, za10, za11, za12, za13⟩ := X8.out; obtain ⟨zb0, zb1, zb2, zb3, zb4, zb5, zb6, zb7, zb8, zb9, zb10, zb11, zb12, zb13⟩ := Y8.out))
  all_goals
    have B6 := HB5.out.trans (k6'.mono HB5.out.size)
    have B7 := B6.trans (k7.mono B6.size)
    have B8 := B7.trans (k8.mono B7.size)
    have HB8 : Hid (Below w.heap.size w w8) := B8
    clear B6 B7 B8
    go_wp2_with fail
    go_ret
    exact ⟨rfl, HB8.out⟩
set_option maxRecDepth 100000 in
theorem askSound_lifted (os : Os) (started : os.Started) (H : Type) (enc : TypeId × Value → H) :
    ReturnsInHanded {} Tryd.checked os 4 .any (fun w args => (Rows.askSoundSpec.pre enc Tryd.prog Tryd.f4 [] false w args ∧ laidMetH Tryd.prog Rows.askSoundRow.laid w) ∧ sizedMet enc Tryd.prog Tryd.f4 (OpenSpec.ofChange Rows.askSoundSpec) false w args)
      (Rows.askSoundSpec.post enc Tryd.prog Tryd.f4 false true false false) := by
  refine returnsInHanded_of_change_and (C := Tryd.checked) (X := fun w _ => laidMetH Tryd.prog laid8 w) (fun _ _ _ hh h => h.of_heap hh) own8 started (by kernel_rfl) Tryd.func4
    (ChangeSpec.witness_shaped (enc := enc) (C := Tryd.checked) (os := os) (X := fun w _ => laidMetH Tryd.prog laid8 w) false (World.doorLaid Tryd.prog 400 os) #[.string ⟨#[]⟩] 8 rfl (World.shaped_of_RefB (by kernel_rfl) (by kernel_rfl)) (by kernel_rfl) (by kernel_rfl) (by kernel_rfl) (door_met os _)) ?_
  intro W base args ds gs before hval0 hW _ _ hL _
  have hval : ∀ (j : Nat) t v, Tryd.f4.params[j]? = some t → args[j]? = some v → Value.okWide Tryd.prog W .any base t v := hval0
  have hW' := hW
  obtain ⟨p, q, hA0, hV, rfl, hfz, hnd⟩ := hW
  have hA : DataW.TrodAll enc Tryd.prog W 0 (fun _ => true) true Tryd.f4.params.toList args.toList ds p := hA0
  rw [Tryd.params4] at hA hval
  obtain ⟨v0, vs0, d0, ds0, p0, q0, hargs, rfl, rfl, h0, r0⟩ := trodAll_cons hA
  obtain ⟨rfl, rfl, rfl⟩ := trodAll_nil r0
  obtain rfl : args = #[v0] := by cases args; simp_all
  obtain ⟨rfl, rfl⟩ := trodVars_none hV
  obtain ⟨s0, rfl, rfl, rfl, w0⟩ := Go.ChangeMaps.open_string Tryd.underlying9 (hval 0 9 v0 rfl rfl) h0
  clear hA0 hval0
  simp only [List.append_nil] at hW'
  refine (askSound_walk W s0 w0 (pow_of_laid hL) (let_of_laid hL)).mono fun e W' ⟨he, bel⟩ => ?_
  subst he
  exact ⟨_, rfl, _, _, _, [], _, [], hW', trodAll_mk1 (shut_bool Tryd.underlying4 _), (trodAll_cons_mk (Go.ChangeMaps.shut_string Tryd.underlying9 w0) trodAll_mk0), rfl, bel.frame _, fun h => by cases h⟩

/-- The row. -/
theorem askSound_row : Rows.AskSoundSaid :=
  OpenClaim.holds_of_wide 4 Tryd.f4 rfl rfl rfl rfl rfl rfl rfl ⟨rfl, rfl, rfl, rfl, rfl⟩ rfl rfl rfl rfl rfl (by kernel_rfl) Tryd.func4 (by kernel_rfl)
    (of_decide_eq_true (by kernel_rfl)) (by unfold Func.isWrapper; first | (rw [if_pos (by decide +kernel)]; kernel_rfl) | (rw [if_neg (by decide +kernel)]; exact ⟨rfl, rfl⟩))
    (fun os started H enc _ => askSound_lifted os started H enc)
/-- THE STATEMENT: the tied card. -/
theorem askSound_proved : Rows.AskSoundCardSaid :=
  Claim7.holds_tied_plain_at .later [] Rows.askSoundCard.laidKinds true Rows.askSoundCard.stood.harness Rows.askSoundCard.stood.looks
    askSound_row (fun _ h => by cases h) (by kernel_rfl) (fun _ h => by cases h) askSound_row_tie rfl ⟨rfl, rfl⟩ (by kernel_rfl) rfl
    (fun f fn hf hfn => by
      obtain rfl : f = 4 := Option.some.inj ((show Tryd.prog.funcNamed Rows.askSoundRow.func = some 4 by kernel_rfl).symm.trans hf) |>.symm
      obtain rfl : fn = Tryd.f4 := (Option.some.inj (Tryd.func4.symm.trans hfn)).symm
      exact ⟨by kernel_rfl, fun j t ht => by
        rw [Tryd.params4] at ht
        have hm : t ∈ [9] := by simpa using Array.mem_of_getElem? ht
        have hall : ([9].all fun u => !Tryd.prog.wantsStandIn u) = true := by kernel_rfl
        exact (show Tryd.prog.wantsStandIn t = false by simpa using List.all_eq_true.1 hall t hm)⟩)
    (by kernel_rfl)
#print axioms askSound_proved
end Go.Proofs.YtamhoeafihiebaaDoor


