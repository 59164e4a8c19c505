/-
  What is encoded is decoded as it was: the statement AskBack, for every ask.
-/
import Derived.Test.YtamhoeafihiebaaDoorGL
import Derived.Test.YtamhoeafihiebaaDoorGA
import Derived.Test.YtamhoeafihiebaaDoorCards
import Derived.Test.YtamhoeafihiebaaDoorTie
import Derived.SevenTiedAt
namespace Go.Proofs.YtamhoeafihiebaaDoor
open Go.ChangeShapes Go.WideShapes Go.ChangeAt Go.WideMaps Go.WideElems Go.RowKit Go.Lib

theorem dec_small' {A : AskP} (R : RightP A) : (mk (cat (fieldsP A))).size ≤ 1000000 := by
  obtain ⟨ok, l64⟩ := right_allOk R
  have := cat_len ok
  rw [mk_size]
  omega
set_option maxRecDepth 1000000 in
set_option maxHeartbeats 8000000 in
theorem askBack_walk (w : World) (k : Int) (i t c s : ByteArray) (sd q p al st en ra sh : Int) (a : Option Addr) (cap : Nat) (cz : List Int) (hr : Row w (.slice a cz.length cap) cz.length fun i => .int .i64 (cz.getD i 0)) (hp : Pow w) (hl : Let w) :
    Calls Tryd.prog 3 #[.agg #[.int .i64 k, .string i, .string t, .string c, .string s, .int .i64 sd, .int .i64 q, .int .i64 p, .int .i64 al, .int .i64 st, .int .i64 en, .int .i64 ra, .int .i64 sh, .slice a cz.length cap]] w fun e w' => e = .returned (.bool true) ∧ Below w.heap.size w w' := by
  have B0 := boxA_below w k i t c s sd q p al st en ra sh (.slice a cz.length cap)
  have AW := awake12_any _ (hl.still B0) (hp.still B0)
  have FW := fun w => few_any k i t c s sd q p al st en ra sh a cz.length cap w
  have HB0 : Hid (Below w.heap.size w (boxA w k i t c s sd q p al st en ra sh (.slice a cz.length cap))) := B0
  have HA0 : Hid (AskAt (boxA w k i t c s sd q p al st en ra sh (.slice a cz.length cap)) w.heap.size k i t c s sd q p al st en ra sh (.slice a cz.length cap)) := AskAt.box w k i t c s sd q p al st en ra sh (.slice a cz.length cap)
  have HL : Hid (Let w) := hl
  have HP : Hid (Pow w) := hp
  have HR : Hid (Row w (.slice a cz.length cap) cz.length fun i => .int .i64 (cz.getD i 0)) := hr
  clear hl hp hr B0
  cases hf : fewB i t c s cz.length
  case false =>
    rw [hf] at FW
    clear hf
    generalize cz.length = n at *
    go_enter Tryd.func3, Tryd.ntmps3
    go_wp2_with fail
    refine AW.mono ?_
    rintro e w1 ⟨rfl, b1⟩
    have HB1 : Hid (Below w.heap.size w w1) := HB0.out.trans (b1.mono HB0.out.size)
    obtain ⟨d0, d1, d2, d3, d4, d5, d6, d7, d8, d9, d10, d11, d12, d13⟩ := HA0.out.still b1 (by simp)
    clear AW b1
    go_wp2_with fail
    refine (FW _).mono ?_
    rintro e w2 ⟨rfl, b2⟩
    go_wp2_with fail
    go_ret
    exact ⟨rfl, HB1.out.trans (b2.mono HB1.out.size)⟩
  rw [hf] at FW
  have n100 : cz.length ≤ 100 := by
    unfold fewB at hf
    simp only [Bool.and_eq_true, decide_eq_true_eq] at hf
    omega
  cases hR : rightB k i t c s sd q p al st en ra sh cz.length (curB cz)
  case false =>
    have EN := fun w' (b : Below w.heap.size w w') => encode_no k i t c s sd q p al st en ra sh a cap cz w' hR (HR.out.below b)
    have HEN : Hid (∀ w', Below w.heap.size w w' → Calls Tryd.prog 7 #[.agg #[.int .i64 k, .string i, .string t, .string c, .string s, .int .i64 sd, .int .i64 q, .int .i64 p, .int .i64 al, .int .i64 st, .int .i64 en, .int .i64 ra, .int .i64 sh, .slice a cz.length cap]] w' fun e w'' => e = .returned (.tuple #[.string ⟨#[]⟩, .int .i64 2]) ∧ Below w'.heap.size w' w'') := EN
    clear EN hf hR n100
    generalize cz.length = n at *
    go_enter Tryd.func3, Tryd.ntmps3
    go_wp2_with fail
    refine AW.mono ?_
    rintro e w1 ⟨rfl, b1⟩
    have HB1 : Hid (Below w.heap.size w w1) := HB0.out.trans (b1.mono HB0.out.size)
    have A1 := HA0.out.still b1 (by simp)
    have HA1 : Hid (AskAt w1 w.heap.size k i t c s sd q p al st en ra sh (.slice a n cap)) := A1
    obtain ⟨d0, d1, d2, d3, d4, d5, d6, d7, d8, d9, d10, d11, d12, d13⟩ := A1
    clear AW b1
    go_wp2_with fail
    refine (FW _).mono ?_
    rintro e w2 ⟨rfl, b2⟩
    have HB2 : Hid (Below w.heap.size w w2) := HB1.out.trans (b2.mono HB1.out.size)
    have E2 := HEN.out w2 HB2.out
    obtain ⟨f0, f1, f2, f3, f4, f5, f6, f7, f8, f9, f10, f11, f12, f13⟩ := HA1.out.still b2 HA1.out.lt
    clear b2 HEN d0 d1 d2 d3 d4 d5 d6 d7 d8 d9 d10 d11 d12 d13
    go_wp2_with fail
    refine E2.mono ?_
    rintro e w3 ⟨rfl, b3⟩
    go_wp2_with fail
    go_ret
    exact ⟨rfl, HB2.out.trans (b3.mono HB2.out.size)⟩
  obtain ⟨L, rfl, RP⟩ := right_of hR
  obtain ⟨hT2, hA2⟩ := dec_right RP
  have EN := fun w' (b : Below w.heap.size w w') => encode_yes k i t c s sd q p al st en ra sh a cap L w' RP (HL.out.still b) (HP.out.still b) (HR.out.below b)
  have RG := fun w' (b : Below w.heap.size w w') => right_any k i t c s sd q p al st en ra sh a cap (intsOf L) w' (HR.out.below b)
  rw [hR] at RG
  have DE2 := fun w' h => decode_any (mk (cat (fieldsP ⟨k, i, t, c, s, sd, q, p, al, st, en, ra, sh, L⟩))) w' (dec_small' RP) h
  rw [mk_list] at DE2
  have HT2 : Hid (decT (cat (fieldsP ⟨k, i, t, c, s, sd, q, p, al, st, en, ra, sh, L⟩)) = (0, 0)) := hT2
  have HA2 : Hid (decA (cat (fieldsP ⟨k, i, t, c, s, sd, q, p, al, st, en, ra, sh, L⟩)) = ⟨k, i, t, c, s, sd, q, p, al, st, en, ra, sh, L⟩) := hA2
  clear RP hT2 hA2 hf hR
  generalize hcat : cat (fieldsP ⟨k, i, t, c, s, sd, q, p, al, st, en, ra, sh, L⟩) = BD at *
  clear hcat
  obtain ⟨n, hn⟩ : ∃ n, (intsOf L).length = n := ⟨_, rfl⟩
  have HN : Hid ((intsOf L).length = n) := hn
  have HNN : Hid (n ≤ 1000000) := by show n ≤ 1000000; omega
  rw [hn] at RG EN AW FW HB0 HA0 HR
  rw [hn]
  have HEN : Hid (∀ w', Below w.heap.size w w' → Calls Tryd.prog 7 #[.agg #[.int .i64 k, .string i, .string t, .string c, .string s, .int .i64 sd, .int .i64 q, .int .i64 p, .int .i64 al, .int .i64 st, .int .i64 en, .int .i64 ra, .int .i64 sh, .slice a n cap]] w' fun e w'' => e = .returned (.tuple #[.string (mk BD), .int .i64 0]) ∧ Below w'.heap.size w' w'') := EN
  have HRG : Hid (∀ w', Below w.heap.size w w' → Calls Tryd.prog 9 #[.agg #[.int .i64 k, .string i, .string t, .string c, .string s, .int .i64 sd, .int .i64 q, .int .i64 p, .int .i64 al, .int .i64 st, .int .i64 en, .int .i64 ra, .int .i64 sh, .slice a n cap]] w' fun e w'' => e = .returned (.bool true) ∧ Below w'.heap.size w' w'') := RG
  clear RG EN hn n100
  go_enter Tryd.func3, Tryd.ntmps3
  go_wp2_with fail
  refine AW.mono ?_
  rintro e w1 ⟨rfl, b1⟩
  have HB1 : Hid (Below w.heap.size w w1) := HB0.out.trans (b1.mono HB0.out.size)
  have A1 := HA0.out.still b1 (by simp)
  have HA1 : Hid (AskAt w1 w.heap.size k i t c s sd q p al st en ra sh (.slice a n cap)) := A1
  obtain ⟨d0, d1, d2, d3, d4, d5, d6, d7, d8, d9, d10, d11, d12, d13⟩ := A1
  clear AW b1 HA0 HB0
  go_wp2_with fail
  refine (FW _).mono ?_
  rintro e w2 ⟨rfl, b2⟩
  have HB2 : Hid (Below w.heap.size w w2) := HB1.out.trans (b2.mono HB1.out.size)
  have E2 := HEN.out w2 HB2.out
  have HA2' : Hid (AskAt w2 w.heap.size k i t c s sd q p al st en ra sh (.slice a n cap)) := HA1.out.still b2 HA1.out.lt
  clear b2 HEN FW d0 d1 d2 d3 d4 d5 d6 d7 d8 d9 d10 d11 d12 d13
  obtain ⟨g0, g1, g2, g3, g4, g5, g6, g7, g8, g9, g10, g11, g12, g13⟩ := HA2'.out
  go_wp2_with fail
  refine E2.mono ?_
  rintro e w4 ⟨rfl, b4⟩
  have HB4 : Hid (Below w.heap.size w w4) := HB2.out.trans (b4.mono HB2.out.size)
  have HA4 : Hid (AskAt w4 w.heap.size k i t c s sd q p al st en ra sh (.slice a n cap)) := HA2'.out.still b4 HA2'.out.lt
  have D4 := DE2 w4 (HL.out.still HB4.out)
  clear E2 b4 DE2 HA2' HA1 HB1 HB2 g0 g1 g2 g3 g4 g5 g6 g7 g8 g9 g10 g11 g12 g13
  go_wp2_with fail
  refine D4.mono ?_
  rintro e w5 ⟨k', i', t', c', s', sd', q', p', al', st', en', ra', sh', a', d', cz', he, RA', ⟨base', hbase', own'⟩, b5⟩
  rw [HT2.out] at he
  dsimp only at he
  subst he
  have eq' := RA'.eq
  have cu' := RA'.cur
  rw [HA2.out] at eq' cu'
  simp only [AskP.mk.injEq] at eq'
  obtain ⟨rfl, rfl, rfl, rfl, rfl, rfl, rfl, rfl, rfl, rfl, rfl, rfl, rfl, _⟩ := eq'
  subst cu'
  rw [HN.out]
  have ROW' := its_row own'
  rw [HN.out] at ROW'
  have B5 : Below w.heap.size w w5 := HB4.out.trans (b5.mono HB4.out.size)
  have BY := boxA_below w5 k i t c s sd q p al st en ra sh (.slice a' n d')
  have A5 := (HA4.out.still b5 HA4.out.lt).still BY (HA4.out.still b5 HA4.out.lt).lt
  have C5 := AskAt.box w5 k i t c s sd q p al st en ra sh (.slice a' n d')
  have X5 : Hid (AskAt (boxA w5 k i t c s sd q p al st en ra sh (.slice a' n d')) w.heap.size k i t c s sd q p al st en ra sh (.slice a n cap)) := A5
  have Y5 : Hid (AskAt (boxA w5 k i t c s sd q p al st en ra sh (.slice a' n d')) w5.heap.size k i t c s sd q p al st en ra sh (.slice a' n d')) := C5
  have n15 : ¬ w.heap.size = w5.heap.size := by have := (HA4.out.still b5 HA4.out.lt).lt; omega
  have n51 : ¬ w5.heap.size = w.heap.size := fun e => n15 e.symm
  have HB5 : Hid (Below w.heap.size w (boxA w5 k i t c s sd q p al st en ra sh (.slice a' n d'))) := B5.trans (BY.mono B5.size)
  have HRW2 : Hid (Row (boxA w5 k i t c s sd q p al st en ra sh (.slice a' n d')) (.slice a' n d') n fun i => .int .i64 ((intsOf L).getD i 0)) := ROW'.below BY
  have RG5 := HRG.out _ (below_more HB5.out 1)
  obtain ⟨x0, x1, x2, x3, x4, x5, x6, x7, x8, x9, x10, x11, x12, x13⟩ := A5
  obtain ⟨y0, y1, y2, y3, y4, y5, y6, y7, y8, y9, y10, y11, y12, y13⟩ := C5
  have tok : True := trivial
  clear D4 RA' own' b5 B5 BY HA4 HB4 ROW' HT2 HA2 hbase' HRG
  go_wp2_with fail
  go_region_held3 (fun w' => (w'.cell? ⟨w.heap.size, 0, none⟩ = some (.int .i64 k) ∧ w'.cell? ⟨w.heap.size, 1, none⟩ = some (.string i) ∧ w'.cell? ⟨w.heap.size, 2, none⟩ = some (.string t) ∧ w'.cell? ⟨w.heap.size, 3, none⟩ = some (.string c) ∧ w'.cell? ⟨w.heap.size, 4, none⟩ = some (.string s) ∧ w'.cell? ⟨w.heap.size, 5, none⟩ = some (.int .i64 sd) ∧ w'.cell? ⟨w.heap.size, 6, none⟩ = some (.int .i64 q) ∧ w'.cell? ⟨w.heap.size, 7, none⟩ = some (.int .i64 p) ∧ w'.cell? ⟨w.heap.size, 8, none⟩ = some (.int .i64 al) ∧ w'.cell? ⟨w.heap.size, 9, none⟩ = some (.int .i64 st) ∧ w'.cell? ⟨w.heap.size, 10, none⟩ = some (.int .i64 en) ∧ w'.cell? ⟨w.heap.size, 11, none⟩ = some (.int .i64 ra) ∧ w'.cell? ⟨w.heap.size, 12, none⟩ = some (.int .i64 sh) ∧ w'.cell? ⟨w.heap.size, 13, none⟩ = some (.slice a n cap)) ∧ w'.cell? ⟨w5.heap.size, 0, none⟩ = some (.int .i64 k) ∧ w'.cell? ⟨w5.heap.size, 1, none⟩ = some (.string i) ∧ w'.cell? ⟨w5.heap.size, 2, none⟩ = some (.string t) ∧ w'.cell? ⟨w5.heap.size, 3, none⟩ = some (.string c) ∧ w'.cell? ⟨w5.heap.size, 4, none⟩ = some (.string s) ∧ w'.cell? ⟨w5.heap.size, 5, none⟩ = some (.int .i64 sd) ∧ w'.cell? ⟨w5.heap.size, 6, none⟩ = some (.int .i64 q) ∧ w'.cell? ⟨w5.heap.size, 7, none⟩ = some (.int .i64 p) ∧ w'.cell? ⟨w5.heap.size, 8, none⟩ = some (.int .i64 al) ∧ w'.cell? ⟨w5.heap.size, 9, none⟩ = some (.int .i64 st) ∧ w'.cell? ⟨w5.heap.size, 10, none⟩ = some (.int .i64 en) ∧ w'.cell? ⟨w5.heap.size, 11, none⟩ = some (.int .i64 ra) ∧ w'.cell? ⟨w5.heap.size, 12, none⟩ = some (.int .i64 sh) ∧ w'.cell? ⟨w5.heap.size, 13, none⟩ = some (.slice a' n d')) (go_keep) (first
    | (go_at_call 9; refine RG5.mono ?_; rintro e w9 ⟨rfl, k9⟩; have k9' := below_of_drew k9; have X9 : Hid (AskAt w9 w.heap.size k i t c s sd q p al st en ra sh (.slice a n cap)) := X5.out.still k9' X5.out.lt; have Y9 : Hid (AskAt w9 w5.heap.size k i t c s sd q p al st en ra sh (.slice a' n d')) := Y5.out.still k9' Y5.out.lt; obtain ⟨ra0, ra1, ra2, ra3, ra4, ra5, ra6, ra7, ra8, ra9, ra10, ra11, ra12, ra13⟩ := X9.out; obtain ⟨rb0, rb1, rb2, rb3, rb4, rb5, rb6, rb7, rb8, rb9, rb10, rb11, rb12, rb13⟩ := Y9.out)
    | (go_at_call 11; first
      | (have _t := tok; refine (plain_any k i t c s sd q p al st en ra sh _ n _ _).mono ?_; rintro e w6 ⟨rfl, k6⟩; clear tok; have X6 : Hid (AskAt w6 w.heap.size k i t c s sd q p al st en ra sh (.slice a n cap)) := X9.out.still k6 X9.out.lt; have Y6 : Hid (AskAt w6 w5.heap.size k i t c s sd q p al st en ra sh (.slice a' n d')) := Y9.out.still k6 Y9.out.lt; obtain ⟨ua0, ua1, ua2, ua3, ua4, ua5, ua6, ua7, ua8, ua9, ua10, ua11, ua12, ua13⟩ := X6.out; obtain ⟨ub0, ub1, ub2, ub3, ub4, ub5, ub6, ub7, ub8, ub9, ub10, ub11, ub12, ub13⟩ := Y6.out)
      | (refine (plain_any k i t c s sd q p al st en ra sh _ n _ _).mono ?_; rintro e w7 ⟨rfl, k7⟩; have X7 : Hid (AskAt w7 w.heap.size k i t c s sd q p al st en ra sh (.slice a n cap)) := X6.out.still k7 X6.out.lt; have Y7 : Hid (AskAt w7 w5.heap.size k i t c s sd q p al st en ra sh (.slice a' n d')) := Y6.out.still k7 Y6.out.lt; obtain ⟨va0, va1, va2, va3, va4, va5, va6, va7, va8, va9, va10, va11, va12, va13⟩ := X7.out; obtain ⟨vb0, vb1, vb2, vb3, vb4, vb5, vb6, vb7, vb8, vb9, vb10, vb11, vb12, vb13⟩ := Y7.out))
    | (go_at_call 10; have k67 := k9'.trans ((k6.trans (k7.mono k6.size)).mono k9'.size); refine (same_yes12 k i t c s sd q p al st en ra sh a' n d' a cap (fun i => (intsOf L).getD i 0) w7 HNN.out (HRW2.out.below k67) (HR.out.below (HB5.out.trans (k67.mono HB5.out.size)))).mono ?_; rintro e w8 ⟨rfl, k8⟩; have X8 : Hid (AskAt w8 w.heap.size k i t c s sd q p al st en ra sh (.slice a n cap)) := X7.out.still k8 X7.out.lt; have Y8 : Hid (AskAt w8 w5.heap.size k i t c s sd q p al st en ra sh (.slice a' n d')) := Y7.out.still k8 Y7.out.lt; obtain ⟨za0, za1, za2, za3, za4, za5, za6, za7, za8, za9, za10, za11, za12, za13⟩ := X8.out; obtain ⟨zb0, zb1, zb2, zb3, zb4, zb5, zb6, zb7, zb8, zb9, zb10, zb11, zb12, zb13⟩ := Y8.out))
  all_goals
    have B7 := HB5.out.trans (k67.mono HB5.out.size)
    have HB8 : Hid (Below w.heap.size w w8) := B7.trans (k8.mono B7.size)
    clear B7
    go_wp2_with fail
    go_ret
    exact ⟨rfl, HB8.out⟩
set_option maxRecDepth 100000 in
theorem askBack_lifted (os : Os) (started : os.Started) (H : Type) (enc : TypeId × Value → H) :
    ReturnsInHanded {} Tryd.checked os 3 .any (fun w args => (Rows.askBackSpec.pre enc Tryd.prog Tryd.f3 [] false w args ∧ laidMetH Tryd.prog Rows.askBackRow.laid w) ∧ sizedMet enc Tryd.prog Tryd.f3 (OpenSpec.ofChange Rows.askBackSpec) false w args)
      (Rows.askBackSpec.post enc Tryd.prog Tryd.f3 false true false false) := by
  refine returnsInHanded_of_change_and (C := Tryd.checked) (X := fun w _ => laidMetH Tryd.prog laid8 w) (fun _ _ _ hh h => h.of_heap hh) own8 started (by kernel_rfl) Tryd.func3
    (ChangeSpec.witness_shaped (enc := enc) (C := Tryd.checked) (os := os) (X := fun w _ => laidMetH Tryd.prog laid8 w) false (World.doorLaid Tryd.prog 400 os) #[.agg #[.int .i64 0, .string ⟨#[]⟩, .string ⟨#[]⟩, .string ⟨#[]⟩, .string ⟨#[]⟩, .int .i64 0, .int .i64 0, .int .i64 0, .int .i64 0, .int .i64 0, .int .i64 0, .int .i64 0, .int .i64 0, .slice none 0 0]] 8 rfl (World.shaped_of_RefB (by kernel_rfl) (by kernel_rfl)) (by kernel_rfl) (by kernel_rfl) (by kernel_rfl) (door_met os _)) ?_
  intro W base args ds gs before hval0 hW _ _ hL _
  have hval : ∀ (j : Nat) t v, Tryd.f3.params[j]? = some t → args[j]? = some v → Value.okWide Tryd.prog W .any base t v := hval0
  have hW' := hW
  obtain ⟨p, q, hA0, hV, rfl, hfz, hnd⟩ := hW
  have hA : DataW.TrodAll enc Tryd.prog W 0 (fun _ => true) true Tryd.f3.params.toList args.toList ds p := hA0
  rw [Tryd.params3] at hA hval
  obtain ⟨v0, vs0, d0, ds0, p0, q0, hargs, rfl, rfl, h0, r0⟩ := trodAll_cons hA
  obtain ⟨rfl, rfl, rfl⟩ := trodAll_nil r0
  obtain rfl : args = #[v0] := by cases args; simp_all
  obtain ⟨rfl, rfl⟩ := trodVars_none hV
  have k0 := h0
  have lt0 : ∀ x ∈ p0, x.block < W.heap.size := by obtain ⟨m, hm⟩ := k0; exact DataW.trod_lt m _ _ _ hm
  obtain ⟨k, i, t, c, s, sd, q, p, al, st, en, ra, sh, a, cap, cz, rfl, row⟩ := open_ask (hval 0 24 v0 rfl rfl) h0
  clear hA0 hval0
  simp only [List.append_nil] at hW'
  refine (askBack_walk W k i t c s sd q p al st en ra sh a cap cz row (pow_of_laid hL) (let_of_laid hL)).mono fun e W' ⟨he, bel⟩ => ?_
  subst he
  exact ⟨_, rfl, _, _, _, [], _, [], hW', trodAll_mk1 (shut_bool Tryd.underlying4 _), (trodAll_cons_mk (Below.trod laidOut8 (by kernel_rfl) (of_decide_eq_true (by kernel_rfl)) k0 bel lt0) trodAll_mk0), rfl, bel.frame _, fun h => by cases h⟩

/-- The row. -/
theorem askBack_row : Rows.AskBackSaid :=
  OpenClaim.holds_of_wide 3 Tryd.f3 rfl rfl rfl rfl rfl rfl rfl ⟨rfl, rfl, rfl, rfl, rfl⟩ rfl rfl rfl rfl rfl (by kernel_rfl) Tryd.func3 (by kernel_rfl)
    (of_decide_eq_true (by kernel_rfl)) (by unfold Func.isWrapper; first | (rw [if_pos (by decide +kernel)]; kernel_rfl) | (rw [if_neg (by decide +kernel)]; exact ⟨rfl, rfl⟩))
    (fun os started H enc _ => askBack_lifted os started H enc)
/-- THE STATEMENT: the tied card. -/
theorem askBack_proved : Rows.AskBackCardSaid :=
  Claim7.holds_tied_plain_at .later [] Rows.askBackCard.laidKinds true Rows.askBackCard.stood.harness Rows.askBackCard.stood.looks
    askBack_row (fun _ h => by cases h) (by kernel_rfl) (fun _ h => by cases h) askBack_row_tie rfl ⟨rfl, rfl⟩ (by kernel_rfl) rfl
    (fun f fn hf hfn => by
      obtain rfl : f = 3 := Option.some.inj ((show Tryd.prog.funcNamed Rows.askBackRow.func = some 3 by kernel_rfl).symm.trans hf) |>.symm
      obtain rfl : fn = Tryd.f3 := (Option.some.inj (Tryd.func3.symm.trans hfn)).symm
      exact ⟨by kernel_rfl, fun j t ht => by
        rw [Tryd.params3] at ht
        have hm : t ∈ [24] := by simpa using Array.mem_of_getElem? ht
        have hall : ([24].all fun u => !Tryd.prog.wantsStandIn u) = true := by kernel_rfl
        exact (show Tryd.prog.wantsStandIn t = false by simpa using List.all_eq_true.1 hall t hm)⟩)
    (by kernel_rfl)
#print axioms askBack_proved
end Go.Proofs.YtamhoeafihiebaaDoor


