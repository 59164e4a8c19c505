/-
  Any ask is right just if the document says so, and has the document's body: the statement AskEncodes, for every ask.
-/
import Derived.Test.YtepkmbpadhfbmaaGreatDoorGL
import Derived.Test.YtepkmbpadhfbmaaGreatDoorGA
import Derived.Test.YtepkmbpadhfbmaaGreatDoorIH
import Derived.Test.YtepkmbpadhfbmaaGreatDoorCards
import Derived.Test.YtepkmbpadhfbmaaGreatDoorTie
import Derived.Deep.RegionHeld3
import Derived.SevenTiedAt
namespace Go.Proofs.YtepkmbpadhfbmaaGreatDoor
open Go.ChangeShapes Go.WideShapes Go.ChangeAt Go.WideMaps Go.WideElems Go.RowKit Go.Lib

set_option maxRecDepth 1000000 in
set_option maxHeartbeats 16000000 in
theorem askEncodes_main (w : World) (k : Int) (i t c s : ByteArray) (sd q p al st en ra sh : Int) (a : Option Addr) (n cap : Nat) (SS : ByteArray) (EE : Int) (RB : Bool) (HB0 : Hid (Below w.heap.size w (boxA w k i t c s sd q p al st en ra sh (.slice a n cap)))) (HA0 : Hid (AskAt (boxA w k i t c s sd q p al st en ra sh (.slice a n cap)) w.heap.size k i t c s sd q p al st en ra sh (.slice a n cap)))
    (AW : Calls Tryz.prog 5 #[] (boxA w k i t c s sd q p al st en ra sh (.slice a n cap)) fun e w' => e = .returned (.bool true) ∧ Below (boxA w k i t c s sd q p al st en ra sh (.slice a n cap)).heap.size (boxA w k i t c s sd q p al st en ra sh (.slice a n cap)) w')
    (FW : ∀ w, Calls Tryz.prog 6 #[.agg #[.int .i64 k, .string i, .string t, .string c, .string s, .int .i64 sd, .int .i64 q, .int .i64 p, .int .i64 al, .int .i64 st, .int .i64 en, .int .i64 ra, .int .i64 sh, .slice a n cap]] w fun e w' => e = .returned (.bool true) ∧ Below w.heap.size w w')
    (HEN : Hid (∀ w', Below w.heap.size w w' → Calls Tryz.prog 7 #[.agg #[.int .i64 k, .string i, .string t, .string c, .string s, .int .i64 sd, .int .i64 q, .int .i64 p, .int .i64 al, .int .i64 st, .int .i64 en, .int .i64 ra, .int .i64 sh, .slice a n cap]] w' fun e w'' => e = .returned (.tuple #[.string SS, .int .i64 EE]) ∧ Below w'.heap.size w' w'')) (HRN : Hid (∀ w', Below w.heap.size w w' → Calls Tryz.prog 8 #[.agg #[.int .i64 k, .string i, .string t, .string c, .string s, .int .i64 sd, .int .i64 q, .int .i64 p, .int .i64 al, .int .i64 st, .int .i64 en, .int .i64 ra, .int .i64 sh, .slice a n cap]] w' fun e w'' => e = .returned (.tuple #[.string SS, .int .i64 EE]) ∧ Below w'.heap.size w' w'')) (HR1 : Hid (∀ w', Below w.heap.size w w' → Calls Tryz.prog 10 #[.agg #[.int .i64 k, .string i, .string t, .string c, .string s, .int .i64 sd, .int .i64 q, .int .i64 p, .int .i64 al, .int .i64 st, .int .i64 en, .int .i64 ra, .int .i64 sh, .slice a n cap]] w' fun e w'' => e = .returned (.bool RB) ∧ Below w'.heap.size w' w'')) (HR2 : Hid (∀ w', Below w.heap.size w w' → Calls Tryz.prog 11 #[.agg #[.int .i64 k, .string i, .string t, .string c, .string s, .int .i64 sd, .int .i64 q, .int .i64 p, .int .i64 al, .int .i64 st, .int .i64 en, .int .i64 ra, .int .i64 sh, .slice a n cap]] w' fun e w'' => e = .returned (.bool RB) ∧ Below w'.heap.size w' w'')) :
    Calls Tryz.prog 3 #[.agg #[.int .i64 k, .string i, .string t, .string c, .string s, .int .i64 sd, .int .i64 q, .int .i64 p, .int .i64 al, .int .i64 st, .int .i64 en, .int .i64 ra, .int .i64 sh, .slice a n cap]] w fun e w' => e = .returned (.bool true) ∧ Below w.heap.size w w' := by
  have PL := fun w => plain_any k i t c s sd q p al st en ra sh a n cap w
  go_enter Tryz.func3, Tryz.ntmps3
  go_wp2_with fail
  refine AW.mono ?_
  rintro e w1 ⟨rfl, b1⟩
  have HB1 : Hid (Below w.heap.size w w1) := HB0.out.trans (b1.mono HB0.out.size)
  have HA1 : Hid (AskAt w1 w.heap.size k i t c s sd q p al st en ra sh (.slice a n cap)) := HA0.out.still b1 HA0.out.lt
  obtain ⟨d0, d1, d2, d3, d4, d5, d6, d7, d8, d9, d10, d11, d12, d13⟩ := HA1.out
  clear AW b1
  go_wp2_with fail
  refine (FW _).mono ?_
  rintro e w2 ⟨rfl, b2⟩
  have HB2 : Hid (Below w.heap.size w w2) := HB1.out.trans (b2.mono HB1.out.size)
  have HA2 : Hid (AskAt w2 w.heap.size k i t c s sd q p al st en ra sh (.slice a n cap)) := HA1.out.still b2 HA1.out.lt
  have E2 := HEN.out w2 HB2.out
  clear FW b2 HEN d0 d1 d2 d3 d4 d5 d6 d7 d8 d9 d10 d11 d12 d13
  obtain ⟨g0, g1, g2, g3, g4, g5, g6, g7, g8, g9, g10, g11, g12, g13⟩ := HA2.out
  go_wp2_with fail
  refine E2.mono ?_
  rintro e w3 ⟨rfl, b3⟩
  have HB3 : Hid (Below w.heap.size w w3) := HB2.out.trans (b3.mono HB2.out.size)
  have HA3 : Hid (AskAt w3 w.heap.size k i t c s sd q p al st en ra sh (.slice a n cap)) := HA2.out.still b3 HA2.out.lt
  clear E2 b3 g0 g1 g2 g3 g4 g5 g6 g7 g8 g9 g10 g11 g12 g13
  obtain ⟨h0, h1, h2, h3, h4, h5, h6, h7, h8, h9, h10, h11, h12, h13⟩ := HA3.out
  go_wp2_with fail
  refine (PL _).mono ?_
  rintro e w4 ⟨rfl, b4⟩
  have HB4 : Hid (Below w.heap.size w w4) := HB3.out.trans (b4.mono HB3.out.size)
  have HA4 : Hid (AskAt w4 w.heap.size k i t c s sd q p al st en ra sh (.slice a n cap)) := HA3.out.still b4 HA3.out.lt
  have R4 := HRN.out w4 HB4.out
  clear b4 HRN h0 h1 h2 h3 h4 h5 h6 h7 h8 h9 h10 h11 h12 h13
  go_wp2_with fail
  refine R4.mono ?_
  rintro e w5 ⟨rfl, b5⟩
  have HB5 : Hid (Below w.heap.size w w5) := HB4.out.trans (b5.mono HB4.out.size)
  have HA5 : Hid (AskAt w5 w.heap.size k i t c s sd q p al st en ra sh (.slice a n cap)) := HA4.out.still b5 HA4.out.lt
  clear R4 b5
  obtain ⟨x0, x1, x2, x3, x4, x5, x6, x7, x8, x9, x10, x11, x12, x13⟩ := HA5.out
  go_wp2_with fail
  go_region_held3 (fun w' => w'.cell? ⟨w.heap.size, 0, none⟩ = some (.int .i64 k) ∧ w'.cell? ⟨w.heap.size, 1, none⟩ = some (.string i) ∧ w'.cell? ⟨w.heap.size, 2, none⟩ = some (.string t) ∧ w'.cell? ⟨w.heap.size, 3, none⟩ = some (.string c) ∧ w'.cell? ⟨w.heap.size, 4, none⟩ = some (.string s) ∧ w'.cell? ⟨w.heap.size, 5, none⟩ = some (.int .i64 sd) ∧ w'.cell? ⟨w.heap.size, 6, none⟩ = some (.int .i64 q) ∧ w'.cell? ⟨w.heap.size, 7, none⟩ = some (.int .i64 p) ∧ w'.cell? ⟨w.heap.size, 8, none⟩ = some (.int .i64 al) ∧ w'.cell? ⟨w.heap.size, 9, none⟩ = some (.int .i64 st) ∧ w'.cell? ⟨w.heap.size, 10, none⟩ = some (.int .i64 en) ∧ w'.cell? ⟨w.heap.size, 11, none⟩ = some (.int .i64 ra) ∧ w'.cell? ⟨w.heap.size, 12, none⟩ = some (.int .i64 sh) ∧ w'.cell? ⟨w.heap.size, 13, none⟩ = some (.slice a n cap)) (go_keep) (first
    | (go_at_call 10; refine (HR1.out _ (below_more HB5.out 1)).mono ?_; rintro e w6 ⟨rfl, k6⟩; have k6' := below_of_drew k6; have X6 : Hid (AskAt w6 w.heap.size k i t c s sd q p al st en ra sh (.slice a n cap)) := HA5.out.still k6' HA5.out.lt; have HB6 : Hid (Below w.heap.size w w6) := HB5.out.trans (k6'.mono HB5.out.size); obtain ⟨u0, u1, u2, u3, u4, u5, u6, u7, u8, u9, u10, u11, u12, u13⟩ := X6.out)
    | (go_at_call 9; refine (PL _).mono ?_; rintro e w7 ⟨rfl, k7⟩; have X7 : Hid (AskAt w7 w.heap.size k i t c s sd q p al st en ra sh (.slice a n cap)) := X6.out.still k7 X6.out.lt; have HB7 : Hid (Below w.heap.size w w7) := HB6.out.trans (k7.mono HB6.out.size); obtain ⟨v0, v1, v2, v3, v4, v5, v6, v7, v8, v9, v10, v11, v12, v13⟩ := X7.out)
    | (go_at_call 11; refine (HR2.out w7 HB7.out).mono ?_; rintro e w8 ⟨rfl, k8⟩; have X8 : Hid (AskAt w8 w.heap.size k i t c s sd q p al st en ra sh (.slice a n cap)) := X7.out.still k8 X7.out.lt; have HB8 : Hid (Below w.heap.size w w8) := HB7.out.trans (k8.mono HB7.out.size); obtain ⟨y0, y1, y2, y3, y4, y5, y6, y7, y8, y9, y10, y11, y12, y13⟩ := X8.out))
  all_goals
    go_wp2_with fail
    go_ret
    exact ⟨rfl, HB8.out⟩
set_option maxRecDepth 1000000 in
set_option maxHeartbeats 8000000 in
theorem askEncodes_few (w : World) (k : Int) (i t c s : ByteArray) (sd q p al st en ra sh : Int) (a : Option Addr) (n cap : Nat) (HB0 : Hid (Below w.heap.size w (boxA w k i t c s sd q p al st en ra sh (.slice a n cap)))) (HA0 : Hid (AskAt (boxA w k i t c s sd q p al st en ra sh (.slice a n cap)) w.heap.size k i t c s sd q p al st en ra sh (.slice a n cap)))
    (AW : Calls Tryz.prog 5 #[] (boxA w k i t c s sd q p al st en ra sh (.slice a n cap)) fun e w' => e = .returned (.bool true) ∧ Below (boxA w k i t c s sd q p al st en ra sh (.slice a n cap)).heap.size (boxA w k i t c s sd q p al st en ra sh (.slice a n cap)) w')
    (FW : ∀ w, Calls Tryz.prog 6 #[.agg #[.int .i64 k, .string i, .string t, .string c, .string s, .int .i64 sd, .int .i64 q, .int .i64 p, .int .i64 al, .int .i64 st, .int .i64 en, .int .i64 ra, .int .i64 sh, .slice a n cap]] w fun e w' => e = .returned (.bool false) ∧ Below w.heap.size w w') :
    Calls Tryz.prog 3 #[.agg #[.int .i64 k, .string i, .string t, .string c, .string s, .int .i64 sd, .int .i64 q, .int .i64 p, .int .i64 al, .int .i64 st, .int .i64 en, .int .i64 ra, .int .i64 sh, .slice a n cap]] w fun e w' => e = .returned (.bool true) ∧ Below w.heap.size w w' := by
  go_enter Tryz.func3, Tryz.ntmps3
  go_wp2_with fail
  refine AW.mono ?_
  rintro e w1 ⟨rfl, b1⟩
  have HB1 : Hid (Below w.heap.size w w1) := HB0.out.trans (b1.mono HB0.out.size)
  obtain ⟨d0, d1, d2, d3, d4, d5, d6, d7, d8, d9, d10, d11, d12, d13⟩ := HA0.out.still b1 HA0.out.lt
  clear AW b1
  go_wp2_with fail
  refine (FW _).mono ?_
  rintro e w2 ⟨rfl, b2⟩
  go_wp2_with fail
  go_ret
  exact ⟨rfl, HB1.out.trans (b2.mono HB1.out.size)⟩
theorem askEncodes_walk (w : World) (k : Int) (i t c s : ByteArray) (sd q p al st en ra sh : Int) (a : Option Addr) (cap : Nat) (cz : List Int) (hr : Row w (.slice a cz.length cap) cz.length fun i => .int .i64 (cz.getD i 0)) (hp : Pow w) (hl : Let w) :
    Calls Tryz.prog 3 #[.agg #[.int .i64 k, .string i, .string t, .string c, .string s, .int .i64 sd, .int .i64 q, .int .i64 p, .int .i64 al, .int .i64 st, .int .i64 en, .int .i64 ra, .int .i64 sh, .slice a cz.length cap]] w fun e w' => e = .returned (.bool true) ∧ Below w.heap.size w w' := by
  have B0 := boxA_below w k i t c s sd q p al st en ra sh (.slice a cz.length cap)
  have AW := awake12_any _ (hl.still B0) (hp.still B0)
  have FW := fun w => few_any k i t c s sd q p al st en ra sh a cz.length cap w
  have A0 : AskAt (boxA w k i t c s sd q p al st en ra sh (.slice a cz.length cap)) w.heap.size k i t c s sd q p al st en ra sh (.slice a cz.length cap) := AskAt.box w k i t c s sd q p al st en ra sh (.slice a cz.length cap)
  cases hf : fewB i t c s cz.length
  case false =>
    rw [hf] at FW
    exact askEncodes_few w k i t c s sd q p al st en ra sh a cz.length cap B0 A0 AW FW
  rw [hf] at FW
  have ff : i.size ≤ 200 ∧ t.size ≤ 200 ∧ c.size ≤ 200 ∧ s.size ≤ 200 ∧ cz.length ≤ 100 := by
    unfold fewB at hf
    simp only [Bool.and_eq_true, decide_eq_true_eq] at hf
    omega
  have R1 := fun w' (b : Below w.heap.size w w') => right_any k i t c s sd q p al st en ra sh a cap cz w' (hr.below b)
  have R2 := fun w' (b : Below w.heap.size w w') => refRight_any k i t c s sd q p al st en ra sh a cap cz w' (hr.below b) (by omega) (by omega) (by omega) (by omega) (by omega)
  cases hR : rightB k i t c s sd q p al st en ra sh cz.length (curB cz)
  case false =>
    exact askEncodes_main w k i t c s sd q p al st en ra sh a cz.length cap ⟨#[]⟩ 2 _ B0 A0 AW FW (fun w' b => encode_no k i t c s sd q p al st en ra sh a cap cz w' hR (hr.below b)) (fun w' b => refEncode_no k i t c s sd q p al st en ra sh a cap cz w' (hr.below b) hR (by omega) (by omega) (by omega) (by omega) (by omega)) R1 R2
  obtain ⟨L, rfl, RP⟩ := right_of hR
  exact askEncodes_main w k i t c s sd q p al st en ra sh a (intsOf L).length cap _ 0 _ B0 A0 AW FW (fun w' b => encode_yes k i t c s sd q p al st en ra sh a cap L w' RP (hl.still b) (hp.still b) (hr.below b)) (fun w' b => refEncode_yes k i t c s sd q p al st en ra sh a cap L w' RP hR (hr.below b) (by rw [ints_len] at ff; omega) (by omega) (by omega) (by omega) (by omega)) R1 R2
set_option maxRecDepth 100000 in
theorem askEncodes_lifted (os : Os) (started : os.Started) (H : Type) (enc : TypeId × Value → H) :
    ReturnsInHanded {} Tryz.checked os 3 .any (fun w args => (Rows.askEncodesSpec.pre enc Tryz.prog Tryz.f3 [] false w args ∧ laidMetH Tryz.prog Rows.askEncodesRow.laid w) ∧ sizedMet enc Tryz.prog Tryz.f3 (OpenSpec.ofChange Rows.askEncodesSpec) false w args)
      (Rows.askEncodesSpec.post enc Tryz.prog Tryz.f3 false true false false) := by
  refine returnsInHanded_of_change_and (C := Tryz.checked) (X := fun w _ => laidMetH Tryz.prog laid8 w) (fun _ _ _ hh h => h.of_heap hh) own8 started (by kernel_rfl) Tryz.func3
    (ChangeSpec.witness_shaped (enc := enc) (C := Tryz.checked) (os := os) (X := fun w _ => laidMetH Tryz.prog laid8 w) false (World.doorLaid Tryz.prog 400 os) #[.agg #[.int .i64 0, .string ⟨#[]⟩, .string ⟨#[]⟩, .string ⟨#[]⟩, .string ⟨#[]⟩, .int .i64 0, .int .i64 0, .int .i64 0, .int .i64 0, .int .i64 0, .int .i64 0, .int .i64 0, .int .i64 0, .slice none 0 0]] 8 rfl (World.shaped_of_RefB (by kernel_rfl) (by kernel_rfl)) (by kernel_rfl) (by kernel_rfl) (by kernel_rfl) (door_met os _)) ?_
  intro W base args ds gs before hval0 hW _ _ hL _
  have hval : ∀ (j : Nat) t v, Tryz.f3.params[j]? = some t → args[j]? = some v → Value.okWide Tryz.prog W .any base t v := hval0
  have hW' := hW
  obtain ⟨p, q, hA0, hV, rfl, hfz, hnd⟩ := hW
  have hA : DataW.TrodAll enc Tryz.prog W 0 (fun _ => true) true Tryz.f3.params.toList args.toList ds p := hA0
  rw [Tryz.params3] at hA hval
  obtain ⟨v0, vs0, d0, ds0, p0, q0, hargs, rfl, rfl, h0, r0⟩ := trodAll_cons hA
  obtain ⟨rfl, rfl, rfl⟩ := trodAll_nil r0
  obtain rfl : args = #[v0] := by cases args; simp_all
  obtain ⟨rfl, rfl⟩ := trodVars_none hV
  have k0 := h0
  have lt0 : ∀ x ∈ p0, x.block < W.heap.size := by obtain ⟨m, hm⟩ := k0; exact DataW.trod_lt m _ _ _ hm
  obtain ⟨k, i, t, c, s, sd, q, p, al, st, en, ra, sh, a, cap, cz, rfl, row⟩ := open_ask (hval 0 24 v0 rfl rfl) h0
  clear hA0 hval0
  simp only [List.append_nil] at hW'
  refine (askEncodes_walk W k i t c s sd q p al st en ra sh a cap cz row (pow_of_laid hL) (let_of_laid hL)).mono fun e W' ⟨he, bel⟩ => ?_
  subst he
  exact ⟨_, rfl, _, _, _, [], _, [], hW', trodAll_mk1 (shut_bool Tryz.underlying4 _), (trodAll_cons_mk (Below.trod laidOut8 (by kernel_rfl) (of_decide_eq_true (by kernel_rfl)) k0 bel lt0) trodAll_mk0), rfl, bel.frame _, fun h => by cases h⟩

/-- The row. -/
theorem askEncodes_row : Rows.AskEncodesSaid :=
  OpenClaim.holds_of_wide 3 Tryz.f3 rfl rfl rfl rfl rfl rfl rfl ⟨rfl, rfl, rfl, rfl, rfl⟩ rfl rfl rfl rfl rfl (by kernel_rfl) Tryz.func3 (by kernel_rfl)
    (of_decide_eq_true (by kernel_rfl)) (by unfold Func.isWrapper; first | (rw [if_pos (by decide +kernel)]; kernel_rfl) | (rw [if_neg (by decide +kernel)]; exact ⟨rfl, rfl⟩))
    (fun os started H enc _ => askEncodes_lifted os started H enc)
/-- THE STATEMENT: the tied card. -/
theorem askEncodes_proved : Rows.AskEncodesCardSaid :=
  Claim7.holds_tied_plain_at .later [] Rows.askEncodesCard.laidKinds true Rows.askEncodesCard.stood.harness Rows.askEncodesCard.stood.looks
    askEncodes_row (fun _ h => by cases h) (by kernel_rfl) (fun _ h => by cases h) askEncodes_row_tie rfl ⟨rfl, rfl⟩ (by kernel_rfl) rfl
    (fun f fn hf hfn => by
      obtain rfl : f = 3 := Option.some.inj ((show Tryz.prog.funcNamed Rows.askEncodesRow.func = some 3 by kernel_rfl).symm.trans hf) |>.symm
      obtain rfl : fn = Tryz.f3 := (Option.some.inj (Tryz.func3.symm.trans hfn)).symm
      exact ⟨by kernel_rfl, fun j t ht => by
        rw [Tryz.params3] at ht
        have hm : t ∈ [24] := by simpa using Array.mem_of_getElem? ht
        have hall : ([24].all fun u => !Tryz.prog.wantsStandIn u) = true := by kernel_rfl
        exact (show Tryz.prog.wantsStandIn t = false by simpa using List.all_eq_true.1 hall t hm)⟩)
    (by kernel_rfl)
#print axioms askEncodes_proved
end Go.Proofs.YtepkmbpadhfbmaaGreatDoor


