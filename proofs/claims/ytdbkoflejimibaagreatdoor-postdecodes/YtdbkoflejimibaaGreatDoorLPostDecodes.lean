/-
  Any bytes are the document's order, and the document's reply, or have the first error, beside its tag: the statement PostDecodes, for every text.
-/
import Derived.Test.YtdbkoflejimibaaGreatDoorJJ
import Derived.Test.YtdbkoflejimibaaGreatDoorJP
import Derived.Test.YtdbkoflejimibaaGreatDoorJR
import Derived.Deep.RegionHeld3
import Derived.Test.YtdbkoflejimibaaGreatDoorJK
import Derived.Test.YtdbkoflejimibaaGreatDoorGA
import Derived.Test.YtdbkoflejimibaaGreatDoorCards
import Derived.Test.YtdbkoflejimibaaGreatDoorTie
import Derived.SevenTiedAt
namespace Go.Proofs.YtdbkoflejimibaaGreatDoor
open Go.ChangeShapes Go.WideShapes Go.ChangeAt Go.WideMaps Go.WideElems Go.RowKit Go.Lib
open PP

set_option maxRecDepth 1000000 in
set_option maxHeartbeats 32000000 in
theorem postDecodes_walk (w : World) (s : ByteArray) (hs : s.size ≤ maxLen) (hp : Pow w) (hlO : O.Let w) (hlR : R.Let w) :
    Calls Tryz.prog 3 #[.string s] w fun e w' => e = .returned (.bool true) ∧ Below w.heap.size w w' := by
  have AW := awake14_any w hlO hlR hp
  have HLO : Hid (O.Let w) := hlO
  have HLR : Hid (R.Let w) := hlR
  clear hp hlO hlR
  by_cases hz : s.size ≤ 5000
  case neg =>
    have q : (5000 : Int) < (s.size : Int) := by omega
    have q2 : (s.size : Int) ≤ 9223372036854775807 := by unfold maxLen at hs; omega
    clear hz hs
    go_enter Tryz.func3, Tryz.ntmps3
    go_wp2_with fail
    refine AW.mono ?_
    rintro e w1 ⟨rfl, b1⟩
    have HB1 : Hid (Below w.heap.size w w1) := b1
    clear AW b1
    go_wp2_with fail
    go_ret
    exact ⟨rfl, HB1.out⟩
  case pos =>
    have q : ¬ (5000 : Int) < (s.size : Int) := by omega
    have DO : Hid (∀ w, O.Let w → Calls Tryz.prog 5 #[.string s] w (O.DecOk s.data.toList w)) := fun w h => O.decode_any s w (by omega) h
    have DR : Hid (∀ w, R.Let w → Calls Tryz.prog 7 #[.string s] w (R.DecOk s.data.toList w)) := fun w h => R.decode_any s w (by omega) h
    have EO : Hid (∀ w, Calls Tryz.prog 6 #[.string s] w (O.DecOk s.data.toList w)) := fun w => O.refDecode_any s w (by omega)
    have ER : Hid (∀ w, Calls Tryz.prog 8 #[.string s] w (R.DecOk s.data.toList w)) := fun w => R.refDecode_any s w (by omega)
    obtain ⟨TO, NO, hO⟩ : ∃ T E, O.decT s.data.toList = (T, E) := ⟨_, _, rfl⟩
    obtain ⟨TR, NR, hR⟩ : ∃ T E, R.decT s.data.toList = (T, E) := ⟨_, _, rfl⟩
    have HO : Hid (O.decT s.data.toList = (TO, NO)) := hO
    have HR : Hid (R.decT s.data.toList = (TR, NR)) := hR
    clear hz hs hO hR
    go_enter Tryz.func3, Tryz.ntmps3
    go_wp2_with fail
    refine AW.mono ?_
    rintro e w1 ⟨rfl, b1⟩
    have HB1 : Hid (Below w.heap.size w w1) := b1
    have D1 := DO.out w1 (HLO.out.still b1)
    clear AW b1
    go_wp2_with fail
    refine D1.mono ?_
    rintro e w2 ⟨t, he, hS, b2⟩
    rw [HO.out] at he
    have HSO : Hid (O.Same t (O.decA s.data.toList)) := hS
    unfold O.thV at he
    dsimp only at he
    subst he
    have HB2 : Hid (Below w.heap.size w (O.boxT w2 t)) := (HB1.out.trans (b2.mono HB1.out.size)).trans ((O.box_below w2 t).mono (HB1.out.trans (b2.mono HB1.out.size)).size)
    have A2 : Hid (ThAt O.nm (O.boxT w2 t) w2.heap.size t) := O.box_at w2 t
    have D2 := EO.out (O.boxT w2 t)
    unfold O.boxT at D2
    clear D1 b2 hS
    go_wp2_with fail
    refine D2.mono ?_
    rintro e w3 ⟨t', he, hS, b3⟩
    rw [HO.out, (hS.trans HSO.out.symm).val] at he
    unfold O.thV at he
    dsimp only at he
    subst he
    have HB3 : Hid (Below w.heap.size w (O.blkR w3 t)) := (HB2.out.trans (b3.mono HB2.out.size)).trans ((O.blkR_below w3 t).mono (HB2.out.trans (b3.mono HB2.out.size)).size)
    have A3 : Hid (ThAt O.nm (O.blkR w3 t) w2.heap.size t) := (A2.out.still b3).still (O.blkR_below w3 t)
    have B3 : Hid (ThAt O.nm (O.blkR w3 t) w3.heap.size t) := O.blkR_at w3 t
    have D3 := DR.out (O.blkR w3 t) (HLR.out.still HB3.out)
    unfold O.blkR at D3
    clear D2 b3 hS A2
    go_wp2_with fail
    refine D3.mono ?_
    rintro e w4 ⟨r, he, hS, b4⟩
    rw [HR.out] at he
    have HSR : Hid (R.Same r (R.decA s.data.toList)) := hS
    unfold R.thV at he
    dsimp only at he
    subst he
    have HB4 : Hid (Below w.heap.size w (R.boxT w4 r)) := (HB3.out.trans (b4.mono HB3.out.size)).trans ((R.box_below w4 r).mono (HB3.out.trans (b4.mono HB3.out.size)).size)
    have A4 : Hid (ThAt O.nm (R.boxT w4 r) w2.heap.size t) := (A3.out.still b4).still (R.box_below w4 r)
    have B4 : Hid (ThAt O.nm (R.boxT w4 r) w3.heap.size t) := (B3.out.still b4).still (R.box_below w4 r)
    have C4 : Hid (ThAt R.nm (R.boxT w4 r) w4.heap.size r) := R.box_at w4 r
    have D4 := ER.out (R.boxT w4 r)
    unfold R.boxT at D4
    clear D3 b4 hS A3 B3
    go_wp2_with fail
    refine D4.mono ?_
    rintro e w5 ⟨r', he, hS, b5⟩
    rw [HR.out, (hS.trans HSR.out.symm).val] at he
    unfold R.thV at he
    dsimp only at he
    subst he
    have HB5 : Hid (Below w.heap.size w (R.blkR w5 r)) := (HB4.out.trans (b5.mono HB4.out.size)).trans ((R.blkR_below w5 r).mono (HB4.out.trans (b5.mono HB4.out.size)).size)
    have A5 : Hid (ThAt O.nm (R.blkR w5 r) w2.heap.size t) := (A4.out.still b5).still (R.blkR_below w5 r)
    have B5 : Hid (ThAt O.nm (R.blkR w5 r) w3.heap.size t) := (B4.out.still b5).still (R.blkR_below w5 r)
    have C5 : Hid (ThAt R.nm (R.blkR w5 r) w4.heap.size r) := (C4.out.still b5).still (R.blkR_below w5 r)
    have E5 : Hid (ThAt R.nm (R.blkR w5 r) w5.heap.size r) := R.blkR_at w5 r
    have QO := O.same_runR t
    have QR := R.same_runR r
    obtain ⟨aa0, aa1, aa2, aa3, aa4, aa5, aa6⟩ := O.ThAt.all A5.out
    obtain ⟨bb0, bb1, bb2, bb3, bb4, bb5, bb6⟩ := O.ThAt.all B5.out
    obtain ⟨cc0, cc1, cc2, cc3, cc4, cc5, cc6⟩ := R.ThAt.all C5.out
    obtain ⟨dd0, dd1, dd2, dd3, dd4, dd5, dd6⟩ := R.ThAt.all E5.out
    unfold R.blkR at aa0 aa1 aa2 aa3 aa4 aa5 aa6 bb0 bb1 bb2 bb3 bb4 bb5 bb6 cc0 cc1 cc2 cc3 cc4 cc5 cc6 dd0 dd1 dd2 dd3 dd4 dd5 dd6
    clear D4 b5 hS A4 B4 C4 HSO HSR HO HR DO DR EO ER
    go_wp2_with fail
    go_region_held3 (fun w' => (w'.cell? ⟨w2.heap.size, 0, none⟩ = some (.int .i64 (t.2 0)) ∧ w'.cell? ⟨w2.heap.size, 1, none⟩ = some (.int .i64 (t.2 1)) ∧ w'.cell? ⟨w2.heap.size, 2, none⟩ = some (.string (t.1 2)) ∧ w'.cell? ⟨w2.heap.size, 3, none⟩ = some (.string (t.1 3)) ∧ w'.cell? ⟨w2.heap.size, 4, none⟩ = some (.int .i64 (t.2 4)) ∧ w'.cell? ⟨w2.heap.size, 5, none⟩ = some (.int .i64 (t.2 5)) ∧ w'.cell? ⟨w2.heap.size, 6, none⟩ = some (.int .i64 (t.2 6))) ∧ (w'.cell? ⟨w3.heap.size, 0, none⟩ = some (.int .i64 (t.2 0)) ∧ w'.cell? ⟨w3.heap.size, 1, none⟩ = some (.int .i64 (t.2 1)) ∧ w'.cell? ⟨w3.heap.size, 2, none⟩ = some (.string (t.1 2)) ∧ w'.cell? ⟨w3.heap.size, 3, none⟩ = some (.string (t.1 3)) ∧ w'.cell? ⟨w3.heap.size, 4, none⟩ = some (.int .i64 (t.2 4)) ∧ w'.cell? ⟨w3.heap.size, 5, none⟩ = some (.int .i64 (t.2 5)) ∧ w'.cell? ⟨w3.heap.size, 6, none⟩ = some (.int .i64 (t.2 6))) ∧ (w'.cell? ⟨w4.heap.size, 0, none⟩ = some (.int .i64 (r.2 0)) ∧ w'.cell? ⟨w4.heap.size, 1, none⟩ = some (.int .i64 (r.2 1)) ∧ w'.cell? ⟨w4.heap.size, 2, none⟩ = some (.string (r.1 2)) ∧ w'.cell? ⟨w4.heap.size, 3, none⟩ = some (.string (r.1 3)) ∧ w'.cell? ⟨w4.heap.size, 4, none⟩ = some (.int .i64 (r.2 4)) ∧ w'.cell? ⟨w4.heap.size, 5, none⟩ = some (.int .i64 (r.2 5)) ∧ w'.cell? ⟨w4.heap.size, 6, none⟩ = some (.string (r.1 6))) ∧ w'.cell? ⟨w5.heap.size, 0, none⟩ = some (.int .i64 (r.2 0)) ∧ w'.cell? ⟨w5.heap.size, 1, none⟩ = some (.int .i64 (r.2 1)) ∧ w'.cell? ⟨w5.heap.size, 2, none⟩ = some (.string (r.1 2)) ∧ w'.cell? ⟨w5.heap.size, 3, none⟩ = some (.string (r.1 3)) ∧ w'.cell? ⟨w5.heap.size, 4, none⟩ = some (.int .i64 (r.2 4)) ∧ w'.cell? ⟨w5.heap.size, 5, none⟩ = some (.int .i64 (r.2 5)) ∧ w'.cell? ⟨w5.heap.size, 6, none⟩ = some (.string (r.1 6))) (go_keep) (first
      | (go_at_call 9; refine (O.plain_any t _).mono ?_; rintro e w6 ⟨rfl, k6⟩; have k6' := below_of_drew k6; have A6 : Hid (ThAt O.nm w6 w2.heap.size t) := A5.out.still k6'; have B6 : Hid (ThAt O.nm w6 w3.heap.size t) := B5.out.still k6'; have C6 : Hid (ThAt R.nm w6 w4.heap.size r) := C5.out.still k6'; have E6 : Hid (ThAt R.nm w6 w5.heap.size r) := E5.out.still k6'; have HB6 : Hid (Below w.heap.size w w6) := HB5.out.trans (k6'.mono HB5.out.size); obtain ⟨ua0, ua1, ua2, ua3, ua4, ua5, ua6⟩ := O.ThAt.all A6.out; obtain ⟨ub0, ub1, ub2, ub3, ub4, ub5, ub6⟩ := O.ThAt.all B6.out; obtain ⟨uc0, uc1, uc2, uc3, uc4, uc5, uc6⟩ := R.ThAt.all C6.out; obtain ⟨ud0, ud1, ud2, ud3, ud4, ud5, ud6⟩ := R.ThAt.all E6.out)
      | (go_at_call 10; refine (R.plain_any r _).mono ?_; rintro e w7 ⟨rfl, k7⟩; have HB7 : Hid (Below w.heap.size w w7) := HB6.out.trans (k7.mono HB6.out.size); obtain ⟨va0, va1, va2, va3, va4, va5, va6⟩ := O.ThAt.all (A6.out.still k7); obtain ⟨vb0, vb1, vb2, vb3, vb4, vb5, vb6⟩ := O.ThAt.all (B6.out.still k7); obtain ⟨vc0, vc1, vc2, vc3, vc4, vc5, vc6⟩ := R.ThAt.all (C6.out.still k7); obtain ⟨vd0, vd1, vd2, vd3, vd4, vd5, vd6⟩ := R.ThAt.all (E6.out.still k7)))
    all_goals
      go_wp2_with fail
      go_ret
      exact ⟨rfl, HB7.out⟩
set_option maxRecDepth 100000 in
theorem postDecodes_lifted (os : Os) (started : os.Started) (H : Type) (enc : TypeId × Value → H) :
    ReturnsInHanded {} Tryz.checked os 3 .any (fun w args => (Rows.postDecodesSpec.pre enc Tryz.prog Tryz.f3 [] false w args ∧ laidMetH Tryz.prog Rows.postDecodesRow.laid w) ∧ sizedMet enc Tryz.prog Tryz.f3 (OpenSpec.ofChange Rows.postDecodesSpec) false w args)
      (Rows.postDecodesSpec.post enc Tryz.prog Tryz.f3 false true false false) := by
  refine returnsInHanded_of_change_and (C := Tryz.checked) (X := fun w _ => laidMetH Tryz.prog laid8 w) (fun _ _ _ hh h => h.of_heap hh) own8 started (by kernel_rfl) Tryz.func3
    (ChangeSpec.witness_shaped (enc := enc) (C := Tryz.checked) (os := os) (X := fun w _ => laidMetH Tryz.prog laid8 w) false (World.doorLaid Tryz.prog 400 os) #[.string ⟨#[]⟩] 8 rfl (World.shaped_of_RefB (by kernel_rfl) (by kernel_rfl)) (by kernel_rfl) (by kernel_rfl) (by kernel_rfl) (door_met os _)) ?_
  intro W base args ds gs before hval0 hW _ _ hL _
  have hval : ∀ (j : Nat) t v, Tryz.f3.params[j]? = some t → args[j]? = some v → Value.okWide Tryz.prog W .any base t v := hval0
  have hW' := hW
  obtain ⟨p, q, hA0, hV, rfl, hfz, hnd⟩ := hW
  have hA : DataW.TrodAll enc Tryz.prog W 0 (fun _ => true) true Tryz.f3.params.toList args.toList ds p := hA0
  rw [Tryz.params3] at hA hval
  obtain ⟨v0, vs0, d0, ds0, p0, q0, hargs, rfl, rfl, h0, r0⟩ := trodAll_cons hA
  obtain ⟨rfl, rfl, rfl⟩ := trodAll_nil r0
  obtain rfl : args = #[v0] := by cases args; simp_all
  obtain ⟨rfl, rfl⟩ := trodVars_none hV
  obtain ⟨s0, rfl, rfl, rfl, w0⟩ := Go.ChangeMaps.open_string Tryz.underlying9 (hval 0 9 v0 rfl rfl) h0
  clear hA0 hval0
  simp only [List.append_nil] at hW'
  refine (postDecodes_walk W s0 w0 (pow_of_laid hL) (letO_of_laid hL) (letR_of_laid hL)).mono fun e W' ⟨he, bel⟩ => ?_
  subst he
  exact ⟨_, rfl, _, _, _, [], _, [], hW', trodAll_mk1 (shut_bool Tryz.underlying4 _), (trodAll_cons_mk (Go.ChangeMaps.shut_string Tryz.underlying9 w0) trodAll_mk0), rfl, bel.frame _, fun h => by cases h⟩

/-- The row. -/
theorem postDecodes_row : Rows.PostDecodesSaid :=
  OpenClaim.holds_of_wide 3 Tryz.f3 rfl rfl rfl rfl rfl rfl rfl ⟨rfl, rfl, rfl, rfl, rfl⟩ rfl rfl rfl rfl rfl (by kernel_rfl) Tryz.func3 (by kernel_rfl)
    (of_decide_eq_true (by kernel_rfl)) (by unfold Func.isWrapper; first | (rw [if_pos (by decide +kernel)]; kernel_rfl) | (rw [if_neg (by decide +kernel)]; exact ⟨rfl, rfl⟩))
    (fun os started H enc _ => postDecodes_lifted os started H enc)
/-- THE STATEMENT: the tied card. -/
theorem postDecodes_proved : Rows.PostDecodesCardSaid :=
  Claim7.holds_tied_plain_at .later [] Rows.postDecodesCard.laidKinds true Rows.postDecodesCard.stood.harness Rows.postDecodesCard.stood.looks
    postDecodes_row (fun _ h => by cases h) (by kernel_rfl) (fun _ h => by cases h) postDecodes_row_tie rfl ⟨rfl, rfl⟩ (by kernel_rfl) rfl
    (fun f fn hf hfn => by
      obtain rfl : f = 3 := Option.some.inj ((show Tryz.prog.funcNamed Rows.postDecodesRow.func = some 3 by kernel_rfl).symm.trans hf) |>.symm
      obtain rfl : fn = Tryz.f3 := (Option.some.inj (Tryz.func3.symm.trans hfn)).symm
      exact ⟨by kernel_rfl, fun j t ht => by
        rw [Tryz.params3] at ht
        have hm : t ∈ [9] := by simpa using Array.mem_of_getElem? ht
        have hall : ([9].all fun u => !Tryz.prog.wantsStandIn u) = true := by kernel_rfl
        exact (show Tryz.prog.wantsStandIn t = false by simpa using List.all_eq_true.1 hall t hm)⟩)
    (by kernel_rfl)
#print axioms postDecodes_proved
end Go.Proofs.YtdbkoflejimibaaGreatDoor
