/-
  Any tell is right just if the document says so, and has the document's body: the statement TellEncodes, for every tell.
-/
import Derived.Test.YtdacmhnniecmhaaDoorGL
import Derived.Test.YtdacmhnniecmhaaDoorGA
import Derived.Test.YtdacmhnniecmhaaDoorHM
import Derived.Test.YtdacmhnniecmhaaDoorCards
import Derived.Test.YtdacmhnniecmhaaDoorTie
import Derived.Deep.RegionHeld3
import Derived.SevenTiedAt
namespace Go.Proofs.YtdacmhnniecmhaaDoor
open Go.ChangeShapes Go.WideShapes Go.ChangeAt Go.WideMaps Go.WideElems Go.RowKit Go.Lib

set_option maxRecDepth 1000000 in
set_option maxHeartbeats 8000000 in
theorem tellEncodes_walk (w : World) (t : TellP) (hp : Pow w) (hl : Let w) :
    Calls Tryd.prog 3 #[.agg #[.int .i64 (t.2 0), .string (t.1 1), .string (t.1 2), .int .i64 (t.2 3), .int .i64 (t.2 4), .int .i64 (t.2 5), .int .i64 (t.2 6), .int .i64 (t.2 7), .int .i64 (t.2 8), .int .i64 (t.2 9)]] w fun e w' => e = .returned (.bool true) ∧ Below w.heap.size w w' := by
  have HBX0 : Hid (Below w.heap.size w (boxT w t)) := boxT_below w t
  have HA0 : Hid (TellAt (boxT w t) w.heap.size t) := TellAt.box w t
  have AW := awake13_any (boxT w t) (hl.still HBX0.out) (hp.still HBX0.out)
  have FW := fun w => few_any t w
  have HL : Hid (Let w) := hl
  have HP : Hid (Pow w) := hp
  clear hl hp
  cases hf : fewB t
  case false =>
    rw [hf] at FW
    clear hf
    go_enter Tryd.func3, Tryd.ntmps3
    go_wp2_with fail
    refine AW.mono ?_
    rintro e w1 ⟨rfl, b1⟩
    have HA1 : Hid (TellAt w1 w.heap.size t) := HA0.out.still b1
    have HB1 : Hid (Below w.heap.size w w1) := HBX0.out.trans (b1.mono HBX0.out.size)
    obtain ⟨a0, a1, a2, a3, a4, a5, a6, a7, a8, a9⟩ := HA1.out.all
    clear AW b1
    go_wp2_with fail
    refine (FW _).mono ?_
    rintro e w2 ⟨rfl, b2⟩
    have HA2 : Hid (TellAt w2 w.heap.size t) := HA1.out.still b2
    have HB2 : Hid (Below w.heap.size w w2) := HB1.out.trans (b2.mono HB1.out.size)
    clear FW b2 a0 a1 a2 a3 a4 a5 a6 a7 a8 a9
    go_wp2_with fail
    go_ret
    exact ⟨rfl, HB2.out⟩
  rw [hf] at FW
  have h12 := of_decide_eq_true hf
  have EN := fun w h h' => encode_any t w h h'
  have RN := fun w => refEncode_any t (by omega) (by omega) w
  have PL := fun w => plain_any t w
  have R1 := fun w => right_any t w
  have R2 := fun w => refRight_any t (by omega) (by omega) w
  generalize (encE t).2 = EE at *
  generalize mk (encE t).1 = SS at *
  generalize rightB t = RB at *
  clear hf h12
  go_enter Tryd.func3, Tryd.ntmps3
  go_wp2_with fail
  refine AW.mono ?_
  rintro e w1 ⟨rfl, b1⟩
  have HA1 : Hid (TellAt w1 w.heap.size t) := HA0.out.still b1
  have HB1 : Hid (Below w.heap.size w w1) := HBX0.out.trans (b1.mono HBX0.out.size)
  obtain ⟨a0, a1, a2, a3, a4, a5, a6, a7, a8, a9⟩ := HA1.out.all
  clear AW b1
  go_wp2_with fail
  refine (FW _).mono ?_
  rintro e w2 ⟨rfl, b2⟩
  have HA2 : Hid (TellAt w2 w.heap.size t) := HA1.out.still b2
  have HB2 : Hid (Below w.heap.size w w2) := HB1.out.trans (b2.mono HB1.out.size)
  clear FW b2 a0 a1 a2 a3 a4 a5 a6 a7 a8 a9
  obtain ⟨a0, a1, a2, a3, a4, a5, a6, a7, a8, a9⟩ := HA2.out.all
  have E2 := EN w2 (HL.out.still HB2.out) (HP.out.still HB2.out)
  clear EN
  go_wp2_with fail
  refine E2.mono ?_
  rintro e w3 ⟨rfl, b3⟩
  have HA3 : Hid (TellAt w3 w.heap.size t) := HA2.out.still b3
  have HB3 : Hid (Below w.heap.size w w3) := HB2.out.trans (b3.mono HB2.out.size)
  clear E2 b3 a0 a1 a2 a3 a4 a5 a6 a7 a8 a9
  obtain ⟨c0, c1, c2, c3, c4, c5, c6, c7, c8, c9⟩ := HA3.out.all
  go_wp2_with fail
  refine (PL _).mono ?_
  rintro e w4 ⟨rfl, b4⟩
  have HA4 : Hid (TellAt w4 w.heap.size t) := HA3.out.still b4
  have HB4 : Hid (Below w.heap.size w w4) := HB3.out.trans (b4.mono HB3.out.size)
  clear b4 c0 c1 c2 c3 c4 c5 c6 c7 c8 c9
  go_wp2_with fail
  refine (RN _).mono ?_
  rintro e w5 ⟨rfl, b5⟩
  have HA5 : Hid (TellAt w5 w.heap.size t) := HA4.out.still b5
  have HB5 : Hid (Below w.heap.size w w5) := HB4.out.trans (b5.mono HB4.out.size)
  clear RN b5
  obtain ⟨d0, d1, d2, d3, d4, d5, d6, d7, d8, d9⟩ := HA5.out.all
  go_wp2_with fail
  go_region_held3 (fun w' => w'.cell? ⟨w.heap.size, 0, none⟩ = some (.int .i64 (t.2 0)) ∧ w'.cell? ⟨w.heap.size, 1, none⟩ = some (.string (t.1 1)) ∧ w'.cell? ⟨w.heap.size, 2, none⟩ = some (.string (t.1 2)) ∧ w'.cell? ⟨w.heap.size, 3, none⟩ = some (.int .i64 (t.2 3)) ∧ w'.cell? ⟨w.heap.size, 4, none⟩ = some (.int .i64 (t.2 4)) ∧ w'.cell? ⟨w.heap.size, 5, none⟩ = some (.int .i64 (t.2 5)) ∧ w'.cell? ⟨w.heap.size, 6, none⟩ = some (.int .i64 (t.2 6)) ∧ w'.cell? ⟨w.heap.size, 7, none⟩ = some (.int .i64 (t.2 7)) ∧ w'.cell? ⟨w.heap.size, 8, none⟩ = some (.int .i64 (t.2 8)) ∧ w'.cell? ⟨w.heap.size, 9, none⟩ = some (.int .i64 (t.2 9))) (go_keep) (first
    | (go_at_call 11; refine (R1 _).mono ?_; rintro e w6 ⟨rfl, k6⟩; have k6' := below_of_drew k6; have X6 : Hid (TellAt w6 w.heap.size t) := HA5.out.still k6'; obtain ⟨u0, u1, u2, u3, u4, u5, u6, u7, u8, u9⟩ := X6.out.all)
    | (go_at_call 10; refine (PL _).mono ?_; rintro e w7 ⟨rfl, k7⟩; have X7 : Hid (TellAt w7 w.heap.size t) := X6.out.still k7; obtain ⟨v0, v1, v2, v3, v4, v5, v6, v7, v8, v9⟩ := X7.out.all)
    | (go_at_call 12; refine (R2 _).mono ?_; rintro e w8 ⟨rfl, k8⟩; have X8 : Hid (TellAt w8 w.heap.size t) := X7.out.still k8; obtain ⟨x0, x1, x2, x3, x4, x5, x6, x7, x8, x9⟩ := X8.out.all))
  all_goals
    have B6 := HB5.out.trans (k6'.mono HB5.out.size)
    have B7 := B6.trans (k7.mono B6.size)
    have HB8 : Hid (Below w.heap.size w w8) := B7.trans (k8.mono B7.size)
    clear B6 B7
    go_wp2_with fail
    go_ret
    exact ⟨rfl, HB8.out⟩
set_option maxRecDepth 100000 in
theorem tellEncodes_lifted (os : Os) (started : os.Started) (H : Type) (enc : TypeId × Value → H) :
    ReturnsInHanded {} Tryd.checked os 3 .any (fun w args => (Rows.tellEncodesSpec.pre enc Tryd.prog Tryd.f3 [] false w args ∧ laidMetH Tryd.prog Rows.tellEncodesRow.laid w) ∧ sizedMet enc Tryd.prog Tryd.f3 (OpenSpec.ofChange Rows.tellEncodesSpec) false w args)
      (Rows.tellEncodesSpec.post enc Tryd.prog Tryd.f3 false true false false) := by
  refine returnsInHanded_of_change_and (C := Tryd.checked) (X := fun w _ => laidMetH Tryd.prog laid8 w) (fun _ _ _ hh h => h.of_heap hh) own8 started (by kernel_rfl) Tryd.func3
    (ChangeSpec.witness_shaped (enc := enc) (C := Tryd.checked) (os := os) (X := fun w _ => laidMetH Tryd.prog laid8 w) false (World.doorLaid Tryd.prog 400 os) #[.agg #[.int .i64 0, .string ⟨#[]⟩, .string ⟨#[]⟩, .int .i64 0, .int .i64 0, .int .i64 0, .int .i64 0, .int .i64 0, .int .i64 0, .int .i64 0]] 8 rfl (World.shaped_of_RefB (by kernel_rfl) (by kernel_rfl)) (by kernel_rfl) (by kernel_rfl) (by kernel_rfl) (door_met os _)) ?_
  intro W base args ds gs before hval0 hW _ _ hL _
  have hval : ∀ (j : Nat) t v, Tryd.f3.params[j]? = some t → args[j]? = some v → Value.okWide Tryd.prog W .any base t v := hval0
  have hW' := hW
  obtain ⟨p, q, hA0, hV, rfl, hfz, hnd⟩ := hW
  have hA : DataW.TrodAll enc Tryd.prog W 0 (fun _ => true) true Tryd.f3.params.toList args.toList ds p := hA0
  rw [Tryd.params3] at hA hval
  obtain ⟨v0, vs0, d0, ds0, p0, q0, hargs, rfl, rfl, h0, r0⟩ := trodAll_cons hA
  obtain ⟨rfl, rfl, rfl⟩ := trodAll_nil r0
  obtain rfl : args = #[v0] := by cases args; simp_all
  obtain ⟨rfl, rfl⟩ := trodVars_none hV
  have k0 := h0
  have lt0 : ∀ x ∈ p0, x.block < W.heap.size := by obtain ⟨m, hm⟩ := k0; exact DataW.trod_lt m _ _ _ hm
  obtain ⟨t0, rfl⟩ := open_tell (hval 0 23 v0 rfl rfl) h0
  clear hA0 hval0
  simp only [List.append_nil] at hW'
  refine (tellEncodes_walk W t0 (pow_of_laid hL) (let_of_laid hL)).mono fun e W' ⟨he, bel⟩ => ?_
  subst he
  exact ⟨_, rfl, _, _, _, [], _, [], hW', trodAll_mk1 (shut_bool Tryd.underlying4 _), (trodAll_cons_mk (Below.trod laidOut8 (by kernel_rfl) (of_decide_eq_true (by kernel_rfl)) k0 bel lt0) trodAll_mk0), rfl, bel.frame _, fun h => by cases h⟩

/-- The row. -/
theorem tellEncodes_row : Rows.TellEncodesSaid :=
  OpenClaim.holds_of_wide 3 Tryd.f3 rfl rfl rfl rfl rfl rfl rfl ⟨rfl, rfl, rfl, rfl, rfl⟩ rfl rfl rfl rfl rfl (by kernel_rfl) Tryd.func3 (by kernel_rfl)
    (of_decide_eq_true (by kernel_rfl)) (by unfold Func.isWrapper; first | (rw [if_pos (by decide +kernel)]; kernel_rfl) | (rw [if_neg (by decide +kernel)]; exact ⟨rfl, rfl⟩))
    (fun os started H enc _ => tellEncodes_lifted os started H enc)
/-- THE STATEMENT: the tied card. -/
theorem tellEncodes_proved : Rows.TellEncodesCardSaid :=
  Claim7.holds_tied_plain_at .later [] Rows.tellEncodesCard.laidKinds true Rows.tellEncodesCard.stood.harness Rows.tellEncodesCard.stood.looks
    tellEncodes_row (fun _ h => by cases h) (by kernel_rfl) (fun _ h => by cases h) tellEncodes_row_tie rfl ⟨rfl, rfl⟩ (by kernel_rfl) rfl
    (fun f fn hf hfn => by
      obtain rfl : f = 3 := Option.some.inj ((show Tryd.prog.funcNamed Rows.tellEncodesRow.func = some 3 by kernel_rfl).symm.trans hf) |>.symm
      obtain rfl : fn = Tryd.f3 := (Option.some.inj (Tryd.func3.symm.trans hfn)).symm
      exact ⟨by kernel_rfl, fun j t ht => by
        rw [Tryd.params3] at ht
        have hm : t ∈ [23] := by simpa using Array.mem_of_getElem? ht
        have hall : ([23].all fun u => !Tryd.prog.wantsStandIn u) = true := by kernel_rfl
        exact (show Tryd.prog.wantsStandIn t = false by simpa using List.all_eq_true.1 hall t hm)⟩)
    (by kernel_rfl)
#print axioms tellEncodes_proved
end Go.Proofs.YtdacmhnniecmhaaDoor
