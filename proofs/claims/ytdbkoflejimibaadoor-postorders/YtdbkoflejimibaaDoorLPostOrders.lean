/-
  Any order is right just if the document says so, and has the document's body: the statement PostOrders, for every order.
-/
import Derived.Test.YtdbkoflejimibaaDoorJJ
import Derived.Test.YtdbkoflejimibaaDoorJN
import Derived.Test.YtdbkoflejimibaaDoorJK
import Derived.Test.YtdbkoflejimibaaDoorJM
import Derived.Test.YtdbkoflejimibaaDoorGA
import Derived.Test.YtdbkoflejimibaaDoorCards
import Derived.Test.YtdbkoflejimibaaDoorTie
import Derived.SevenTiedAt
namespace Go.Proofs.YtdbkoflejimibaaDoor
open Go.ChangeShapes Go.WideShapes Go.ChangeAt Go.WideMaps Go.WideElems Go.RowKit Go.Lib
open PP

set_option maxRecDepth 1000000 in
set_option maxHeartbeats 16000000 in
theorem postOrders_walk (w : World) (t : ThP) (hp : Pow w) (hlO : O.Let w) (hlR : R.Let w) :
    Calls Tryd.prog 3 #[.agg #[.int .i64 (t.2 0), .int .i64 (t.2 1), .string (t.1 2), .string (t.1 3), .int .i64 (t.2 4), .int .i64 (t.2 5), .int .i64 (t.2 6)]] w fun e w' => e = .returned (.bool true) ∧ Below w.heap.size w w' := by
  have HB0 : Hid (Below w.heap.size w (O.boxT w t)) := O.box_below w t
  have AW := awake14_any (O.boxT w t) (hlO.still HB0.out) (hlR.still HB0.out) (hp.still HB0.out)
  have HA0 : Hid (ThAt O.nm (O.boxT w t) w.heap.size t) := O.box_at w t
  have HL : Hid (O.Let w) := hlO
  have HP : Hid (Pow w) := hp
  unfold O.boxT at AW
  clear hp hlO hlR
  go_enter Tryd.func3, Tryd.ntmps3
  go_wp2_with fail
  refine AW.mono ?_
  rintro e w1 ⟨rfl, b1⟩
  have HB1 : Hid (Below w.heap.size w w1) := HB0.out.trans (b1.mono HB0.out.size)
  have HA1 : Hid (ThAt O.nm w1 w.heap.size t) := HA0.out.still b1
  obtain ⟨a0, a1, a2, a3, a4, a5, a6⟩ := O.ThAt.all HA1.out
  have SH := short_any _ _ _ _ (row_lit w1 [t.1 2, t.1 3] (by simp) 9) (by simp)
  simp only [List.map_cons, List.map_nil, List.length_cons, List.length_nil, Nat.reduceAdd] at SH
  have bs : Below w1.heap.size w1 (w1.alloc (.cells #[.string (t.1 2), .string (t.1 3)] 9)) := (Below.refl _ w1).alloc (Nat.le_refl _) _
  have HB2 : Hid (Below w.heap.size w (w1.alloc (.cells #[.string (t.1 2), .string (t.1 3)] 9))) := HB1.out.trans (bs.mono HB1.out.size)
  have HA2 : Hid (ThAt O.nm (w1.alloc (.cells #[.string (t.1 2), .string (t.1 3)] 9)) w.heap.size t) := HA1.out.still bs
  obtain ⟨sb, hsb⟩ : ∃ sb, shortB (fun i => [t.1 2, t.1 3].getD i ⟨#[]⟩) 2 = sb := ⟨_, rfl⟩
  rw [hsb] at SH
  have HSB : Hid (sb = true → (t.1 2).size ≤ 200 ∧ (t.1 3).size ≤ 200) := fun h => by
    have q : ∀ i, i < 2 → _ := of_decide_eq_true (hsb.trans h)
    exact ⟨q 0 (by omega), q 1 (by omega)⟩
  clear AW b1 bs HA0 HA1 hsb
  go_wp2_with fail
  refine SH.mono ?_
  rintro e w2 ⟨rfl, hw2⟩
  rw [← hw2] at HB2 HA2
  clear SH hw2 a0 a1 a2 a3 a4 a5 a6
  cases sb with
  | false =>
    go_wp2_with fail
    go_ret
    exact ⟨rfl, HB2.out⟩
  | true =>
    obtain ⟨z2, z3⟩ := HSB.out rfl
    have EO := O.encode_any t w2 (HL.out.still HB2.out) (HP.out.still HB2.out)
    have CV := fun w => O.conv_any t w
    have RR := fun w => O.refRight_any t w (by omega) (by omega)
    have RP := fun w => O.right_any t w
    obtain ⟨a0, a1, a2, a3, a4, a5, a6⟩ := O.ThAt.all HA2.out
    clear HSB z2 z3
    by_cases hO : O.rightB t = true
    case neg =>
      have hO' : O.rightB t = false := by simpa using hO
      clear EO
      have EO := O.encode_no t w2 hO'
      rw [hO'] at RR RP
      clear hO hO'
      go_wp2_with fail
      refine EO.mono ?_
      rintro e w3 ⟨rfl, b3⟩
      have HB3 : Hid (Below w.heap.size w w3) := HB2.out.trans (b3.mono HB2.out.size)
      have HA3 : Hid (ThAt O.nm w3 w.heap.size t) := HA2.out.still b3
      clear EO b3 a0 a1 a2 a3 a4 a5 a6
      obtain ⟨a0, a1, a2, a3, a4, a5, a6⟩ := O.ThAt.all HA3.out
      go_wp2_with fail
      refine (CV _).mono ?_
      rintro e w4 ⟨rfl, b4⟩
      have HB4 : Hid (Below w.heap.size w w4) := HB3.out.trans (b4.mono HB3.out.size)
      have HA4 : Hid (ThAt O.nm w4 w.heap.size t) := HA3.out.still b4
      clear b4 a0 a1 a2 a3 a4 a5 a6
      go_wp2_with fail
      refine (RR _).mono ?_
      rintro e w5 ⟨rfl, b5⟩
      have HB5 : Hid (Below w.heap.size w w5) := HB4.out.trans (b5.mono HB4.out.size)
      have HA5 : Hid (ThAt O.nm w5 w.heap.size t) := HA4.out.still b5
      obtain ⟨a0, a1, a2, a3, a4, a5, a6⟩ := O.ThAt.all HA5.out
      clear b5 RR
      go_wp2_with fail
      refine (RP _).mono ?_
      rintro e w6 ⟨rfl, b6⟩
      have HB6 : Hid (Below w.heap.size w w6) := HB5.out.trans (b6.mono HB5.out.size)
      clear b6 RP
      go_wp2_with fail
      go_ret
      exact ⟨rfl, HB6.out⟩
    have e0 : O.encE t = (cat (O.fieldsT t), 0) := if_pos hO
    rw [e0] at EO
    have FO := fun w => O.refForm_any t ((O.right_iff t).1 hO) w
    rw [hO] at RR RP
    generalize mk (cat (O.fieldsT t)) = bo at *
    clear hO e0
    go_wp2_with fail
    refine EO.mono ?_
    rintro e w3 ⟨rfl, b3⟩
    have HB3 : Hid (Below w.heap.size w w3) := HB2.out.trans (b3.mono HB2.out.size)
    have HA3 : Hid (ThAt O.nm w3 w.heap.size t) := HA2.out.still b3
    clear EO b3 a0 a1 a2 a3 a4 a5 a6
    obtain ⟨a0, a1, a2, a3, a4, a5, a6⟩ := O.ThAt.all HA3.out
    go_wp2_with fail
    refine (CV _).mono ?_
    rintro e w4 ⟨rfl, b4⟩
    have HB4 : Hid (Below w.heap.size w w4) := HB3.out.trans (b4.mono HB3.out.size)
    have HA4 : Hid (ThAt O.nm w4 w.heap.size t) := HA3.out.still b4
    clear b4 a0 a1 a2 a3 a4 a5 a6
    go_wp2_with fail
    refine (RR _).mono ?_
    rintro e w5 ⟨rfl, b5⟩
    have HB5 : Hid (Below w.heap.size w w5) := HB4.out.trans (b5.mono HB4.out.size)
    have HA5 : Hid (ThAt O.nm w5 w.heap.size t) := HA4.out.still b5
    obtain ⟨a0, a1, a2, a3, a4, a5, a6⟩ := O.ThAt.all HA5.out
    clear b5 RR
    go_wp2_with fail
    refine (RP _).mono ?_
    rintro e w6 ⟨rfl, b6⟩
    have HB6 : Hid (Below w.heap.size w w6) := HB5.out.trans (b6.mono HB5.out.size)
    have HA6 : Hid (ThAt O.nm w6 w.heap.size t) := HA5.out.still b6
    clear b6 RP a0 a1 a2 a3 a4 a5 a6
    obtain ⟨a0, a1, a2, a3, a4, a5, a6⟩ := O.ThAt.all HA6.out
    go_wp2_with fail
    refine (CV _).mono ?_
    rintro e w7 ⟨rfl, b7⟩
    have HB7 : Hid (Below w.heap.size w w7) := HB6.out.trans (b7.mono HB6.out.size)
    clear b7 CV a0 a1 a2 a3 a4 a5 a6
    go_wp2_with fail
    refine (FO _).mono ?_
    rintro e w8 ⟨rfl, b8⟩
    have HB8 : Hid (Below w.heap.size w w8) := HB7.out.trans (b8.mono HB7.out.size)
    clear b8 FO
    go_wp2_with fail
    go_ret
    exact ⟨rfl, HB8.out⟩
set_option maxRecDepth 100000 in
theorem postOrders_lifted (os : Os) (started : os.Started) (H : Type) (enc : TypeId × Value → H) :
    ReturnsInHanded {} Tryd.checked os 3 .any (fun w args => (Rows.postOrdersSpec.pre enc Tryd.prog Tryd.f3 [] false w args ∧ laidMetH Tryd.prog Rows.postOrdersRow.laid w) ∧ sizedMet enc Tryd.prog Tryd.f3 (OpenSpec.ofChange Rows.postOrdersSpec) false w args)
      (Rows.postOrdersSpec.post enc Tryd.prog Tryd.f3 false true false false) := by
  refine returnsInHanded_of_change_and (C := Tryd.checked) (X := fun w _ => laidMetH Tryd.prog laid8 w) (fun _ _ _ hh h => h.of_heap hh) own8 started (by kernel_rfl) Tryd.func3
    (ChangeSpec.witness_shaped (enc := enc) (C := Tryd.checked) (os := os) (X := fun w _ => laidMetH Tryd.prog laid8 w) false (World.doorLaid Tryd.prog 400 os) #[.agg #[.int .i64 0, .int .i64 0, .string ⟨#[]⟩, .string ⟨#[]⟩, .int .i64 0, .int .i64 0, .int .i64 0]] 8 rfl (World.shaped_of_RefB (by kernel_rfl) (by kernel_rfl)) (by kernel_rfl) (by kernel_rfl) (by kernel_rfl) (door_met os _)) ?_
  intro W base args ds gs before hval0 hW _ _ hL _
  have hval : ∀ (j : Nat) t v, Tryd.f3.params[j]? = some t → args[j]? = some v → Value.okWide Tryd.prog W .any base t v := hval0
  have hW' := hW
  obtain ⟨p, q, hA0, hV, rfl, hfz, hnd⟩ := hW
  have hA : DataW.TrodAll enc Tryd.prog W 0 (fun _ => true) true Tryd.f3.params.toList args.toList ds p := hA0
  rw [Tryd.params3] at hA hval
  obtain ⟨v0, vs0, d0, ds0, p0, q0, hargs, rfl, rfl, h0, r0⟩ := trodAll_cons hA
  obtain ⟨rfl, rfl, rfl⟩ := trodAll_nil r0
  obtain rfl : args = #[v0] := by cases args; simp_all
  obtain ⟨rfl, rfl⟩ := trodVars_none hV
  have k0 := h0
  have lt0 : ∀ x ∈ p0, x.block < W.heap.size := by obtain ⟨m, hm⟩ := k0; exact DataW.trod_lt m _ _ _ hm
  obtain ⟨t0, rfl⟩ := open_order (hval 0 23 v0 rfl rfl) h0
  clear hA0 hval0
  simp only [List.append_nil] at hW'
  refine (postOrders_walk W t0 (pow_of_laid hL) (letO_of_laid hL) (letR_of_laid hL)).mono fun e W' ⟨he, bel⟩ => ?_
  subst he
  exact ⟨_, rfl, _, _, _, [], _, [], hW', trodAll_mk1 (shut_bool Tryd.underlying4 _), (trodAll_cons_mk (Below.trod laidOut8 (by kernel_rfl) (of_decide_eq_true (by kernel_rfl)) k0 bel lt0) trodAll_mk0), rfl, bel.frame _, fun h => by cases h⟩

/-- The row. -/
theorem postOrders_row : Rows.PostOrdersSaid :=
  OpenClaim.holds_of_wide 3 Tryd.f3 rfl rfl rfl rfl rfl rfl rfl ⟨rfl, rfl, rfl, rfl, rfl⟩ rfl rfl rfl rfl rfl (by kernel_rfl) Tryd.func3 (by kernel_rfl)
    (of_decide_eq_true (by kernel_rfl)) (by unfold Func.isWrapper; first | (rw [if_pos (by decide +kernel)]; kernel_rfl) | (rw [if_neg (by decide +kernel)]; exact ⟨rfl, rfl⟩))
    (fun os started H enc _ => postOrders_lifted os started H enc)
/-- THE STATEMENT: the tied card. -/
theorem postOrders_proved : Rows.PostOrdersCardSaid :=
  Claim7.holds_tied_plain_at .later [] Rows.postOrdersCard.laidKinds true Rows.postOrdersCard.stood.harness Rows.postOrdersCard.stood.looks
    postOrders_row (fun _ h => by cases h) (by kernel_rfl) (fun _ h => by cases h) postOrders_row_tie rfl ⟨rfl, rfl⟩ (by kernel_rfl) rfl
    (fun f fn hf hfn => by
      obtain rfl : f = 3 := Option.some.inj ((show Tryd.prog.funcNamed Rows.postOrdersRow.func = some 3 by kernel_rfl).symm.trans hf) |>.symm
      obtain rfl : fn = Tryd.f3 := (Option.some.inj (Tryd.func3.symm.trans hfn)).symm
      exact ⟨by kernel_rfl, fun j t ht => by
        rw [Tryd.params3] at ht
        have hm : t ∈ [23] := by simpa using Array.mem_of_getElem? ht
        have hall : ([23].all fun u => !Tryd.prog.wantsStandIn u) = true := by kernel_rfl
        exact (show Tryd.prog.wantsStandIn t = false by simpa using List.all_eq_true.1 hall t hm)⟩)
    (by kernel_rfl)
#print axioms postOrders_proved
end Go.Proofs.YtdbkoflejimibaaDoor
