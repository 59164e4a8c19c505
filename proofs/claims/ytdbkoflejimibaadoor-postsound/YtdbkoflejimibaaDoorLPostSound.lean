/-
  What is decoded of any bytes is right, and is decoded again as it was from its own body: the statement PostSound, for every text.
-/
import Derived.Test.YtdbkoflejimibaaDoorJJ
import Derived.Test.YtdbkoflejimibaaDoorJL
import Derived.Test.YtdbkoflejimibaaDoorJK
import Derived.Test.YtdbkoflejimibaaDoorJM
import Derived.Test.YtdbkoflejimibaaDoorGA
import Derived.Test.YtdbkoflejimibaaDoorCards
import Derived.Test.YtdbkoflejimibaaDoorTie
import Derived.SevenTiedAt
namespace Go.Proofs.YtdbkoflejimibaaDoor
open Go.ChangeShapes Go.WideShapes Go.ChangeAt Go.WideMaps Go.WideElems Go.RowKit Go.Lib
open PP

set_option maxRecDepth 1000000 in
set_option maxHeartbeats 16000000 in
theorem postSound_walk (w : World) (s : ByteArray) (hs : s.size ≤ maxLen) (hp : Pow w) (hlO : O.Let w) (hlR : R.Let w) :
    Calls Tryd.prog 6 #[.string s] w fun e w' => e = .returned (.bool true) ∧ Below w.heap.size w w' := by
  have AW := awake14_any w hlO hlR hp
  have HLO : Hid (O.Let w) := hlO
  have HLR : Hid (R.Let w) := hlR
  have HP : Hid (Pow w) := hp
  clear hp hlO hlR
  by_cases hz : s.size ≤ 5000
  case neg =>
    have q : (5000 : Int) < (s.size : Int) := by omega
    have q2 : (s.size : Int) ≤ 9223372036854775807 := by unfold maxLen at hs; omega
    clear hz hs
    go_enter Tryd.func6, Tryd.ntmps6
    go_wp2_with fail
    refine AW.mono ?_
    rintro e w1 ⟨rfl, b1⟩
    have HB1 : Hid (Below w.heap.size w w1) := b1
    clear AW b1
    go_wp2_with fail
    go_ret
    exact ⟨rfl, HB1.out⟩
  case pos =>
    have q : ¬ (5000 : Int) < (s.size : Int) := by omega
    have DO : Hid (∀ w, O.Let w → Calls Tryd.prog 19 #[.string s] w (O.DecOk s.data.toList w)) := fun w h => O.decode_any s w (by omega) h
    have DR : Hid (∀ w, R.Let w → Calls Tryd.prog 20 #[.string s] w (R.DecOk s.data.toList w)) := fun w h => R.decode_any s w (by omega) h
    obtain ⟨TO, EO, hO⟩ : ∃ T E, O.decT s.data.toList = (T, E) := ⟨_, _, rfl⟩
    obtain ⟨TR, ER, hR⟩ : ∃ T E, R.decT s.data.toList = (T, E) := ⟨_, _, rfl⟩
    have HO : Hid (O.decT s.data.toList = (TO, EO)) := hO
    have HR : Hid (R.decT s.data.toList = (TR, ER)) := hR
    clear hz hs hO hR
    go_enter Tryd.func6, Tryd.ntmps6
    go_wp2_with fail
    refine AW.mono ?_
    rintro e w1 ⟨rfl, b1⟩
    have HB1 : Hid (Below w.heap.size w w1) := b1
    have D1 := DO.out w1 (HLO.out.still b1)
    clear AW b1
    go_wp2_with fail
    refine D1.mono ?_
    rintro e w2 ⟨v, he, hS, b2⟩
    rw [HO.out] at he
    have HB2 : Hid (Below w.heap.size w w2) := HB1.out.trans (b2.mono HB1.out.size)
    clear D1 b2
    by_cases hEO : EO = 0
    case neg =>
      have te : (EO == 0) = false := beq_false_of_ne hEO
      unfold O.thV at he
      dsimp only at he
      subst he
      clear hEO hS
      have HB3 : Hid (Below w.heap.size w (O.boxT w2 v)) := HB2.out.trans ((O.box_below w2 v).mono HB2.out.size)
      have D5 := DR.out (O.boxT w2 v) (HLR.out.still HB3.out)
      unfold O.boxT at D5
      go_wp2_with fail
      refine D5.mono ?_
      rintro e w6 ⟨v, he, hS, b6⟩
      rw [HR.out] at he
      have HB6 : Hid (Below w.heap.size w w6) := HB3.out.trans (b6.mono HB3.out.size)
      clear D5 b6
      by_cases hER : ER = 0
      case neg =>
        have te2 : (ER == 0) = false := beq_false_of_ne hER
        have hz : R.decA s.data.toList = zeroT 0 := if_neg (by rw [HR.out]; exact hER)
        rw [hz] at hS
        rw [hS.val] at he
        have he' : e = .returned (.tuple #[.agg #[.int .i64 0, .int .i64 0, .string ⟨#[]⟩, .string ⟨#[]⟩, .int .i64 0, .int .i64 0, .string ⟨#[]⟩], .int .i64 TR, .int .i64 ER]) := he
        subst he'
        have QZ : ∀ w, (Op.equalIn 10000 35 (.agg #[.int .i64 0, .int .i64 0, .string ⟨#[]⟩, .string ⟨#[]⟩, .int .i64 0, .int .i64 0, .string ⟨#[]⟩]) (.agg #[.int .i64 0, .int .i64 0, .string ⟨#[]⟩, .string ⟨#[]⟩, .int .i64 0, .int .i64 0, .string ⟨#[]⟩])).run Tryd.prog w = .ok true w := R.same_run (zeroT 0)
        clear he hS hz hER
        go_wp2_with fail
        go_ret
        exact ⟨rfl, HB6.out.alloc HB6.out.size _⟩
      have RV : R.RightP v := hS.symm.right (R.dec_sound (by rw [HR.out]; exact hER))
      unfold R.thV at he
      dsimp only at he
      subst he
      subst hER
      clear hS
      have HBX : Hid (Below w.heap.size w (R.boxT w6 v)) := HB6.out.trans ((R.box_below w6 v).mono HB6.out.size)
      have E9 := R.encode_yes v (R.boxT w6 v) RV (HLR.out.still HBX.out) (HP.out.still HBX.out)
      have HRV : Hid (R.RightP v) := RV
      have HA : Hid (ThAt R.nm (R.boxT w6 v) w6.heap.size v) := R.box_at w6 v
      clear RV
      unfold R.boxT at E9
      go_wp2_with fail
      refine E9.mono ?_
      rintro e w7 ⟨rfl, b7⟩
      have HB7 : Hid (Below w.heap.size w w7) := HBX.out.trans (b7.mono HBX.out.size)
      have HA7 : Hid (ThAt R.nm w7 w6.heap.size v) := HA.out.still b7
      have D8 := R.decode_back HRV.out w7 (HLR.out.still HB7.out)
      generalize mk (cat (R.fieldsT v)) = cv at *
      clear E9 b7
      go_wp2_with fail
      refine D8.mono ?_
      rintro e w8 ⟨rfl, b8⟩
      have HA8 : Hid (ThAt R.nm (R.boxT w8 v) w6.heap.size v) := (HA7.out.still b8).still (R.box_below w8 v)
      have HB8 : Hid (Below w.heap.size w (R.boxT w8 v)) := (HB7.out.trans (b8.mono HB7.out.size)).trans ((R.box_below w8 v).mono (HB7.out.trans (b8.mono HB7.out.size)).size)
      have R8 := R.right_any v (R.boxT w8 v)
      rw [(R.right_iff v).2 HRV.out] at R8
      have HC8 : Hid (ThAt R.nm (R.boxT w8 v) w8.heap.size v) := R.box_at w8 v
      obtain ⟨d0, d1, d2, d3, d4, d5, d6⟩ := R.ThAt.all HA8.out
      have QE : ∀ w, (Op.equalIn 10000 35 (.agg #[.int .i64 (v.2 0), .int .i64 (v.2 1), .string (v.1 2), .string (v.1 3), .int .i64 (v.2 4), .int .i64 (v.2 5), .string (v.1 6)]) (.agg #[.int .i64 (v.2 0), .int .i64 (v.2 1), .string (v.1 2), .string (v.1 3), .int .i64 (v.2 4), .int .i64 (v.2 5), .string (v.1 6)])).run Tryd.prog w = .ok true w := R.same_run v
      unfold R.boxT at d0 d1 d2 d3 d4 d5 d6 R8
      clear D8 b8 HA HA7
      go_wp2_with fail
      refine R8.mono ?_
      rintro e w9 ⟨rfl, b9⟩
      obtain ⟨e0, e1, e2, e3, e4, e5, e6⟩ := R.ThAt.all (HA8.out.still b9)
      obtain ⟨f0, f1, f2, f3, f4, f5, f6⟩ := R.ThAt.all (HC8.out.still b9)
      have HB9 : Hid (Below w.heap.size w w9) := HB8.out.trans (b9.mono HB8.out.size)
      clear R8 b9 d0 d1 d2 d3 d4 d5 d6 HA8 HC8
      go_wp2_with fail
      go_ret
      exact ⟨rfl, HB9.out⟩
    case pos =>
      have RV : O.RightP v := hS.symm.right (O.dec_sound (by rw [HO.out]; exact hEO))
      unfold O.thV at he
      dsimp only at he
      subst he
      subst hEO
      clear hS
      have HBX : Hid (Below w.heap.size w (O.boxT w2 v)) := HB2.out.trans ((O.box_below w2 v).mono HB2.out.size)
      have E9 := O.encode_yes v (O.boxT w2 v) RV (HLO.out.still HBX.out) (HP.out.still HBX.out)
      have HRV : Hid (O.RightP v) := RV
      have HA : Hid (ThAt O.nm (O.boxT w2 v) w2.heap.size v) := O.box_at w2 v
      clear RV
      unfold O.boxT at E9
      go_wp2_with fail
      refine E9.mono ?_
      rintro e w7 ⟨rfl, b7⟩
      have HB7 : Hid (Below w.heap.size w w7) := HBX.out.trans (b7.mono HBX.out.size)
      have HA7 : Hid (ThAt O.nm w7 w2.heap.size v) := HA.out.still b7
      have D8 := O.decode_back HRV.out w7 (HLO.out.still HB7.out)
      generalize mk (cat (O.fieldsT v)) = cv at *
      clear E9 b7
      go_wp2_with fail
      refine D8.mono ?_
      rintro e w8 ⟨rfl, b8⟩
      have HA8 : Hid (ThAt O.nm (O.boxT w8 v) w2.heap.size v) := (HA7.out.still b8).still (O.box_below w8 v)
      have HB8 : Hid (Below w.heap.size w (O.boxT w8 v)) := (HB7.out.trans (b8.mono HB7.out.size)).trans ((O.box_below w8 v).mono (HB7.out.trans (b8.mono HB7.out.size)).size)
      have R8 := O.right_any v (O.boxT w8 v)
      rw [(O.right_iff v).2 HRV.out] at R8
      have HC8 : Hid (ThAt O.nm (O.boxT w8 v) w8.heap.size v) := O.box_at w8 v
      obtain ⟨d0, d1, d2, d3, d4, d5, d6⟩ := O.ThAt.all HA8.out
      have QE : ∀ w, (Op.equalIn 10000 23 (.agg #[.int .i64 (v.2 0), .int .i64 (v.2 1), .string (v.1 2), .string (v.1 3), .int .i64 (v.2 4), .int .i64 (v.2 5), .int .i64 (v.2 6)]) (.agg #[.int .i64 (v.2 0), .int .i64 (v.2 1), .string (v.1 2), .string (v.1 3), .int .i64 (v.2 4), .int .i64 (v.2 5), .int .i64 (v.2 6)])).run Tryd.prog w = .ok true w := O.same_run v
      unfold O.boxT at d0 d1 d2 d3 d4 d5 d6 R8
      clear D8 b8 HA HA7
      go_wp2_with fail
      refine R8.mono ?_
      rintro e w9 ⟨rfl, b9⟩
      obtain ⟨e0, e1, e2, e3, e4, e5, e6⟩ := O.ThAt.all (HA8.out.still b9)
      obtain ⟨f0, f1, f2, f3, f4, f5, f6⟩ := O.ThAt.all (HC8.out.still b9)
      have HB9 : Hid (Below w.heap.size w w9) := HB8.out.trans (b9.mono HB8.out.size)
      clear R8 b9 d0 d1 d2 d3 d4 d5 d6 HA8 HC8
      have D5 := DR.out (w9) (HLR.out.still HB9.out)
      go_wp2_with fail
      refine D5.mono ?_
      rintro e w6 ⟨v, he, hS, b6⟩
      rw [HR.out] at he
      have HB6 : Hid (Below w.heap.size w w6) := HB9.out.trans (b6.mono HB9.out.size)
      clear D5 b6
      by_cases hER : ER = 0
      case neg =>
        have te2 : (ER == 0) = false := beq_false_of_ne hER
        have hz : R.decA s.data.toList = zeroT 0 := if_neg (by rw [HR.out]; exact hER)
        rw [hz] at hS
        rw [hS.val] at he
        have he' : e = .returned (.tuple #[.agg #[.int .i64 0, .int .i64 0, .string ⟨#[]⟩, .string ⟨#[]⟩, .int .i64 0, .int .i64 0, .string ⟨#[]⟩], .int .i64 TR, .int .i64 ER]) := he
        subst he'
        have QZ : ∀ w, (Op.equalIn 10000 35 (.agg #[.int .i64 0, .int .i64 0, .string ⟨#[]⟩, .string ⟨#[]⟩, .int .i64 0, .int .i64 0, .string ⟨#[]⟩]) (.agg #[.int .i64 0, .int .i64 0, .string ⟨#[]⟩, .string ⟨#[]⟩, .int .i64 0, .int .i64 0, .string ⟨#[]⟩])).run Tryd.prog w = .ok true w := R.same_run (zeroT 0)
        clear he hS hz hER
        go_wp2_with fail
        go_ret
        exact ⟨rfl, HB6.out.alloc HB6.out.size _⟩
      have RV : R.RightP v := hS.symm.right (R.dec_sound (by rw [HR.out]; exact hER))
      unfold R.thV at he
      dsimp only at he
      subst he
      subst hER
      clear hS
      have HBX : Hid (Below w.heap.size w (R.boxT w6 v)) := HB6.out.trans ((R.box_below w6 v).mono HB6.out.size)
      have E9 := R.encode_yes v (R.boxT w6 v) RV (HLR.out.still HBX.out) (HP.out.still HBX.out)
      have HRV : Hid (R.RightP v) := RV
      have HA : Hid (ThAt R.nm (R.boxT w6 v) w6.heap.size v) := R.box_at w6 v
      clear RV
      unfold R.boxT at E9
      go_wp2_with fail
      refine E9.mono ?_
      rintro e w7 ⟨rfl, b7⟩
      have HB7 : Hid (Below w.heap.size w w7) := HBX.out.trans (b7.mono HBX.out.size)
      have HA7 : Hid (ThAt R.nm w7 w6.heap.size v) := HA.out.still b7
      have D8 := R.decode_back HRV.out w7 (HLR.out.still HB7.out)
      generalize mk (cat (R.fieldsT v)) = cv at *
      clear E9 b7
      go_wp2_with fail
      refine D8.mono ?_
      rintro e w8 ⟨rfl, b8⟩
      have HA8 : Hid (ThAt R.nm (R.boxT w8 v) w6.heap.size v) := (HA7.out.still b8).still (R.box_below w8 v)
      have HB8 : Hid (Below w.heap.size w (R.boxT w8 v)) := (HB7.out.trans (b8.mono HB7.out.size)).trans ((R.box_below w8 v).mono (HB7.out.trans (b8.mono HB7.out.size)).size)
      have R8 := R.right_any v (R.boxT w8 v)
      rw [(R.right_iff v).2 HRV.out] at R8
      have HC8 : Hid (ThAt R.nm (R.boxT w8 v) w8.heap.size v) := R.box_at w8 v
      obtain ⟨d0, d1, d2, d3, d4, d5, d6⟩ := R.ThAt.all HA8.out
      have QE : ∀ w, (Op.equalIn 10000 35 (.agg #[.int .i64 (v.2 0), .int .i64 (v.2 1), .string (v.1 2), .string (v.1 3), .int .i64 (v.2 4), .int .i64 (v.2 5), .string (v.1 6)]) (.agg #[.int .i64 (v.2 0), .int .i64 (v.2 1), .string (v.1 2), .string (v.1 3), .int .i64 (v.2 4), .int .i64 (v.2 5), .string (v.1 6)])).run Tryd.prog w = .ok true w := R.same_run v
      unfold R.boxT at d0 d1 d2 d3 d4 d5 d6 R8
      clear D8 b8 HA HA7
      go_wp2_with fail
      refine R8.mono ?_
      rintro e w9 ⟨rfl, b9⟩
      obtain ⟨e0, e1, e2, e3, e4, e5, e6⟩ := R.ThAt.all (HA8.out.still b9)
      obtain ⟨f0, f1, f2, f3, f4, f5, f6⟩ := R.ThAt.all (HC8.out.still b9)
      have HB9 : Hid (Below w.heap.size w w9) := HB8.out.trans (b9.mono HB8.out.size)
      clear R8 b9 d0 d1 d2 d3 d4 d5 d6 HA8 HC8
      go_wp2_with fail
      go_ret
      exact ⟨rfl, HB9.out⟩
set_option maxRecDepth 100000 in
theorem postSound_lifted (os : Os) (started : os.Started) (H : Type) (enc : TypeId × Value → H) :
    ReturnsInHanded {} Tryd.checked os 6 .any (fun w args => (Rows.postSoundSpec.pre enc Tryd.prog Tryd.f6 [] false w args ∧ laidMetH Tryd.prog Rows.postSoundRow.laid w) ∧ sizedMet enc Tryd.prog Tryd.f6 (OpenSpec.ofChange Rows.postSoundSpec) false w args)
      (Rows.postSoundSpec.post enc Tryd.prog Tryd.f6 false true false false) := by
  refine returnsInHanded_of_change_and (C := Tryd.checked) (X := fun w _ => laidMetH Tryd.prog laid8 w) (fun _ _ _ hh h => h.of_heap hh) own8 started (by kernel_rfl) Tryd.func6
    (ChangeSpec.witness_shaped (enc := enc) (C := Tryd.checked) (os := os) (X := fun w _ => laidMetH Tryd.prog laid8 w) false (World.doorLaid Tryd.prog 400 os) #[.string ⟨#[]⟩] 8 rfl (World.shaped_of_RefB (by kernel_rfl) (by kernel_rfl)) (by kernel_rfl) (by kernel_rfl) (by kernel_rfl) (door_met os _)) ?_
  intro W base args ds gs before hval0 hW _ _ hL _
  have hval : ∀ (j : Nat) t v, Tryd.f6.params[j]? = some t → args[j]? = some v → Value.okWide Tryd.prog W .any base t v := hval0
  have hW' := hW
  obtain ⟨p, q, hA0, hV, rfl, hfz, hnd⟩ := hW
  have hA : DataW.TrodAll enc Tryd.prog W 0 (fun _ => true) true Tryd.f6.params.toList args.toList ds p := hA0
  rw [Tryd.params6] at hA hval
  obtain ⟨v0, vs0, d0, ds0, p0, q0, hargs, rfl, rfl, h0, r0⟩ := trodAll_cons hA
  obtain ⟨rfl, rfl, rfl⟩ := trodAll_nil r0
  obtain rfl : args = #[v0] := by cases args; simp_all
  obtain ⟨rfl, rfl⟩ := trodVars_none hV
  obtain ⟨s0, rfl, rfl, rfl, w0⟩ := Go.ChangeMaps.open_string Tryd.underlying9 (hval 0 9 v0 rfl rfl) h0
  clear hA0 hval0
  simp only [List.append_nil] at hW'
  refine (postSound_walk W s0 w0 (pow_of_laid hL) (letO_of_laid hL) (letR_of_laid hL)).mono fun e W' ⟨he, bel⟩ => ?_
  subst he
  exact ⟨_, rfl, _, _, _, [], _, [], hW', trodAll_mk1 (shut_bool Tryd.underlying4 _), (trodAll_cons_mk (Go.ChangeMaps.shut_string Tryd.underlying9 w0) trodAll_mk0), rfl, bel.frame _, fun h => by cases h⟩

/-- The row. -/
theorem postSound_row : Rows.PostSoundSaid :=
  OpenClaim.holds_of_wide 6 Tryd.f6 rfl rfl rfl rfl rfl rfl rfl ⟨rfl, rfl, rfl, rfl, rfl⟩ rfl rfl rfl rfl rfl (by kernel_rfl) Tryd.func6 (by kernel_rfl)
    (of_decide_eq_true (by kernel_rfl)) (by unfold Func.isWrapper; first | (rw [if_pos (by decide +kernel)]; kernel_rfl) | (rw [if_neg (by decide +kernel)]; exact ⟨rfl, rfl⟩))
    (fun os started H enc _ => postSound_lifted os started H enc)
/-- THE STATEMENT: the tied card. -/
theorem postSound_proved : Rows.PostSoundCardSaid :=
  Claim7.holds_tied_plain_at .later [] Rows.postSoundCard.laidKinds true Rows.postSoundCard.stood.harness Rows.postSoundCard.stood.looks
    postSound_row (fun _ h => by cases h) (by kernel_rfl) (fun _ h => by cases h) postSound_row_tie rfl ⟨rfl, rfl⟩ (by kernel_rfl) rfl
    (fun f fn hf hfn => by
      obtain rfl : f = 6 := Option.some.inj ((show Tryd.prog.funcNamed Rows.postSoundRow.func = some 6 by kernel_rfl).symm.trans hf) |>.symm
      obtain rfl : fn = Tryd.f6 := (Option.some.inj (Tryd.func6.symm.trans hfn)).symm
      exact ⟨by kernel_rfl, fun j t ht => by
        rw [Tryd.params6] at ht
        have hm : t ∈ [9] := by simpa using Array.mem_of_getElem? ht
        have hall : ([9].all fun u => !Tryd.prog.wantsStandIn u) = true := by kernel_rfl
        exact (show Tryd.prog.wantsStandIn t = false by simpa using List.all_eq_true.1 hall t hm)⟩)
    (by kernel_rfl)
#print axioms postSound_proved
end Go.Proofs.YtdbkoflejimibaaDoor
