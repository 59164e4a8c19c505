/-
  TagOne: what is read is formed again as the same bytes. For every text, no condition but that the table of the powers of ten is laid as the program's text lays it.
-/
import Derived.Test.YtennefdcjgjpiaaDoorTagLaws
import Derived.Test.YtennefdcjgjpiaaDoorTagFields
import Derived.Test.YtennefdcjgjpiaaDoorTagDoor
import Derived.Test.YtennefdcjgjpiaaDoorCards
import Derived.Test.YtennefdcjgjpiaaDoorTie
namespace Go.Proofs.YtennefdcjgjpiaaDoor
open Go.ChangeShapes Go.WideShapes Go.ChangeAt Go.WideMaps Go.WideElems Go.RowKit Go.Lib

theorem fields_len64 (l : List UInt8) : (fieldsL l).1.length ≤ 64 := by
  obtain ⟨new, n, g1, _, _, g4, _⟩ := fieldsA_one 64 l [] 0
  rw [List.nil_append] at g1
  unfold fieldsL
  rw [g1]
  exact g4
set_option maxRecDepth 1000000 in
set_option maxHeartbeats 8000000 in
theorem tagOne_walk (w : World) (s : ByteArray) (hs : s.size ≤ maxLen) (P : Pow w) :
    Calls Tryd.prog 6 #[.string s] w fun e w' => e = .returned (.bool true) ∧ Below w.heap.size w w' := by
  have F0 := awake_any w P
  unfold maxLen at hs
  by_cases h : 5000 < s.size
  · have t : (5000 : Int) < (s.size : Int) := by omega
    go_enter Tryd.func6, Tryd.ntmps6
    go_wp2_with fail
    refine F0.mono ?_
    rintro e w1 ⟨rfl, hb⟩
    go_wp2_with fail
    go_ret
    exact ⟨rfl, hb⟩
  have t : ¬ (5000 : Int) < (s.size : Int) := by omega
  have F1 := fun w => fields_any s w (by omega)
  have hL := fields_len64 s.data.toList
  obtain ⟨o1, o2, o3⟩ := fields_one s.data.toList
  obtain ⟨L, A, E, hR⟩ : ∃ L A E, fieldsL s.data.toList = (L, A, E) := ⟨_, _, _, rfl⟩
  rw [hR] at F1 hL o1 o2 o3
  dsimp only at F1 hL o1 o2 o3
  rw [← size_eq] at o2
  have HS : Hid (∀ i, (h : i < L.length) → (L[i]).2.size ≤ 1000000) := fun i h => by have := ok_size o3 i h; omega
  have HO : Hid (formsE L = (s.data.toList.take A, 0)) := o1
  have HE : Hid (mk (s.data.toList.take A) = s.extract 0 A) := (ext_head s A).symm
  have g1 : (A : Int) ≤ (s.size : Int) := by omega
  have g2 : A ≤ s.size := o2
  clear hR o1 o2 o3
  go_enter Tryd.func6, Tryd.ntmps6
  go_wp2_with fail
  refine F0.mono ?_
  rintro e w1 ⟨rfl, hb1⟩
  go_wp2_with fail
  refine (F1 _).mono ?_
  rintro e w2 ⟨v2, rfl, Q2⟩
  have B2 := hb1.trans (Q2.below.mono hb1.size)
  have F2 := forms_any v2 L w2 (flds_of_own Q2.own) HS.out (by omega) (P.still B2)
  rw [HO.out] at F2
  dsimp only at F2
  rw [HE.out] at F2
  clear Q2
  go_wp2_with fail
  refine F2.mono ?_
  rintro e w3 ⟨rfl, hb3⟩
  have B3 := B2.trans (hb3.mono B2.size)
  go_wp2_with fail
  go_ret
  exact ⟨by simp, B3⟩

set_option maxRecDepth 100000 in
theorem tagOne_lifted (os : Os) (started : os.Started) (H : Type) (enc : TypeId × Value → H) :
    ReturnsInHanded {} Tryd.checked os 6 .any (fun w args => (Rows.tagOneSpec.pre enc Tryd.prog Tryd.f6 [] false w args ∧ laidMetH Tryd.prog Rows.tagOneRow.laid w) ∧ sizedMet enc Tryd.prog Tryd.f6 (OpenSpec.ofChange Rows.tagOneSpec) false w args)
      (Rows.tagOneSpec.post enc Tryd.prog Tryd.f6 false true false false) := by
  refine returnsInHanded_of_change_and (C := Tryd.checked) (X := fun w _ => laidMetH Tryd.prog laid8 w) (fun _ _ _ hh h => h.of_heap hh) own8 started (by kernel_rfl) Tryd.func6
    (ChangeSpec.witness_shaped (enc := enc) (C := Tryd.checked) (os := os) (X := fun w _ => laidMetH Tryd.prog laid8 w) false (World.doorLaid Tryd.prog 400 os) #[.string ⟨#[]⟩] 8 rfl (World.shaped_of_RefB (by kernel_rfl) (by kernel_rfl)) (by kernel_rfl) (by kernel_rfl) (by kernel_rfl) (door_met os _)) ?_
  intro W base args ds gs before hval0 hW _ _ hL _
  have hval : ∀ (j : Nat) t v, Tryd.f6.params[j]? = some t → args[j]? = some v → Value.okWide Tryd.prog W .any base t v := hval0
  have hW' := hW
  obtain ⟨p, q, hA0, hV, rfl, hfz, hnd⟩ := hW
  have hA : DataW.TrodAll enc Tryd.prog W 0 (fun _ => true) true Tryd.f6.params.toList args.toList ds p := hA0
  rw [Tryd.params6] at hA hval
  obtain ⟨v0, vs0, d0, ds0, p0, q0, hargs, rfl, rfl, h0, r0⟩ := trodAll_cons hA
  obtain ⟨rfl, rfl, rfl⟩ := trodAll_nil r0
  obtain rfl : args = #[v0] := by cases args; simp_all
  obtain ⟨rfl, rfl⟩ := trodVars_none hV
  obtain ⟨s0, rfl, rfl, rfl, w0⟩ := Go.ChangeMaps.open_string Tryd.underlying9 (hval 0 9 v0 rfl rfl) h0
  clear hA0 hval0
  simp only [List.append_nil] at hW'
  refine (tagOne_walk W s0 w0 (pow_of_laid hL)).mono fun e W' ⟨he, bel⟩ => ?_
  subst he
  exact ⟨_, rfl, _, _, _, [], _, [], hW', trodAll_mk1 (shut_bool Tryd.underlying4 _), (trodAll_cons_mk (Go.ChangeMaps.shut_string Tryd.underlying9 w0) trodAll_mk0), rfl, bel.frame _, fun h => by cases h⟩

/-- The row. -/
theorem tagOne_row : Rows.TagOneSaid :=
  OpenClaim.holds_of_wide 6 Tryd.f6 rfl rfl rfl rfl rfl rfl rfl ⟨rfl, rfl, rfl, rfl, rfl⟩ rfl rfl rfl rfl rfl (by kernel_rfl) Tryd.func6 (by kernel_rfl)
    (of_decide_eq_true (by kernel_rfl)) (by unfold Func.isWrapper; first | (rw [if_pos (by decide +kernel)]; kernel_rfl) | (rw [if_neg (by decide +kernel)]; exact ⟨rfl, rfl⟩))
    (fun os started H enc _ => tagOne_lifted os started H enc)
/-- THE STATEMENT: the tied card. -/
theorem tagOne_proved : Rows.TagOneCardSaid :=
  Claim7.holds_tied_plain_at .later [] Rows.tagOneCard.laidKinds true Rows.tagOneCard.stood.harness false
    tagOne_row (fun _ h => by cases h) (by kernel_rfl) (fun _ h => by cases h) tagOne_row_tie rfl ⟨rfl, rfl⟩ (by kernel_rfl) rfl
    (fun f fn hf hfn => by
      obtain rfl : f = 6 := Option.some.inj ((show Tryd.prog.funcNamed Rows.tagOneRow.func = some 6 by kernel_rfl).symm.trans hf) |>.symm
      obtain rfl : fn = Tryd.f6 := (Option.some.inj (Tryd.func6.symm.trans hfn)).symm
      exact ⟨by kernel_rfl, fun j t ht => by
        rw [Tryd.params6] at ht
        have hm : t ∈ [9] := by simpa using Array.mem_of_getElem? ht
        have hall : ([9].all fun u => !Tryd.prog.wantsStandIn u) = true := by kernel_rfl
        exact (show Tryd.prog.wantsStandIn t = false by simpa using List.all_eq_true.1 hall t hm)⟩)
    (by kernel_rfl)
#print axioms tagOne_proved
end Go.Proofs.YtennefdcjgjpiaaDoor
