/-
  TagReads: any bytes are the document's fields, up to the first one that is not right, and have its error. For every text, no condition but that the table of the powers of ten is laid as the program's text lays it.
-/
import Derived.Test.YtennefdcjgjpiaaDoorTagAwake
import Derived.Test.YtennefdcjgjpiaaDoorTagRefFields
import Derived.Test.YtennefdcjgjpiaaDoorTagDoor
import Derived.Test.YtennefdcjgjpiaaDoorCards
import Derived.Test.YtennefdcjgjpiaaDoorTie
namespace Go.Proofs.YtennefdcjgjpiaaDoor
open Go.ChangeShapes Go.WideShapes Go.ChangeAt Go.WideMaps Go.WideElems Go.RowKit Go.Lib

theorem fieldsA_len : ∀ (k : Nat) (l : List UInt8) (acc : List Fd) (at_ : Nat), (fieldsA k l acc at_).1.length ≤ acc.length + k
  | 0, l, acc, at_ => by rw [fieldsA]; split <;> simp
  | k + 1, l, acc, at_ => by
    rw [fieldsA]
    split
    · simp
    · split
      · have := fieldsA_len k (l.drop (nextL l).2.1) (acc ++ [(nextL l).1]) (at_ + (nextL l).2.1)
        rw [List.length_append, List.length_cons, List.length_nil] at this
        omega
      · simp
theorem fields_len (l : List UInt8) : (fieldsL l).1.length ≤ 64 := by
  have := fieldsA_len 64 l [] 0
  rw [List.length_nil] at this
  unfold fieldsL
  omega
set_option maxRecDepth 1000000 in
set_option maxHeartbeats 8000000 in
theorem tagReads_walk (w : World) (s : ByteArray) (hs : s.size ≤ maxLen) (P : Pow w) :
    Calls Tryd.prog 4 #[.string s] w fun e w' => e = .returned (.bool true) ∧ Below w.heap.size w w' := by
  have F0 := awake_any w P
  unfold maxLen at hs
  by_cases h : 5000 < s.size
  · have t : (5000 : Int) < (s.size : Int) := by omega
    go_enter Tryd.func4, Tryd.ntmps4
    go_wp2_with fail
    refine F0.mono ?_
    rintro e w1 ⟨rfl, hb⟩
    go_wp2_with fail
    go_ret
    exact ⟨rfl, hb⟩
  have t : ¬ (5000 : Int) < (s.size : Int) := by omega
  have F1 := fun w => next_any s w (by omega)
  have F2 := fun w => refNext_any s w (by omega)
  have F3 := fun w => fields_any s w (by omega)
  have F4 := fun w => refFields_any s w (by omega)
  have hL := fields_len s.data.toList
  obtain ⟨f, m, e0, hN⟩ : ∃ f m e0, nextL s.data.toList = (f, m, e0) := ⟨_, _, _, rfl⟩
  obtain ⟨L, A, E, hR⟩ : ∃ L A E, fieldsL s.data.toList = (L, A, E) := ⟨_, _, _, rfl⟩
  rw [hN] at F1 F2
  rw [hR] at F3 F4 hL
  dsimp only at F1 F2 F3 F4 hL
  clear hN hR
  have g1 : (f.1 != f.1) = false := by simp
  have g2 : ((m : Int) != (m : Int)) = false := by simp
  have g3 : ((e0 : Int) != (e0 : Int)) = false := by simp
  have g4 : ((A : Int) == (A : Int)) = true := by simp
  have g5 : ((E : Int) == (E : Int)) = true := by simp
  go_enter Tryd.func4, Tryd.ntmps4
  go_wp2_with fail
  refine F0.mono ?_
  rintro e w1 ⟨rfl, hb1⟩
  go_wp2_with fail
  refine (F1 _).mono ?_
  rintro e w2 ⟨rfl, hb2⟩
  have B2 := hb1.trans (hb2.mono hb1.size)
  have B2a := B2.alloc B2.size (.cells #[.int .i64 f.1, .string f.2] 25)
  go_wp2_with fail
  refine (F2 _).mono ?_
  rintro e w3 ⟨rfl, hb3⟩
  have q0 : w3.cell? ⟨w2.heap.size, 0, none⟩ = some (.int .i64 f.1) := (hb3.cell (p := ⟨w2.heap.size, 0, none⟩) (by simp)).trans (by simp)
  have q1 : w3.cell? ⟨w2.heap.size, 1, none⟩ = some (.string f.2) := (hb3.cell (p := ⟨w2.heap.size, 1, none⟩) (by simp)).trans (by simp)
  have z3 : w2.heap.size < w3.heap.size := by have := hb3.size; simp at this; omega
  have B3 := B2a.trans (hb3.mono B2a.size)
  have B3a := B3.alloc B3.size (.cells #[.int .i64 f.1, .string f.2] 31)
  go_wp2_with fail
  refine (F3 _).mono ?_
  rintro e w5 ⟨v5, rfl, Q5⟩
  have B5 := B3a.trans (Q5.below.mono B3a.size)
  go_wp2_with fail
  refine (F4 _).mono ?_
  rintro e w6 ⟨v6, rfl, Q6⟩
  have B6 := B5.trans (Q6.below.mono B5.size)
  have R6 := flds_of_own (own_below Q5.own Q6.below)
  have F5 := plain_any v5 L w6 R6 (by omega)
  clear R6
  go_wp2_with fail
  refine F5.mono ?_
  rintro e w7 ⟨v7, rfl, Q7⟩
  have B7 := B6.trans (Q7.below.mono B6.size)
  have F6 := same_yes v7 v6 L w7 (flds_of_own Q7.own) (flds_of_own (own_below Q6.own Q7.below)) (by omega)
  go_wp2_with fail
  refine F6.mono ?_
  rintro e w8 ⟨rfl, hb8⟩
  have B8 := B7.trans (hb8.mono B7.size)
  go_wp2_with fail
  go_ret
  exact ⟨rfl, B8⟩

set_option maxRecDepth 100000 in
theorem tagReads_lifted (os : Os) (started : os.Started) (H : Type) (enc : TypeId × Value → H) :
    ReturnsInHanded {} Tryd.checked os 4 .any (fun w args => (Rows.tagReadsSpec.pre enc Tryd.prog Tryd.f4 [] false w args ∧ laidMetH Tryd.prog Rows.tagReadsRow.laid w) ∧ sizedMet enc Tryd.prog Tryd.f4 (OpenSpec.ofChange Rows.tagReadsSpec) false w args)
      (Rows.tagReadsSpec.post enc Tryd.prog Tryd.f4 false true false false) := by
  refine returnsInHanded_of_change_and (C := Tryd.checked) (X := fun w _ => laidMetH Tryd.prog laid8 w) (fun _ _ _ hh h => h.of_heap hh) own8 started (by kernel_rfl) Tryd.func4
    (ChangeSpec.witness_shaped (enc := enc) (C := Tryd.checked) (os := os) (X := fun w _ => laidMetH Tryd.prog laid8 w) false (World.doorLaid Tryd.prog 400 os) #[.string ⟨#[]⟩] 8 rfl (World.shaped_of_RefB (by kernel_rfl) (by kernel_rfl)) (by kernel_rfl) (by kernel_rfl) (by kernel_rfl) (door_met os _)) ?_
  intro W base args ds gs before hval0 hW _ _ hL _
  have hval : ∀ (j : Nat) t v, Tryd.f4.params[j]? = some t → args[j]? = some v → Value.okWide Tryd.prog W .any base t v := hval0
  have hW' := hW
  obtain ⟨p, q, hA0, hV, rfl, hfz, hnd⟩ := hW
  have hA : DataW.TrodAll enc Tryd.prog W 0 (fun _ => true) true Tryd.f4.params.toList args.toList ds p := hA0
  rw [Tryd.params4] at hA hval
  obtain ⟨v0, vs0, d0, ds0, p0, q0, hargs, rfl, rfl, h0, r0⟩ := trodAll_cons hA
  obtain ⟨rfl, rfl, rfl⟩ := trodAll_nil r0
  obtain rfl : args = #[v0] := by cases args; simp_all
  obtain ⟨rfl, rfl⟩ := trodVars_none hV
  obtain ⟨s0, rfl, rfl, rfl, w0⟩ := Go.ChangeMaps.open_string Tryd.underlying9 (hval 0 9 v0 rfl rfl) h0
  clear hA0 hval0
  simp only [List.append_nil] at hW'
  refine (tagReads_walk W s0 w0 (pow_of_laid hL)).mono fun e W' ⟨he, bel⟩ => ?_
  subst he
  exact ⟨_, rfl, _, _, _, [], _, [], hW', trodAll_mk1 (shut_bool Tryd.underlying4 _), (trodAll_cons_mk (Go.ChangeMaps.shut_string Tryd.underlying9 w0) trodAll_mk0), rfl, bel.frame _, fun h => by cases h⟩

/-- The row. -/
theorem tagReads_row : Rows.TagReadsSaid :=
  OpenClaim.holds_of_wide 4 Tryd.f4 rfl rfl rfl rfl rfl rfl rfl ⟨rfl, rfl, rfl, rfl, rfl⟩ rfl rfl rfl rfl rfl (by kernel_rfl) Tryd.func4 (by kernel_rfl)
    (of_decide_eq_true (by kernel_rfl)) (by unfold Func.isWrapper; first | (rw [if_pos (by decide +kernel)]; kernel_rfl) | (rw [if_neg (by decide +kernel)]; exact ⟨rfl, rfl⟩))
    (fun os started H enc _ => tagReads_lifted os started H enc)
/-- THE STATEMENT: the tied card. -/
theorem tagReads_proved : Rows.TagReadsCardSaid :=
  Claim7.holds_tied_plain_at .later [] Rows.tagReadsCard.laidKinds true Rows.tagReadsCard.stood.harness false
    tagReads_row (fun _ h => by cases h) (by kernel_rfl) (fun _ h => by cases h) tagReads_row_tie rfl ⟨rfl, rfl⟩ (by kernel_rfl) rfl
    (fun f fn hf hfn => by
      obtain rfl : f = 4 := Option.some.inj ((show Tryd.prog.funcNamed Rows.tagReadsRow.func = some 4 by kernel_rfl).symm.trans hf) |>.symm
      obtain rfl : fn = Tryd.f4 := (Option.some.inj (Tryd.func4.symm.trans hfn)).symm
      exact ⟨by kernel_rfl, fun j t ht => by
        rw [Tryd.params4] at ht
        have hm : t ∈ [9] := by simpa using Array.mem_of_getElem? ht
        have hall : ([9].all fun u => !Tryd.prog.wantsStandIn u) = true := by kernel_rfl
        exact (show Tryd.prog.wantsStandIn t = false by simpa using List.all_eq_true.1 hall t hm)⟩)
    (by kernel_rfl)
#print axioms tagReads_proved
end Go.Proofs.YtennefdcjgjpiaaDoor
