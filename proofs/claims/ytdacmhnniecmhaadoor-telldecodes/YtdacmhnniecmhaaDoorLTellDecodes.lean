/-
  Any bytes are the document's tell, or have its first error, beside its tag: the statement TellDecodes, for every text.
-/
import Derived.Test.YtdacmhnniecmhaaDoorGL
import Derived.Test.YtdacmhnniecmhaaDoorHD
import Derived.Test.YtdacmhnniecmhaaDoorGA
import Derived.Test.YtdacmhnniecmhaaDoorCards
import Derived.Test.YtdacmhnniecmhaaDoorTie
import Derived.Deep.RegionHeld3
import Derived.SevenTiedAt
namespace Go.Proofs.YtdacmhnniecmhaaDoor
open Go.ChangeShapes Go.WideShapes Go.ChangeAt Go.WideMaps Go.WideElems Go.RowKit Go.Lib

set_option maxRecDepth 1000000 in
set_option maxHeartbeats 8000000 in
theorem tellDecodes_walk (w : World) (s : ByteArray) (_ : s.size ≤ maxLen) (hp : Pow w) (hl : Let w) :
    Calls Tryd.prog 4 #[.string s] w fun e w' => e = .returned (.bool true) ∧ Below w.heap.size w w' := by
  have AW := awake13_any w hl hp
  have HL : Hid (Let w) := hl
  clear hl hp
  by_cases h5 : 5000 < s.size
  · have t5 : (5000 : Int) < (s.size : Int) := by omega
    go_enter Tryd.func4, Tryd.ntmps4
    go_wp2_with fail
    refine AW.mono ?_
    rintro e w1 ⟨rfl, b1⟩
    go_wp2_with fail
    go_ret
    exact ⟨rfl, b1⟩
  have t5 : ¬ (5000 : Int) < (s.size : Int) := by omega
  have DE := fun w h => decode_any s w (by omega) h
  have RE := fun w => refDecode_any s w (by omega)
  clear h5
  obtain ⟨T, E, hTE⟩ : ∃ T E, decT s.data.toList = (T, E) := ⟨_, _, rfl⟩
  have HTE : Hid (decT s.data.toList = (T, E)) := hTE
  clear hTE
  go_enter Tryd.func4, Tryd.ntmps4
  go_wp2_with fail
  refine AW.mono ?_
  rintro e w1 ⟨rfl, b1⟩
  have D1 := DE w1 (HL.out.still b1)
  have HB1 : Hid (Below w.heap.size w w1) := b1
  clear AW DE b1
  go_wp2_with fail
  refine D1.mono ?_
  rintro e w2 ⟨u, he, hS, b2⟩
  rw [HTE.out, hS.val] at he
  obtain ⟨t, ht⟩ : ∃ t, decA s.data.toList = t := ⟨_, rfl⟩
  rw [ht] at he
  have HT : Hid (decA s.data.toList = t) := ht
  unfold tellV at he
  dsimp only at he
  subst he
  have HB2 : Hid (Below w.heap.size w w2) := HB1.out.trans (b2.mono HB1.out.size)
  have HAX : Hid (TellAt (boxT w2 t) w2.heap.size t) := TellAt.box w2 t
  have HBX : Hid (Below w.heap.size w (boxT w2 t)) := HB2.out.trans ((boxT_below w2 t).mono HB2.out.size)
  have R2 := RE (boxT w2 t)
  clear D1 hS b2 ht RE
  go_wp2_with fail
  refine R2.mono ?_
  rintro e w3 ⟨u', he, hS, b3⟩
  rw [HTE.out, hS.val, HT.out] at he
  unfold tellV at he
  dsimp only at he
  subst he
  have HB3 : Hid (Below w.heap.size w (boxR w3 t)) := HBX.out.trans ((b3.trans ((boxR_below w3 t).mono b3.size)).mono HBX.out.size)
  have A3 := HAX.out.still b3
  have n15 : ¬ w2.heap.size = w3.heap.size := by have := A3.lt; omega
  have n51 : ¬ w3.heap.size = w2.heap.size := fun e => n15 e.symm
  have X5 : Hid (TellAt (boxR w3 t) w2.heap.size t) := A3.still (boxR_below w3 t)
  have Y5 : Hid (TellAt (boxR w3 t) w3.heap.size t) := TellAt.boxR w3 t
  have QE := same_runR t
  obtain ⟨x0, x1, x2, x3, x4, x5, x6, x7, x8, x9⟩ := X5.out.all
  obtain ⟨y0, y1, y2, y3, y4, y5, y6, y7, y8, y9⟩ := Y5.out.all
  clear R2 hS b3 A3 HAX HBX HT HTE
  go_wp2_with fail
  go_region_held3 (fun w' => (w'.cell? ⟨w2.heap.size, 0, none⟩ = some (.int .i64 (t.2 0)) ∧ w'.cell? ⟨w2.heap.size, 1, none⟩ = some (.string (t.1 1)) ∧ w'.cell? ⟨w2.heap.size, 2, none⟩ = some (.string (t.1 2)) ∧ w'.cell? ⟨w2.heap.size, 3, none⟩ = some (.int .i64 (t.2 3)) ∧ w'.cell? ⟨w2.heap.size, 4, none⟩ = some (.int .i64 (t.2 4)) ∧ w'.cell? ⟨w2.heap.size, 5, none⟩ = some (.int .i64 (t.2 5)) ∧ w'.cell? ⟨w2.heap.size, 6, none⟩ = some (.int .i64 (t.2 6)) ∧ w'.cell? ⟨w2.heap.size, 7, none⟩ = some (.int .i64 (t.2 7)) ∧ w'.cell? ⟨w2.heap.size, 8, none⟩ = some (.int .i64 (t.2 8)) ∧ w'.cell? ⟨w2.heap.size, 9, none⟩ = some (.int .i64 (t.2 9))) ∧ w'.cell? ⟨w3.heap.size, 0, none⟩ = some (.int .i64 (t.2 0)) ∧ w'.cell? ⟨w3.heap.size, 1, none⟩ = some (.string (t.1 1)) ∧ w'.cell? ⟨w3.heap.size, 2, none⟩ = some (.string (t.1 2)) ∧ w'.cell? ⟨w3.heap.size, 3, none⟩ = some (.int .i64 (t.2 3)) ∧ w'.cell? ⟨w3.heap.size, 4, none⟩ = some (.int .i64 (t.2 4)) ∧ w'.cell? ⟨w3.heap.size, 5, none⟩ = some (.int .i64 (t.2 5)) ∧ w'.cell? ⟨w3.heap.size, 6, none⟩ = some (.int .i64 (t.2 6)) ∧ w'.cell? ⟨w3.heap.size, 7, none⟩ = some (.int .i64 (t.2 7)) ∧ w'.cell? ⟨w3.heap.size, 8, none⟩ = some (.int .i64 (t.2 8)) ∧ w'.cell? ⟨w3.heap.size, 9, none⟩ = some (.int .i64 (t.2 9))) (go_keep) (first
    | (go_at_call 10; refine (plain_any t _).mono ?_; rintro e w6 ⟨rfl, k6⟩; have k6' := below_of_drew k6; have X6 : Hid (TellAt w6 w2.heap.size t) := X5.out.still k6'; have Y6 : Hid (TellAt w6 w3.heap.size t) := Y5.out.still k6'; obtain ⟨ua0, ua1, ua2, ua3, ua4, ua5, ua6, ua7, ua8, ua9⟩ := X6.out.all; obtain ⟨ub0, ub1, ub2, ub3, ub4, ub5, ub6, ub7, ub8, ub9⟩ := Y6.out.all))
  all_goals
    have HB6 : Hid (Below w.heap.size w w6) := HB3.out.trans (k6'.mono HB3.out.size)
    go_wp2_with fail
    go_ret
    exact ⟨rfl, HB6.out⟩
set_option maxRecDepth 100000 in
theorem tellDecodes_lifted (os : Os) (started : os.Started) (H : Type) (enc : TypeId × Value → H) :
    ReturnsInHanded {} Tryd.checked os 4 .any (fun w args => (Rows.tellDecodesSpec.pre enc Tryd.prog Tryd.f4 [] false w args ∧ laidMetH Tryd.prog Rows.tellDecodesRow.laid w) ∧ sizedMet enc Tryd.prog Tryd.f4 (OpenSpec.ofChange Rows.tellDecodesSpec) false w args)
      (Rows.tellDecodesSpec.post enc Tryd.prog Tryd.f4 false true false false) := by
  refine returnsInHanded_of_change_and (C := Tryd.checked) (X := fun w _ => laidMetH Tryd.prog laid8 w) (fun _ _ _ hh h => h.of_heap hh) own8 started (by kernel_rfl) Tryd.func4
    (ChangeSpec.witness_shaped (enc := enc) (C := Tryd.checked) (os := os) (X := fun w _ => laidMetH Tryd.prog laid8 w) false (World.doorLaid Tryd.prog 400 os) #[.string ⟨#[]⟩] 8 rfl (World.shaped_of_RefB (by kernel_rfl) (by kernel_rfl)) (by kernel_rfl) (by kernel_rfl) (by kernel_rfl) (door_met os _)) ?_
  intro W base args ds gs before hval0 hW _ _ hL _
  have hval : ∀ (j : Nat) t v, Tryd.f4.params[j]? = some t → args[j]? = some v → Value.okWide Tryd.prog W .any base t v := hval0
  have hW' := hW
  obtain ⟨p, q, hA0, hV, rfl, hfz, hnd⟩ := hW
  have hA : DataW.TrodAll enc Tryd.prog W 0 (fun _ => true) true Tryd.f4.params.toList args.toList ds p := hA0
  rw [Tryd.params4] at hA hval
  obtain ⟨v0, vs0, d0, ds0, p0, q0, hargs, rfl, rfl, h0, r0⟩ := trodAll_cons hA
  obtain ⟨rfl, rfl, rfl⟩ := trodAll_nil r0
  obtain rfl : args = #[v0] := by cases args; simp_all
  obtain ⟨rfl, rfl⟩ := trodVars_none hV
  obtain ⟨s0, rfl, rfl, rfl, w0⟩ := Go.ChangeMaps.open_string Tryd.underlying9 (hval 0 9 v0 rfl rfl) h0
  clear hA0 hval0
  simp only [List.append_nil] at hW'
  refine (tellDecodes_walk W s0 w0 (pow_of_laid hL) (let_of_laid hL)).mono fun e W' ⟨he, bel⟩ => ?_
  subst he
  exact ⟨_, rfl, _, _, _, [], _, [], hW', trodAll_mk1 (shut_bool Tryd.underlying4 _), (trodAll_cons_mk (Go.ChangeMaps.shut_string Tryd.underlying9 w0) trodAll_mk0), rfl, bel.frame _, fun h => by cases h⟩

/-- The row. -/
theorem tellDecodes_row : Rows.TellDecodesSaid :=
  OpenClaim.holds_of_wide 4 Tryd.f4 rfl rfl rfl rfl rfl rfl rfl ⟨rfl, rfl, rfl, rfl, rfl⟩ rfl rfl rfl rfl rfl (by kernel_rfl) Tryd.func4 (by kernel_rfl)
    (of_decide_eq_true (by kernel_rfl)) (by unfold Func.isWrapper; first | (rw [if_pos (by decide +kernel)]; kernel_rfl) | (rw [if_neg (by decide +kernel)]; exact ⟨rfl, rfl⟩))
    (fun os started H enc _ => tellDecodes_lifted os started H enc)
/-- THE STATEMENT: the tied card. -/
theorem tellDecodes_proved : Rows.TellDecodesCardSaid :=
  Claim7.holds_tied_plain_at .later [] Rows.tellDecodesCard.laidKinds true Rows.tellDecodesCard.stood.harness Rows.tellDecodesCard.stood.looks
    tellDecodes_row (fun _ h => by cases h) (by kernel_rfl) (fun _ h => by cases h) tellDecodes_row_tie rfl ⟨rfl, rfl⟩ (by kernel_rfl) rfl
    (fun f fn hf hfn => by
      obtain rfl : f = 4 := Option.some.inj ((show Tryd.prog.funcNamed Rows.tellDecodesRow.func = some 4 by kernel_rfl).symm.trans hf) |>.symm
      obtain rfl : fn = Tryd.f4 := (Option.some.inj (Tryd.func4.symm.trans hfn)).symm
      exact ⟨by kernel_rfl, fun j t ht => by
        rw [Tryd.params4] at ht
        have hm : t ∈ [9] := by simpa using Array.mem_of_getElem? ht
        have hall : ([9].all fun u => !Tryd.prog.wantsStandIn u) = true := by kernel_rfl
        exact (show Tryd.prog.wantsStandIn t = false by simpa using List.all_eq_true.1 hall t hm)⟩)
    (by kernel_rfl)
#print axioms tellDecodes_proved
end Go.Proofs.YtdacmhnniecmhaaDoor
