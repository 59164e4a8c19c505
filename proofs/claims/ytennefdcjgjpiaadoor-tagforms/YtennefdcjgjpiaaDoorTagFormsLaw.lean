/-
  TagForms: any fields have the document's forms, or are refused. For every list, no condition but that the table of the powers of ten is laid as the program's text lays it.
-/
import Derived.Test.YtennefdcjgjpiaaDoorTagRefForms
import Derived.Test.YtennefdcjgjpiaaDoorTagCame
import Derived.Test.YtennefdcjgjpiaaDoorCards
import Derived.Test.YtennefdcjgjpiaaDoorTie
namespace Go.Proofs.YtennefdcjgjpiaaDoor
open Go.ChangeShapes Go.WideShapes Go.ChangeAt Go.WideMaps Go.WideElems Go.RowKit Go.Lib

set_option maxRecDepth 1000000 in
set_option maxHeartbeats 8000000 in
theorem tagForms_walk (w : World) (va : Value) (L : List Fd) (hC : Came w va L) (P : Pow w) :
    Calls Tryd.prog 3 #[va] w fun e w' => e = .returned (.bool true) ∧ Below w.heap.size w w' := by
  have F0 := awake_any w P
  obtain ⟨hF, hmx⟩ := hC
  obtain ⟨a, cap, rfl, h1, h2, h3⟩ := id hF
  by_cases h : 100 < L.length
  · have t : (100 : Int) < (L.length : Int) := by omega
    clear h3
    go_enter Tryd.func3, Tryd.ntmps3
    go_wp2_with fail
    refine F0.mono ?_
    rintro e w1 ⟨rfl, hb⟩
    go_wp2_with fail
    go_ret
    exact ⟨rfl, hb⟩
  have t : ¬ (100 : Int) < (L.length : Int) := by omega
  go_enter Tryd.func3, Tryd.ntmps3
  go_wp2_with fail
  refine F0.mono ?_
  rintro e w1 ⟨rfl, hb1⟩
  go_wp2_with fail
  go_loopw [20] (fun i wr => ∃ k : Nat, i = .int .i64 (k : Int) ∧ k ≤ L.length ∧ (∀ j, (h : j < L.length) → j < k → (L[j]).2.size ≤ 1000) ∧ Below w.heap.size w wr) (fun i _ => L.length - (RowKit.intOf i).toNat)
  case atStart => exact ⟨0, rfl, by omega, fun j _ hj => absurd hj (by omega), hb1⟩
  case round =>
    clear hb1 F0
    obtain ⟨k, rfl, hk, hg, hB⟩ := hrel
    have HG : Hid (∀ j, (h : j < L.length) → j < k → (L[j]).2.size ≤ 1000) := hg
    clear hg
    have hz := hB.size
    have PW := P.still hB
    by_cases hlt : k < L.length
    · have t0 : (k : Int) < (L.length : Int) := by omega
      obtain ⟨b, off, rfl, c0, c1⟩ := h3 k hlt
      have d0 := (hB.cell (World.block_lt_of_cell? _ _ c0)).trans c0
      have d1 := (hB.cell (World.block_lt_of_cell? _ _ c1)).trans c1
      have hm1 := hmx k hlt
      unfold maxLen at hm1
      have HK : Hid ((L[k]).2.size ≤ 1000 → ∀ j, (h : j < L.length) → j < k + 1 → (L[j]).2.size ≤ 1000) := fun hs j h hj => if e : j = k then by subst e; exact hs else HG.out j h (by omega)
      obtain ⟨f, hf⟩ : ∃ f, L[k] = f := ⟨_, rfl⟩
      rw [hf] at d0 d1 hm1 HK
      have hB2 := hB.alloc hz (.cells #[.int .i64 f.1, .string f.2] 25)
      have P1 := PW.still ((Below.refl _ wr).alloc (Nat.le_refl _) (.cells #[.int .i64 f.1, .string f.2] 25))
      clear c0 c1 h3 hF hf hmx
      by_cases hs : f.2.size ≤ 1000
      · have t1 : ¬ (1000 : Int) < (f.2.size : Int) := by omega
        have F1 := form_any f.1 f.2 (wr.alloc (.cells #[.int .i64 f.1, .string f.2] 25)) (by omega) P1
        have F2 := fun w => refForm_any f.1 f.2 w (by omega)
        obtain ⟨x, e1, hX⟩ : ∃ x e1, formE (f.1, f.2) = (x, e1) := ⟨_, _, rfl⟩
        rw [hX] at F1 F2
        dsimp only at F1 F2
        have g1 : (mk x).toList == (mk x).toList := by simp
        have g2 : ((e1 : Int) != (e1 : Int)) = false := by simp
        have HS : Hid (∀ j, (h : j < L.length) → j < k + 1 → (L[j]).2.size ≤ 1000) := HK.out hs
        clear hX HK HG
        go_wp2_with fail
        refine F1.mono ?_
        rintro e w2 ⟨rfl, hb2⟩
        have hB3 := hB2.trans (hb2.mono (by simp; omega))
        have q0 : w2.cell? ⟨wr.heap.size, 0, none⟩ = some (.int .i64 f.1) := (hb2.cell (p := ⟨wr.heap.size, 0, none⟩) (by simp)).trans (by simp)
        have q1 : w2.cell? ⟨wr.heap.size, 1, none⟩ = some (.string f.2) := (hb2.cell (p := ⟨wr.heap.size, 1, none⟩) (by simp)).trans (by simp)
        have z3 := hB3.size
        go_wp2_with fail
        refine (F2 _).mono ?_
        rintro e w3 ⟨rfl, hb3⟩
        have hB4 := hB3.trans (hb3.mono z3)
        go_wp2_with fail
        go_roundw
        case rel => exact ⟨k + 1, by simp, by omega, HS.out, hB4⟩
        case measure => simp [RowKit.intOf]; omega
      · have t1 : (1000 : Int) < (f.2.size : Int) := by omega
        clear HK HG
        go_wp2_with fail
        go_ret
        exact ⟨rfl, hB2⟩
    · obtain rfl : k = L.length := by omega
      have t0 : ¬ (L.length : Int) < (L.length : Int) := by omega
      have hsz : ∀ i, (h : i < L.length) → (L[i]).2.size ≤ 1000000 := fun i h => by have := HG.out i h h; omega
      have F1 := forms_any _ L wr (hF.below hB (Nat.le_refl _)) hsz (by omega) PW
      have RW := hF.below hB (Nat.le_refl _)
      have HZ : Hid (∀ i, (h : i < L.length) → (L[i]).2.size ≤ 1000000) := hsz
      obtain ⟨x, e1, hX⟩ : ∃ x e1, formsE L = (x, e1) := ⟨_, _, rfl⟩
      rw [hX] at F1
      dsimp only at F1
      have g2 : ((e1 : Int) == (e1 : Int)) = true := by simp
      clear h3 hF hmx hsz HG
      go_wp2_with fail
      refine F1.mono ?_
      rintro e w2 ⟨rfl, hb2⟩
      have hB3 := hB.trans (hb2.mono hz)
      have F2 := plain_any _ L w2 (RW.below hb2 (Nat.le_refl _)) (by omega)
      clear RW
      go_wp2_with fail
      refine F2.mono ?_
      rintro e w3 ⟨v3, rfl, Q3⟩
      have hB4 := hB3.trans (Q3.below.mono hB3.size)
      have F3 := refForms_any v3 L w3 (flds_of_own Q3.own) HZ.out (by omega)
      rw [hX] at F3
      dsimp only at F3
      clear hX
      go_wp2_with fail
      refine F3.mono ?_
      rintro e w4 ⟨rfl, hb4⟩
      have hB5 := hB4.trans (hb4.mono hB4.size)
      go_wp2_with fail
      go_ret
      exact ⟨by simp, hB5⟩

set_option maxRecDepth 100000 in
theorem tagForms_lifted (os : Os) (started : os.Started) (H : Type) (enc : TypeId × Value → H) :
    ReturnsInHanded {} Tryd.checked os 3 .any (fun w args => (Rows.tagFormsSpec.pre enc Tryd.prog Tryd.f3 [] false w args ∧ laidMetH Tryd.prog Rows.tagFormsRow.laid w) ∧ sizedMet enc Tryd.prog Tryd.f3 (OpenSpec.ofChange Rows.tagFormsSpec) false w args)
      (Rows.tagFormsSpec.post enc Tryd.prog Tryd.f3 false true false false) := by
  refine returnsInHanded_of_change_and (C := Tryd.checked) (X := fun w _ => laidMetH Tryd.prog laid8 w) (fun _ _ _ hh h => h.of_heap hh) own8 started (by kernel_rfl) Tryd.func3
    (ChangeSpec.witness_shaped (enc := enc) (C := Tryd.checked) (os := os) (X := fun w _ => laidMetH Tryd.prog laid8 w) false (World.doorLaid Tryd.prog 400 os) #[.slice none 0 0] 8 rfl (World.shaped_of_RefB (by kernel_rfl) (by kernel_rfl)) (by kernel_rfl) (by kernel_rfl) (by kernel_rfl) (door_met os _)) ?_
  intro W base args ds gs before hval0 hW _ _ hL _
  have hval : ∀ (j : Nat) t v, Tryd.f3.params[j]? = some t → args[j]? = some v → Value.okWide Tryd.prog W .any base t v := hval0
  have hW' := hW
  obtain ⟨p, q, hA0, hV, rfl, hfz, hnd⟩ := hW
  have hA : DataW.TrodAll enc Tryd.prog W 0 (fun _ => true) true Tryd.f3.params.toList args.toList ds p := hA0
  rw [Tryd.params3] at hA hval
  obtain ⟨v0, vs0, d0, ds0, p0, q0, hargs, rfl, rfl, h0, r0⟩ := trodAll_cons hA
  obtain ⟨rfl, rfl, rfl⟩ := trodAll_nil r0
  obtain rfl : args = #[v0] := by cases args; simp_all
  obtain ⟨rfl, rfl⟩ := trodVars_none hV
  obtain ⟨ad0, n0, cap0, rfl⟩ := okWide_slice Tryd.underlying22 (hval 0 22 v0 rfl rfl)
  have k0 := h0
  have lt0 : ∀ x ∈ p0, x.block < W.heap.size := by obtain ⟨m, hm⟩ := k0; exact DataW.trod_lt m _ _ _ hm
  obtain ⟨L0, row0⟩ : ∃ L, Came W (.slice ad0 n0 cap0) L := by obtain ⟨fuel, hf⟩ := h0; exact open_flds hf
  clear hA0 hval0
  simp only [List.append_nil] at hW'
  refine (tagForms_walk W _ L0 row0 (pow_of_laid hL)).mono fun e W' ⟨he, bel⟩ => ?_
  subst he
  exact ⟨_, rfl, _, _, _, [], _, [], hW', trodAll_mk1 (shut_bool Tryd.underlying4 _), (trodAll_cons_mk (Below.trod laidOut8 (by kernel_rfl) (of_decide_eq_true (by kernel_rfl)) k0 bel lt0) trodAll_mk0), rfl, bel.frame _, fun h => by cases h⟩

/-- The row. -/
theorem tagForms_row : Rows.TagFormsSaid :=
  OpenClaim.holds_of_wide 3 Tryd.f3 rfl rfl rfl rfl rfl rfl rfl ⟨rfl, rfl, rfl, rfl, rfl⟩ rfl rfl rfl rfl rfl (by kernel_rfl) Tryd.func3 (by kernel_rfl)
    (of_decide_eq_true (by kernel_rfl)) (by unfold Func.isWrapper; first | (rw [if_pos (by decide +kernel)]; kernel_rfl) | (rw [if_neg (by decide +kernel)]; exact ⟨rfl, rfl⟩))
    (fun os started H enc _ => tagForms_lifted os started H enc)
/-- THE STATEMENT: the tied card. -/
theorem tagForms_proved : Rows.TagFormsCardSaid :=
  Claim7.holds_tied_plain_at .later [] Rows.tagFormsCard.laidKinds true Rows.tagFormsCard.stood.harness false
    tagForms_row (fun _ h => by cases h) (by kernel_rfl) (fun _ h => by cases h) tagForms_row_tie rfl ⟨rfl, rfl⟩ (by kernel_rfl) rfl
    (fun f fn hf hfn => by
      obtain rfl : f = 3 := Option.some.inj ((show Tryd.prog.funcNamed Rows.tagFormsRow.func = some 3 by kernel_rfl).symm.trans hf) |>.symm
      obtain rfl : fn = Tryd.f3 := (Option.some.inj (Tryd.func3.symm.trans hfn)).symm
      exact ⟨by kernel_rfl, fun j t ht => by
        rw [Tryd.params3] at ht
        have hm : t ∈ [22] := by simpa using Array.mem_of_getElem? ht
        have hall : ([22].all fun u => !Tryd.prog.wantsStandIn u) = true := by kernel_rfl
        exact (show Tryd.prog.wantsStandIn t = false by simpa using List.all_eq_true.1 hall t hm)⟩)
    (by kernel_rfl)
#print axioms tagForms_proved
end Go.Proofs.YtennefdcjgjpiaaDoor
