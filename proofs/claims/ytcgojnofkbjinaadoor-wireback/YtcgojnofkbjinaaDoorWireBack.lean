/-
  WireBack: what was sealed is opened, with anything behind it; cut off anywhere it is short. For every list, text and number, no condition but that the table of the powers of ten is laid as the program's text lays it.
-/
import Derived.Test.YtcgojnofkbjinaaDoorWireAwake
import Derived.Test.YtcgojnofkbjinaaDoorWireLaws
import Derived.Test.YtcgojnofkbjinaaDoorWireForms
import Derived.Test.YtcgojnofkbjinaaDoorTagCame
import Derived.Test.YtcgojnofkbjinaaDoorCards
import Derived.Test.YtcgojnofkbjinaaDoorTie
namespace Go.Proofs.YtcgojnofkbjinaaDoor
open Go.ChangeShapes Go.WideShapes Go.ChangeAt Go.WideMaps Go.WideElems Go.RowKit Go.Lib

set_option maxRecDepth 1000000 in
set_option maxHeartbeats 8000000 in
theorem wireBack_walk (w : World) (va : Value) (L : List Fd) (hC : Came w va L) (r : ByteArray) (hr : r.size ≤ maxLen) (cut : Int) (hcut : -9223372036854775808 ≤ cut ∧ cut ≤ 9223372036854775807) (P : Pow w) :
    Calls Tryd.prog 3 #[va, .string r, .int .i64 cut] w fun e w' => e = .returned (.bool true) ∧ Below w.heap.size w w' := by
  have F0 := awake10_any w
  obtain ⟨hF, hmx⟩ := hC
  obtain ⟨a, cap, rfl, h1, h2, h3⟩ := id hF
  unfold maxLen at hr
  by_cases h : 70 < L.length
  · have t : (70 : Int) < (L.length : Int) := by omega
    clear h3
    go_enter Tryd.func3, Tryd.ntmps3
    go_wp2_with fail
    refine F0.mono ?_
    rintro e w1 ⟨rfl, hb1⟩
    go_wp2_with fail
    go_ret
    exact ⟨rfl, hb1⟩
  have t : ¬ (70 : Int) < (L.length : Int) := by omega
  by_cases hr0 : 1000 < r.size
  · have t1 : (1000 : Int) < (r.size : Int) := by omega
    clear h3
    go_enter Tryd.func3, Tryd.ntmps3
    go_wp2_with fail
    refine F0.mono ?_
    rintro e w1 ⟨rfl, hb1⟩
    go_wp2_with fail
    go_ret
    exact ⟨rfl, hb1⟩
  have t1 : ¬ (1000 : Int) < (r.size : Int) := by omega
  by_cases hc0 : cut < 0
  · clear h3
    go_enter Tryd.func3, Tryd.ntmps3
    go_wp2_with fail
    refine F0.mono ?_
    rintro e w1 ⟨rfl, hb1⟩
    go_wp2_with fail
    go_ret
    exact ⟨rfl, hb1⟩
  go_enter Tryd.func3, Tryd.ntmps3
  go_wp2_with fail
  refine F0.mono ?_
  rintro e w1 ⟨rfl, hb1⟩
  go_wp2_with fail
  go_loopw [35] (fun i wr => ∃ k : Nat, i = .int .i64 (k : Int) ∧ k ≤ L.length ∧ Below w.heap.size w wr) (fun i _ => L.length - (RowKit.intOf i).toNat)
  case atStart => exact ⟨0, rfl, by omega, hb1⟩
  case round =>
    clear hb1 F0
    obtain ⟨k, rfl, hk, hB⟩ := hrel
    have hz := hB.size
    have PW := P.still hB
    by_cases hlt : k < L.length
    · have t0 : (k : Int) < (L.length : Int) := by omega
      obtain ⟨b, off, rfl, c0, c1⟩ := h3 k hlt
      have d0 := (hB.cell (World.block_lt_of_cell? _ _ c0)).trans c0
      have d1 := (hB.cell (World.block_lt_of_cell? _ _ c1)).trans c1
      have hm1 := hmx k hlt
      unfold maxLen at hm1
      obtain ⟨f, hf⟩ : ∃ f, L[k] = f := ⟨_, rfl⟩
      rw [hf] at d0 d1 hm1
      have hB2 := hB.alloc hz (.cells #[.int .i64 f.1, .string f.2] 25)
      clear c0 c1 h3 hF hf hmx
      by_cases hs : f.2.size ≤ 600
      · have t1 : ¬ (600 : Int) < (f.2.size : Int) := by omega
        go_wp2_with fail
        go_roundw
        case rel => exact ⟨k + 1, by simp, by omega, hB2⟩
        case measure => simp [RowKit.intOf]; omega
      · have t1 : (600 : Int) < (f.2.size : Int) := by omega
        go_wp2_with fail
        go_ret
        exact ⟨rfl, hB2⟩
    · obtain rfl : k = L.length := by omega
      have t0 : ¬ (L.length : Int) < (L.length : Int) := by omega
      have RW := hF.below hB (Nat.le_refl _)
      have F1 := forms_all _ L wr RW (by omega) PW
      obtain ⟨x, e1, hX⟩ : ∃ x e1, formsE L = (x, e1) := ⟨_, _, rfl⟩
      rw [hX] at F1
      dsimp only at F1
      clear h3 hF hmx RW
      by_cases he : e1 = 0
      · subst he
        have F2 := fun w => seal_any (mk x) w
        rw [mk_list] at F2
        by_cases hl : x.length < 1 ∨ 4096 < x.length
        · have hS : sealE x = ([], 102) := by
            unfold sealE
            rw [if_pos hl]
          rw [hS] at F2
          dsimp only at F2
          have hsz := mk_size x
          clear hX hS
          by_cases hl1 : x.length = 0
          · have u1 : (((mk x).size : Int) == 0) = true := by rw [hsz, hl1]; rfl
            clear hl hl1 hsz
            generalize mk x = X at *
            go_wp2_with fail
            refine F1.mono ?_
            rintro e w2 ⟨rfl, hb2⟩
            have hB3 := hB.trans (hb2.mono hz)
            go_wp2_with fail
            refine (F2 _).mono ?_
            rintro e w3 ⟨rfl, hb3⟩
            have hB4 := hB3.trans (hb3.mono hB3.size)
            go_wp2_with fail
            go_ret
            exact ⟨rfl, hB4⟩
          · have u1 : (((mk x).size : Int) == 0) = false := beq_false_of_ne (by omega)
            have u2 : (4096 : Int) < ((mk x).size : Int) := by omega
            clear hl hl1 hsz
            generalize mk x = X at *
            go_wp2_with fail
            refine F1.mono ?_
            rintro e w2 ⟨rfl, hb2⟩
            have hB3 := hB.trans (hb2.mono hz)
            go_wp2_with fail
            refine (F2 _).mono ?_
            rintro e w3 ⟨rfl, hb3⟩
            have hB4 := hB3.trans (hb3.mono hB3.size)
            go_wp2_with fail
            go_ret
            exact ⟨rfl, hB4⟩
        · have hS : sealE x = (formL x, 0) := by
            unfold sealE
            rw [if_neg hl, if_pos (forms_fields hX)]
          obtain ⟨ho, _, _, _, _⟩ := open_seal r.data.toList hS
          have hfl := form_len x
          have hbf := body_fit (b := x) (by omega)
          have hrl := size_eq r
          obtain ⟨C, rfl⟩ : ∃ C : Nat, cut = (C : Int) := ⟨cut.toNat, by omega⟩
          have hkl : C % (formL x).length < (formL x).length := Nat.mod_lt _ (by omega)
          have hoc := open_cut hS _ hkl
          have F3 := fun w => open_any (mk (formL x ++ r.data.toList)) w (by rw [mk_size, List.length_append]; omega)
          rw [mk_list, ho] at F3
          have F4 := fun w => open_any (mk ((formL x).take (C % (formL x).length))) w (by rw [mk_size, List.length_take]; omega)
          rw [mk_list, hoc] at F4
          rw [hS] at F2
          dsimp only at F2 F3 F4
          have hj : ∀ w, (Op.stringOp .add (mk (formL x)) r).run Tryd.prog w = .ok (.string (mk (formL x ++ r.data.toList))) w := add_run _ _ _ (by rw [← mk_add, list_mk]) (by rw [mk_size]; omega) (by omega)
          have hms := mk_size (formL x)
          have hex : (mk (formL x)).extract 0 (C % (mk (formL x)).size) = mk ((formL x).take (C % (formL x).length)) := by rw [ext_head, mk_list, hms]
          rw [← hms] at F3
          have u1 : (((mk (formL x)).size : Int) == ((mk (formL x)).size : Int)) = true := by simp
          have u2 : ((mk x).toList == (mk x).toList) = true := by simp
          have u3 : C % (mk (formL x)).size < (mk (formL x)).size := by rw [hms]; exact hkl
          have u4 : (mk (formL x)).size ≤ 5000 := by omega
          have u5 : 0 < (mk (formL x)).size := by omega
          clear hX hS ho hfl hbf hoc hkl hl hms hrl
          generalize mk ((formL x).take (C % (formL x).length)) = K at *
          generalize mk (formL x ++ r.data.toList) = J at *
          generalize mk (formL x) = M at *
          generalize mk x = X at *
          go_wp2_with fail
          refine F1.mono ?_
          rintro e w2 ⟨rfl, hb2⟩
          have hB3 := hB.trans (hb2.mono hz)
          go_wp2_with fail
          refine (F2 _).mono ?_
          rintro e w3 ⟨rfl, hb3⟩
          have hB4 := hB3.trans (hb3.mono hB3.size)
          clear hb2 hb3 hB3 F1 F2
          go_wp2_with fail
          refine (F3 _).mono ?_
          rintro e w4 ⟨rfl, hb4⟩
          have hB5 := hB4.trans (hb4.mono hB4.size)
          clear hb4 hB4 F3
          go_wp2_with fail
          refine (F4 _).mono ?_
          rintro e w5 ⟨rfl, hb5⟩
          have hB6 := hB5.trans (hb5.mono hB5.size)
          clear hb5 hB5 F4
          go_wp2_with fail
          go_ret
          exact ⟨rfl, hB6⟩
      · have hx0 := forms_err (L := L) (by rw [hX]; exact he)
        rw [hX] at hx0
        dsimp only at hx0
        subst hx0
        have u1 : ((e1 : Int) == 0) = false := beq_false_of_ne (by omega)
        rw [show mk [] = ⟨#[]⟩ from rfl] at F1
        clear hX he
        go_wp2_with fail
        refine F1.mono ?_
        rintro e w2 ⟨rfl, hb2⟩
        have hB3 := hB.trans (hb2.mono hz)
        go_wp2_with fail
        go_ret
        exact ⟨rfl, hB3⟩

set_option maxRecDepth 100000 in
theorem wireBack_lifted (os : Os) (started : os.Started) (H : Type) (enc : TypeId × Value → H) :
    ReturnsInHanded {} Tryd.checked os 3 .any (fun w args => (Rows.wireBackSpec.pre enc Tryd.prog Tryd.f3 [] false w args ∧ laidMetH Tryd.prog Rows.wireBackRow.laid w) ∧ sizedMet enc Tryd.prog Tryd.f3 (OpenSpec.ofChange Rows.wireBackSpec) false w args)
      (Rows.wireBackSpec.post enc Tryd.prog Tryd.f3 false true false false) := by
  refine returnsInHanded_of_change_and (C := Tryd.checked) (X := fun w _ => laidMetH Tryd.prog laid8 w) (fun _ _ _ hh h => h.of_heap hh) own8 started (by kernel_rfl) Tryd.func3
    (ChangeSpec.witness_shaped (enc := enc) (C := Tryd.checked) (os := os) (X := fun w _ => laidMetH Tryd.prog laid8 w) false (World.doorLaid Tryd.prog 400 os) #[.slice none 0 0, .string ⟨#[]⟩, .int .i64 0] 8 rfl (World.shaped_of_RefB (by kernel_rfl) (by kernel_rfl)) (by kernel_rfl) (by kernel_rfl) (by kernel_rfl) (door_met os _)) ?_
  intro W base args ds gs before hval0 hW _ _ hL _
  have hval : ∀ (j : Nat) t v, Tryd.f3.params[j]? = some t → args[j]? = some v → Value.okWide Tryd.prog W .any base t v := hval0
  have hW' := hW
  obtain ⟨p, q, hA0, hV, rfl, hfz, hnd⟩ := hW
  have hA : DataW.TrodAll enc Tryd.prog W 0 (fun _ => true) true Tryd.f3.params.toList args.toList ds p := hA0
  rw [Tryd.params3] at hA hval
  obtain ⟨v0, vs0, d0, ds0, p0, q0, hargs, rfl, rfl, h0, r0⟩ := trodAll_cons hA
  obtain ⟨v1, vs1, d1, ds1, p1, q1, rfl, rfl, rfl, h1, r1⟩ := trodAll_cons r0
  obtain ⟨v2, vs2, d2, ds2, p2, q2, rfl, rfl, rfl, h2, r2⟩ := trodAll_cons r1
  obtain ⟨rfl, rfl, rfl⟩ := trodAll_nil r2
  obtain rfl : args = #[v0, v1, v2] := by cases args; simp_all
  obtain ⟨rfl, rfl⟩ := trodVars_none hV
  obtain ⟨ad0, n0, cap0, rfl⟩ := okWide_slice Tryd.underlying22 (hval 0 22 v0 rfl rfl)
  have k0 := h0
  have lt0 : ∀ x ∈ p0, x.block < W.heap.size := by obtain ⟨m, hm⟩ := k0; exact DataW.trod_lt m _ _ _ hm
  obtain ⟨L0, row0⟩ : ∃ L, Came W (.slice ad0 n0 cap0) L := by obtain ⟨fuel, hf⟩ := h0; exact open_flds hf
  obtain ⟨s1, rfl, rfl, rfl, w1⟩ := Go.ChangeMaps.open_string Tryd.underlying9 (hval 1 9 v1 rfl rfl) h1
  obtain ⟨a2, rfl, rfl, rfl, w2⟩ := open_int Tryd.underlying3 (hval 2 3 v2 rfl rfl) h2
  have bd2 := bounds_i64 w2
  clear hA0 hval0
  simp only [List.append_nil] at hW'
  refine (wireBack_walk W _ L0 row0 s1 w1 a2 bd2 (pow_of_laid hL)).mono fun e W' ⟨he, bel⟩ => ?_
  subst he
  exact ⟨_, rfl, _, _, _, [], _, [], hW', trodAll_mk1 (shut_bool Tryd.underlying4 _), (trodAll_cons_mk (Below.trod laidOut8 (by kernel_rfl) (of_decide_eq_true (by kernel_rfl)) k0 bel lt0) (trodAll_cons_mk (Go.ChangeMaps.shut_string Tryd.underlying9 w1) (trodAll_cons_mk (shut_int Tryd.underlying3 w2) trodAll_mk0))), rfl, bel.frame _, fun h => by cases h⟩

/-- The row. -/
theorem wireBack_row : Rows.WireBackSaid :=
  OpenClaim.holds_of_wide 3 Tryd.f3 rfl rfl rfl rfl rfl rfl rfl ⟨rfl, rfl, rfl, rfl, rfl⟩ rfl rfl rfl rfl rfl (by kernel_rfl) Tryd.func3 (by kernel_rfl)
    (of_decide_eq_true (by kernel_rfl)) (by unfold Func.isWrapper; first | (rw [if_pos (by decide +kernel)]; kernel_rfl) | (rw [if_neg (by decide +kernel)]; exact ⟨rfl, rfl⟩))
    (fun os started H enc _ => wireBack_lifted os started H enc)
/-- THE STATEMENT: the tied card. -/
theorem wireBack_proved : Rows.WireBackCardSaid :=
  Claim7.holds_tied_plain_at .later [] Rows.wireBackCard.laidKinds true Rows.wireBackCard.stood.harness Rows.wireBackCard.stood.looks
    wireBack_row (fun _ h => by cases h) (by kernel_rfl) (fun _ h => by cases h) wireBack_row_tie rfl ⟨rfl, rfl⟩ (by kernel_rfl) rfl
    (fun f fn hf hfn => by
      obtain rfl : f = 3 := Option.some.inj ((show Tryd.prog.funcNamed Rows.wireBackRow.func = some 3 by kernel_rfl).symm.trans hf) |>.symm
      obtain rfl : fn = Tryd.f3 := (Option.some.inj (Tryd.func3.symm.trans hfn)).symm
      exact ⟨by kernel_rfl, fun j t ht => by
        rw [Tryd.params3] at ht
        have hm : t ∈ [22, 9, 3] := by simpa using Array.mem_of_getElem? ht
        have hall : ([22, 9, 3].all fun u => !Tryd.prog.wantsStandIn u) = true := by kernel_rfl
        exact (show Tryd.prog.wantsStandIn t = false by simpa using List.all_eq_true.1 hall t hm)⟩)
    (by kernel_rfl)
#print axioms wireBack_proved
end Go.Proofs.YtcgojnofkbjinaaDoor
