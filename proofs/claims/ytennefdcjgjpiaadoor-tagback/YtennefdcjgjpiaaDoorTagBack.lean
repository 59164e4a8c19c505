/-
  TagBack: fields that are formed are read as they were, to the last byte; cut off between two runes all that is whole is told, and the rest is open. For every list and every number, no condition but that the table of the powers of ten is laid as the program's text lays it.
-/
import Derived.Test.YtennefdcjgjpiaaDoorTagCut
import Derived.Test.YtennefdcjgjpiaaDoorTagFields
import Derived.Test.YtennefdcjgjpiaaDoorTagRefForms
import Derived.Test.YtennefdcjgjpiaaDoorTagCame
import Derived.Test.YtennefdcjgjpiaaDoorCards
import Derived.Test.YtennefdcjgjpiaaDoorTie
namespace Go.Proofs.YtennefdcjgjpiaaDoor
open Go.ChangeShapes Go.WideShapes Go.ChangeAt Go.WideMaps Go.WideElems Go.RowKit Go.Lib

theorem digits_pow : ∀ (k n : Nat), n < 10 ^ (k + 1) → (decDigits n).length ≤ k + 1
  | 0, n, h => by rw [decDigits_one (by omega)]; simp
  | k + 1, n, h => by
    by_cases h1 : n < 10
    · rw [decDigits_one h1]; simp
    · rw [decDigits, dif_neg h1, List.length_append]
      have := digits_pow k (n / 10) (by rw [Nat.pow_succ] at h; omega)
      simp only [List.length_cons, List.length_nil]
      omega
theorem cat_len : ∀ L : List Fd, AllOk L → (cat L).length ≤ L.length * 600
  | [], _ => by simp [cat]
  | f :: r, h => by
    obtain ⟨h1, h2⟩ := AllOk.cons.1 h
    obtain ⟨a1, a2, a3, a4⟩ := formE_ok (ok_form h1)
    have h3 := cat_len r h2
    have h4 := digits_pow 4 f.1.toNat (by omega)
    have h5 := a3.2.1
    rw [cat, a4]
    simp only [List.length_append, List.length_cons, List.length_nil]
    omega
/-- All that is behind the forms: read again, cut off, read once more. -/
theorem back_all {L : List Fd} {x : List UInt8} (h : formsE L = (x, 0)) : L.length ≤ 64 ∧ AllOk L ∧ x.length ≤ 40000 ∧ Clean x ∧ fieldsL x = (L, x.length, 0) ∧
    ∀ p, Clean (x.take p) → ∃ m n g, fieldsL (x.take p) = (L.take m, n, g) ∧ m ≤ L.length ∧ (g = 0 ∧ n = (x.take p).length ∨ g = 82 ∧ n < (x.take p).length) := by
  obtain ⟨h1, h2, rfl⟩ := forms_inv h
  refine ⟨h1, h2, ?_, cat_clean L h2, ?_, ?_⟩
  · have := cat_len L h2
    omega
  · unfold fieldsL
    rw [fieldsA_back L 64 [] 0 h2 h1]
    simp
  · intro p hc
    obtain ⟨m, n, g, e1, e2, e3⟩ := fieldsA_cut L ((cat L).take p) ((cat L).drop p) 64 [] 0 h2 h1 (List.take_append_drop _ _).symm hc
    refine ⟨m, n, g, ?_, e2, e3⟩
    unfold fieldsL
    rw [e1]
    simp
/-- Of a list that comes in the first m are a list. -/
theorem Flds.first {w : World} {a : Option Addr} {cap m : Nat} {L : List Fd} (h : Flds w (.slice a L.length cap) L) (hm : m ≤ L.length) : Flds w (.slice a m cap) (L.take m) := by
  obtain ⟨a', cap', e, h1, h2, h3⟩ := h
  injection e with e1 _ e3
  subst e1 e3
  have hl : (L.take m).length = m := by rw [List.length_take]; omega
  refine ⟨a, cap, by rw [hl], by rw [hl]; omega, h2, fun i hi => ?_⟩
  rw [hl] at hi
  rw [List.getElem_take]
  exact h3 i (by omega)
set_option maxRecDepth 1000000 in
set_option maxHeartbeats 8000000 in
theorem tagBack_walk (w : World) (va : Value) (L : List Fd) (hC : Came w va L) (cut : Int) (hcut : -9223372036854775808 ≤ cut ∧ cut ≤ 9223372036854775807) (P : Pow w) :
    Calls Tryd.prog 5 #[va, .int .i64 cut] w fun e w' => e = .returned (.bool true) ∧ Below w.heap.size w w' := by
  have F0 := awake_any w P
  obtain ⟨hF, hmx⟩ := hC
  obtain ⟨a, cap, rfl, h1, h2, h3⟩ := id hF
  by_cases h : 70 < L.length
  · have t : (70 : Int) < (L.length : Int) := by omega
    clear h3
    go_enter Tryd.func5, Tryd.ntmps5
    go_wp2_with fail
    refine F0.mono ?_
    rintro e w1 ⟨rfl, hb⟩
    go_wp2_with fail
    go_ret
    exact ⟨rfl, hb⟩
  have t : ¬ (70 : Int) < (L.length : Int) := by omega
  by_cases hc0 : cut < 0
  · clear h3
    go_enter Tryd.func5, Tryd.ntmps5
    go_wp2_with fail
    refine F0.mono ?_
    rintro e w1 ⟨rfl, hb⟩
    go_wp2_with fail
    go_ret
    exact ⟨rfl, hb⟩
  go_enter Tryd.func5, Tryd.ntmps5
  go_wp2_with fail
  refine F0.mono ?_
  rintro e w1 ⟨rfl, hb1⟩
  go_wp2_with fail
  go_loopw [28] (fun i wr => ∃ k : Nat, i = .int .i64 (k : Int) ∧ k ≤ L.length ∧ (∀ j, (h : j < L.length) → j < k → (L[j]).2.size ≤ 600) ∧ Below w.heap.size w wr) (fun i _ => L.length - (RowKit.intOf i).toNat)
  case atStart => exact ⟨0, rfl, by omega, fun j _ hj => absurd hj (by omega), hb1⟩
  case round =>
    clear hb1 F0
    obtain ⟨k, rfl, hk, hg, hB⟩ := hrel
    have HG : Hid (∀ j, (h : j < L.length) → j < k → (L[j]).2.size ≤ 600) := hg
    clear hg
    have hz := hB.size
    have PW := P.still hB
    by_cases hlt : k < L.length
    · have t0 : (k : Int) < (L.length : Int) := by omega
      obtain ⟨b, off, rfl, c0, c1⟩ := h3 k hlt
      have d0 := (hB.cell (World.block_lt_of_cell? _ _ c0)).trans c0
      have d1 := (hB.cell (World.block_lt_of_cell? _ _ c1)).trans c1
      have hm1 := hmx k hlt
      unfold maxLen at hm1
      have HK : Hid ((L[k]).2.size ≤ 600 → ∀ j, (h : j < L.length) → j < k + 1 → (L[j]).2.size ≤ 600) := fun hs j h hj => if e : j = k then by subst e; exact hs else HG.out j h (by omega)
      obtain ⟨f, hf⟩ : ∃ f, L[k] = f := ⟨_, rfl⟩
      rw [hf] at d0 d1 hm1 HK
      have hB2 := hB.alloc hz (.cells #[.int .i64 f.1, .string f.2] 25)
      clear c0 c1 h3 hF hf hmx
      by_cases hs : f.2.size ≤ 600
      · have t1 : ¬ (600 : Int) < (f.2.size : Int) := by omega
        have HS : Hid (∀ j, (h : j < L.length) → j < k + 1 → (L[j]).2.size ≤ 600) := HK.out hs
        clear HK HG
        go_wp2_with fail
        go_roundw
        case rel => exact ⟨k + 1, by simp, by omega, HS.out, hB2⟩
        case measure => simp [RowKit.intOf]; omega
      · have t1 : (600 : Int) < (f.2.size : Int) := by omega
        clear HK HG
        go_wp2_with fail
        go_ret
        exact ⟨rfl, hB2⟩
    · obtain rfl : k = L.length := by omega
      have t0 : ¬ (L.length : Int) < (L.length : Int) := by omega
      have RW := hF.below hB (Nat.le_refl _)
      have F1 := forms_any _ L wr RW (fun i h => by have := HG.out i h h; omega) (by omega) PW
      obtain ⟨x, e1, hX⟩ : ∃ x e1, formsE L = (x, e1) := ⟨_, _, rfl⟩
      rw [hX] at F1
      dsimp only at F1
      have HAA : Hid (0 < L.length → ∃ b off, a = some ⟨b, off, none⟩) := fun h0 => by
        obtain ⟨b, off, e, _⟩ := h3 0 h0
        exact ⟨b, off, e⟩
      clear h3 hF hmx HG
      by_cases he : e1 = 0
      · subst he
        obtain ⟨n64, ok, xlen, xcl, fx, fcut⟩ := back_all hX
        have F2 := fun w => fields_any (mk x) w (by rw [mk_size]; omega)
        rw [mk_list, fx] at F2
        dsimp only at F2
        have hsz : (mk x).size = x.length := mk_size x
        have g0 : ((x.length : Int) != (x.length : Int)) = false := by simp
        have HCUT : Hid (∀ p, Clean (x.take p) → ∃ m n g, fieldsL (x.take p) = (L.take m, n, g) ∧ m ≤ L.length ∧ (g = 0 ∧ n = (x.take p).length ∨ g = 82 ∧ n < (x.take p).length)) := fcut
        have HCL : Hid (Clean x) := xcl
        have HNE : Hid (¬ (runesL x).length = 0 → 0 < L.length) := fun h0 => by
          by_cases e : L.length = 0
          · exfalso
            apply h0
            have e2 : L = [] := List.eq_nil_of_length_eq_zero e
            have e3 := (forms_inv hX).2.2
            rw [e2] at e3
            rw [e3]
            rfl
          · omega
        clear fx fcut xcl hX ok
        go_wp2_with fail
        refine F1.mono ?_
        rintro e w2 ⟨rfl, hb2⟩
        have hB3 := hB.trans (hb2.mono hz)
        have R2 := RW.below hb2 (Nat.le_refl _)
        clear RW F1
        go_wp2_with fail
        refine (F2 _).mono ?_
        rintro e w3 ⟨v3, rfl, Q3⟩
        have hB4 := hB3.trans (Q3.below.mono hB3.size)
        have R3 := R2.below Q3.below (Nat.le_refl _)
        have F3 := plain_any v3 L w3 (flds_of_own Q3.own) (by omega)
        clear R2 F2 Q3
        go_wp2_with fail
        refine F3.mono ?_
        rintro e w4 ⟨v4, rfl, Q4⟩
        have hB5 := hB4.trans (Q4.below.mono hB4.size)
        have R4 := R3.below Q4.below (Nat.le_refl _)
        have F4 := plain_any _ L w4 R4 (by omega)
        clear R3 F3
        go_wp2_with fail
        refine F4.mono ?_
        rintro e w5 ⟨v5, rfl, Q5⟩
        have hB6 := hB5.trans (Q5.below.mono hB5.size)
        have R5 := R4.below Q5.below (Nat.le_refl _)
        have F5 := same_yes v4 v5 L w5 (flds_of_own (own_below Q4.own Q5.below)) (flds_of_own Q5.own) (by omega)
        clear R4 F4 Q4 Q5
        go_wp2_with fail
        refine F5.mono ?_
        rintro e w6 ⟨rfl, hb6⟩
        have hB7 := hB6.trans (hb6.mono hB6.size)
        have R6 := R5.below hb6 (Nat.le_refl _)
        obtain ⟨C, A, hCl, hcm, hAs, hcell, hconv⟩ := conv_any (mk x) (by rw [mk_size]; omega) w6
        rw [mk_list] at hCl hAs hcell hconv
        have hrl := runesL_le x
        have HCR := cut_runes x
        have HA : Hid (∀ k, (h : k < (runesL x).length) → A[k]? = some (.int .i32 ((runesL x)[k] : Int))) := hcell
        unfold maxLen at hcm
        have hB8 : Below w.heap.size w (w6.alloc (.cells A 21)).drew := (hB7.alloc hB7.size _).drew
        have R7 := R6.below (((Below.refl _ w6).alloc (Nat.le_refl _) (.cells A 21)).drew) (Nat.le_refl _)
        clear R5 F5 R6 hcell
        by_cases hr0 : (runesL x).length = 0
        · have u0 : (((runesL x).length : Int) == 0) = true := by simp [hr0]
          generalize runesL x = rs at *
          go_wp2_with fail
          go_ret
          exact ⟨rfl, hB8⟩
        · have u0 : (((runesL x).length : Int) == 0) = false := beq_false_of_ne (by omega)
          have u1 : ¬ (runesL x).length = 0 := hr0
          have hL0 := HNE.out hr0
          obtain ⟨ba, oa, rfl⟩ := HAA.out hL0
          obtain ⟨j, hj⟩ : ∃ j : Nat, (j : Int) = cut % ((runesL x).length : Int) := ⟨(cut % ((runesL x).length : Int)).toNat, by
            have := Int.emod_nonneg cut (b := ((runesL x).length : Int)) (by omega)
            omega⟩
          have hjl : j < (runesL x).length := by
            have := Int.emod_lt_of_pos cut (b := ((runesL x).length : Int)) (by omega)
            omega
          have r1 : cut.tmod ((runesL x).length : Int) = (j : Int) := by rw [Int.tmod_eq_emod_of_nonneg (by omega)]; exact hj.symm
          have r2 : cut % ((runesL x).length : Int) = (j : Int) := hj.symm
          obtain ⟨p, hp1, hp2⟩ := HCR j HCL.out
          obtain ⟨m, n, g, hf1, hm, hg1⟩ := HCUT.out p hp2
          have zl : ((runesL x).map fun c : Nat => (c : Int)).length = (runesL x).length := List.length_map _
          have hcv := run_convert_runes (P := Tryd.prog) (w6.alloc (.cells A 21)).drew 47 9 21 ⟨w6.heap.size, 0, none⟩ j C ((runesL x).map fun c : Nat => (c : Int)) (by rw [zl]; omega) Tryd.underlying47 Tryd.underlying21 Tryd.underlying9 (fun i hi => by
            rw [zl] at hi
            rw [Addr.add_lit, Nat.zero_add]
            show (w6.alloc _).cell? _ = _
            rw [World.cell?_alloc_new, HA.out i hi]
            simp [List.getD, hi])
          obtain ⟨bg, hbg⟩ : ∃ bg, runesBytes (((runesL x).map fun c : Nat => (c : Int)).take j) = bg := ⟨_, rfl⟩
          rw [hbg] at hcv hp1
          have bsz : bg.size = (x.take p).length := by rw [size_eq, hp1]
          have bsz2 : bg.size ≤ 40000 := by rw [bsz, List.length_take]; omega
          have F6 := fun w => fields_any bg w (by omega)
          rw [hp1, hf1] at F6
          dsimp only at F6
          rw [← bsz] at hg1
          have jC : (j : Int) ≤ (C : Int) := by omega
          have jC2 : j ≤ C := by omega
          have HM : Hid ((L.take m).length = m) := by show (L.take m).length = m; rw [List.length_take]; omega
          clear HCR HCUT HCL HA hp1 hp2 hf1 zl hbg bsz hj hr0 u0 hsz
          have u0 : (((runesL x).length : Int) == 0) = false := beq_false_of_ne (by omega)
          generalize (runesL x).length = rl at *
          go_wp2_with fail
          refine (F6 _).mono ?_
          rintro e w7 ⟨v7, rfl, Q7⟩
          have hB9 := hB8.trans (Q7.below.mono hB8.size)
          have R8 := R7.below Q7.below (Nat.le_refl _)
          obtain ⟨a7, c7, rfl⟩ := Q7.shape
          rw [HM.out]
          have FM : Flds w7 (.slice a7 m c7) (L.take m) := by
            have := flds_of_own Q7.own
            rw [HM.out] at this
            exact this
          have FL : Flds w7 (.slice (some ⟨ba, oa, none⟩) m cap) (L.take m) := R8.first hm
          have FM0 := FM.below ((Below.refl w7.heap.size w7).drew) (Nat.le_refl _)
          have FL0 := FL.below ((Below.refl w7.heap.size w7).drew) (Nat.le_refl _)
          have G : ∀ W v, Flds W v (L.take m) → Calls Tryd.prog 12 #[v] W fun e w' => ∃ v, e = .returned v ∧ Flds w' v (L.take m) ∧ Below W.heap.size W w' := fun W v h => by
            refine (plain_any v (L.take m) W h (by rw [HM.out]; omega)).mono ?_
            rintro e w' ⟨v', rfl, Q'⟩
            exact ⟨v', rfl, flds_of_own Q'.own, Q'.below⟩
          have SM : ∀ W v v', Flds W v (L.take m) → Flds W v' (L.take m) → Calls Tryd.prog 17 #[v, v'] W fun e w' => e = .returned (.bool true) ∧ Below W.heap.size W w' := fun W v v' h h' => same_yes v v' (L.take m) W h h' (by rw [HM.out]; omega)
          have y0 : ¬ (L.length : Int) < (m : Int) := by omega
          have y1 : (m : Int) ≤ (cap : Int) := by omega
          have y2 : m ≤ cap := by omega
          have y3 : ¬ L.length < m := by omega
          have tok : True := trivial
          obtain ⟨tg, htg⟩ : ∃ tg, w7.cell? ⟨ba, oa, none⟩ = some (.int .i64 tg) := by
            obtain ⟨a', cap', e', _, _, hcc⟩ := id R8
            injection e' with e1 _ _
            obtain ⟨b', o', e2, c0, _⟩ := hcc 0 hL0
            rw [← e1] at e2
            injection e2 with e2
            injection e2 with e3 e4
            subst e3 e4
            exact ⟨_, by simpa using c0⟩
          have HB9 : Hid (Below w.heap.size w w7) := hB9
          clear FM FL R7 R8 Q7 F6 hcv hB9
          go_wp2_with fail
          go_region_held3 (fun w' => w'.cell? ⟨ba, oa, none⟩ = some (.int .i64 tg)) (go_keep) (first
            | (go_at_call 12; first
              | (have _t := tok; refine (G _ _ ?_).mono ?_; (first | exact FM0 | exact FL0); rintro e w8 ⟨x8, rfl, X8, k8⟩; clear tok; have FM8 := FM0.below k8 (Nat.le_refl _); have FL8 := FL0.below k8 (Nat.le_refl _); have htg8 : w8.cell? ⟨ba, oa, none⟩ = some (.int .i64 tg) := (k8.cell (World.block_lt_of_cell? _ _ htg)).trans htg)
              | (refine (G _ _ ?_).mono ?_; (first | exact FM8 | exact FL8); rintro e w9 ⟨x9, rfl, X9, k9⟩; have Y8 := X8.below k9 (Nat.le_refl _); have htg9 : w9.cell? ⟨ba, oa, none⟩ = some (.int .i64 tg) := (k9.cell (World.block_lt_of_cell? _ _ htg8)).trans htg8))
            | (go_at_call 17; refine (SM _ _ _ ?_ ?_).mono ?_; (first | exact Y8 | exact X9); (first | exact Y8 | exact X9); rintro e w10 ⟨rfl, k10⟩; have htg10 : w10.cell? ⟨ba, oa, none⟩ = some (.int .i64 tg) := (k10.cell (World.block_lt_of_cell? _ _ htg9)).trans htg9))
          all_goals
            have B8 := HB9.out.trans ((below_of_drew k8).mono HB9.out.size)
            have B9 := B8.trans (k9.mono B8.size)
            have B10 := B9.trans (k10.mono B9.size)
            rcases hg1 with ⟨rfl, rfl⟩ | ⟨rfl, hn⟩
            · have o1 : ((bg.size : Int) == (bg.size : Int)) = true := by simp
              go_wp2_with fail
              go_ret
              exact ⟨rfl, B10⟩
            · have o1 : (n : Int) < (bg.size : Int) := by omega
              go_wp2_with fail
              go_ret
              exact ⟨rfl, B10⟩
      · have hx0 : x = [] := by have := forms_err (L := L) (by rw [hX]; exact he); rw [hX] at this; exact this
        subst hx0
        have t2 : ((e1 : Int) == 0) = false := beq_false_of_ne (by omega)
        have e0 : mk [] = ⟨#[]⟩ := rfl
        rw [e0] at F1
        clear hX RW e0
        go_wp2_with fail
        refine F1.mono ?_
        rintro e w2 ⟨rfl, hb2⟩
        have hB3 := hB.trans (hb2.mono hz)
        go_wp2_with fail
        go_ret
        exact ⟨rfl, hB3⟩

set_option maxRecDepth 100000 in
theorem tagBack_lifted (os : Os) (started : os.Started) (H : Type) (enc : TypeId × Value → H) :
    ReturnsInHanded {} Tryd.checked os 5 .any (fun w args => (Rows.tagBackSpec.pre enc Tryd.prog Tryd.f5 [] false w args ∧ laidMetH Tryd.prog Rows.tagBackRow.laid w) ∧ sizedMet enc Tryd.prog Tryd.f5 (OpenSpec.ofChange Rows.tagBackSpec) false w args)
      (Rows.tagBackSpec.post enc Tryd.prog Tryd.f5 false true false false) := by
  refine returnsInHanded_of_change_and (C := Tryd.checked) (X := fun w _ => laidMetH Tryd.prog laid8 w) (fun _ _ _ hh h => h.of_heap hh) own8 started (by kernel_rfl) Tryd.func5
    (ChangeSpec.witness_shaped (enc := enc) (C := Tryd.checked) (os := os) (X := fun w _ => laidMetH Tryd.prog laid8 w) false (World.doorLaid Tryd.prog 400 os) #[.slice none 0 0, .int .i64 0] 8 rfl (World.shaped_of_RefB (by kernel_rfl) (by kernel_rfl)) (by kernel_rfl) (by kernel_rfl) (by kernel_rfl) (door_met os _)) ?_
  intro W base args ds gs before hval0 hW _ _ hL _
  have hval : ∀ (j : Nat) t v, Tryd.f5.params[j]? = some t → args[j]? = some v → Value.okWide Tryd.prog W .any base t v := hval0
  have hW' := hW
  obtain ⟨p, q, hA0, hV, rfl, hfz, hnd⟩ := hW
  have hA : DataW.TrodAll enc Tryd.prog W 0 (fun _ => true) true Tryd.f5.params.toList args.toList ds p := hA0
  rw [Tryd.params5] at hA hval
  obtain ⟨v0, vs0, d0, ds0, p0, q0, hargs, rfl, rfl, h0, r0⟩ := trodAll_cons hA
  obtain ⟨v1, vs1, d1, ds1, p1, q1, rfl, rfl, rfl, h1, r1⟩ := trodAll_cons r0
  obtain ⟨rfl, rfl, rfl⟩ := trodAll_nil r1
  obtain rfl : args = #[v0, v1] := by cases args; simp_all
  obtain ⟨rfl, rfl⟩ := trodVars_none hV
  obtain ⟨ad0, n0, cap0, rfl⟩ := okWide_slice Tryd.underlying22 (hval 0 22 v0 rfl rfl)
  have k0 := h0
  have lt0 : ∀ x ∈ p0, x.block < W.heap.size := by obtain ⟨m, hm⟩ := k0; exact DataW.trod_lt m _ _ _ hm
  obtain ⟨L0, row0⟩ : ∃ L, Came W (.slice ad0 n0 cap0) L := by obtain ⟨fuel, hf⟩ := h0; exact open_flds hf
  obtain ⟨a1, rfl, rfl, rfl, w1⟩ := open_int Tryd.underlying3 (hval 1 3 v1 rfl rfl) h1
  have bd1 := bounds_i64 w1
  clear hA0 hval0
  simp only [List.append_nil] at hW'
  refine (tagBack_walk W _ L0 row0 a1 bd1 (pow_of_laid hL)).mono fun e W' ⟨he, bel⟩ => ?_
  subst he
  exact ⟨_, rfl, _, _, _, [], _, [], hW', trodAll_mk1 (shut_bool Tryd.underlying4 _), (trodAll_cons_mk (Below.trod laidOut8 (by kernel_rfl) (of_decide_eq_true (by kernel_rfl)) k0 bel lt0) (trodAll_cons_mk (shut_int Tryd.underlying3 w1) trodAll_mk0)), rfl, bel.frame _, fun h => by cases h⟩

/-- The row. -/
theorem tagBack_row : Rows.TagBackSaid :=
  OpenClaim.holds_of_wide 5 Tryd.f5 rfl rfl rfl rfl rfl rfl rfl ⟨rfl, rfl, rfl, rfl, rfl⟩ rfl rfl rfl rfl rfl (by kernel_rfl) Tryd.func5 (by kernel_rfl)
    (of_decide_eq_true (by kernel_rfl)) (by unfold Func.isWrapper; first | (rw [if_pos (by decide +kernel)]; kernel_rfl) | (rw [if_neg (by decide +kernel)]; exact ⟨rfl, rfl⟩))
    (fun os started H enc _ => tagBack_lifted os started H enc)
/-- THE STATEMENT: the tied card. -/
theorem tagBack_proved : Rows.TagBackCardSaid :=
  Claim7.holds_tied_plain_at .later [] Rows.tagBackCard.laidKinds true Rows.tagBackCard.stood.harness false
    tagBack_row (fun _ h => by cases h) (by kernel_rfl) (fun _ h => by cases h) tagBack_row_tie rfl ⟨rfl, rfl⟩ (by kernel_rfl) rfl
    (fun f fn hf hfn => by
      obtain rfl : f = 5 := Option.some.inj ((show Tryd.prog.funcNamed Rows.tagBackRow.func = some 5 by kernel_rfl).symm.trans hf) |>.symm
      obtain rfl : fn = Tryd.f5 := (Option.some.inj (Tryd.func5.symm.trans hfn)).symm
      exact ⟨by kernel_rfl, fun j t ht => by
        rw [Tryd.params5] at ht
        have hm : t ∈ [22, 3] := by simpa using Array.mem_of_getElem? ht
        have hall : ([22, 3].all fun u => !Tryd.prog.wantsStandIn u) = true := by kernel_rfl
        exact (show Tryd.prog.wantsStandIn t = false by simpa using List.all_eq_true.1 hall t hm)⟩)
    (by kernel_rfl)
#print axioms tagBack_proved
end Go.Proofs.YtennefdcjgjpiaaDoor
