/-
  WireTells: a message in which one byte of the body is another one is refused. For every list, every place and every byte, no condition but that the table of the powers of ten is laid as the program's text lays it.
-/
import Derived.Test.YtcgojnofkbjinaaDoorWireAwake
import Derived.Test.YtcgojnofkbjinaaDoorWireLaws
import Derived.Test.YtcgojnofkbjinaaDoorWireForms
import Derived.Test.YtcgojnofkbjinaaDoorTagCame
import Derived.Test.YtcgojnofkbjinaaDoorCards
import Derived.Test.YtcgojnofkbjinaaDoorTie
namespace Go.Proofs.YtcgojnofkbjinaaDoor
open Go.ChangeShapes Go.WideShapes Go.ChangeAt Go.WideMaps Go.WideElems Go.RowKit Go.Lib

theorem byte_text10 (m : Nat) (hm : m < 256) (W : World) (g cap : Nat) (h : W.cell? ⟨g, 0, none⟩ = some (.int .u8 (m : Int))) :
    (convert 33 9 (.slice (some ⟨g, 0, none⟩) 1 cap)).run Tryd.prog W = .ok (.string (mk [UInt8.ofNat m])) W := by
  refine bytes_text [UInt8.ofNat m] W g 0 cap ?_
  intro j hj
  have : j = 0 := by simp at hj; omega
  subst this
  simp only [List.getElem_cons_zero, Nat.add_zero]
  rw [byte_ofNat hm, h]
/-- Where a body's byte stands in its message. -/
theorem byte_place {x : List UInt8} {j : Nat} (hj : j < x.length) : (formL x)[12 + ((decDigits x.length).length + 1) + j]? = some x[j] := by
  have e : formL x = (beginL ++ decDigits x.length ++ [1]) ++ (x ++ trailL (aheadL x)) := by unfold formL; rw [ahead_eq, List.append_assoc]
  have hl : (beginL ++ decDigits x.length ++ [1]).length = 12 + ((decDigits x.length).length + 1) := by simp [beginL]; omega
  rw [e, List.getElem?_append_right (by omega), hl, Nat.add_sub_cancel_left, List.getElem?_append_left hj, List.getElem?_eq_getElem hj]
/-- The message with another byte at that place. -/
theorem byte_other {x : List UInt8} {j : Nat} (hj : j < x.length) (c : UInt8) : (formL x).take (12 + ((decDigits x.length).length + 1) + j) ++ [c] ++ (formL x).drop (12 + ((decDigits x.length).length + 1) + j + 1) =
    beginL ++ decDigits x.length ++ [1] ++ (x.take j ++ c :: x.drop (j + 1)) ++ trailL (aheadL x) := by
  have e : formL x = (beginL ++ decDigits x.length ++ [1]) ++ (x ++ trailL (aheadL x)) := by unfold formL; rw [ahead_eq, List.append_assoc]
  have hl : (beginL ++ decDigits x.length ++ [1]).length = 12 + ((decDigits x.length).length + 1) := by simp [beginL]; omega
  have e1 : (formL x).take (12 + ((decDigits x.length).length + 1) + j) = beginL ++ decDigits x.length ++ [1] ++ x.take j := by
    rw [e, ← hl, List.take_length_add_append, List.take_append_of_le_length (by omega)]
  have e2 : (formL x).drop (12 + ((decDigits x.length).length + 1) + j + 1) = x.drop (j + 1) ++ trailL (aheadL x) := by
    rw [e, ← hl, Nat.add_assoc, List.drop_length_add_append, List.drop_append_of_le_length (by omega)]
  rw [e1, e2]
  simp
theorem tells_other {x m : List UInt8} (h : sealE x = (m, 0)) {j : Nat} (hj : j < x.length) {c : UInt8} (hc : c ≠ x[j]) :
    openE ((formL x).take (12 + ((decDigits x.length).length + 1) + j) ++ [c] ++ (formL x).drop (12 + ((decDigits x.length).length + 1) + j + 1)) = ([], 0, 103) := by
  rw [byte_other hj]
  have ex : x.take j ++ x[j] :: x.drop (j + 1) = x := by rw [← List.drop_eq_getElem_cons hj, List.take_append_drop]
  have := open_tells (p := x.take j) (q := x.drop (j + 1)) (x := c) (y := x[j]) (m := m) (by rw [ex]; exact h) hc
  rw [ex] at this
  exact this
set_option maxRecDepth 1000000 in
set_option maxHeartbeats 8000000 in
theorem wireTells_main (w : World) (va : Value) (L : List Fd) (hC : Came w va L) (C m : Nat) (hm : m < 256) (P : Pow w) (hC2 : C ≤ 9223372036854775807) (hL1 : 1 ≤ L.length) (hL2 : L.length ≤ 20) (x : List UInt8) (hX : formsE L = (x, 0)) (hl : ¬ (x.length < 1 ∨ 4096 < x.length)) :
    Calls Tryd.prog 4 #[va, .int .i64 (C : Int), .int .u8 (m : Int)] w fun e w' => e = .returned (.bool true) ∧ Below w.heap.size w w' := by
  have F0 := awake10_any w
  obtain ⟨hF, hmx⟩ := hC
  obtain ⟨a, cap, rfl, h1, h2, h3⟩ := id hF
  have t : ¬ (20 : Int) < (L.length : Int) := by omega
  have t1 : ¬ (L.length : Int) < 1 := by omega
  have F1 := fun w hF P => forms_all (.slice a L.length cap) L w hF (by omega) P
  rw [hX] at F1
  dsimp only at F1
  have hS : sealE x = (formL x, 0) := by
    unfold sealE
    rw [if_neg hl, if_pos (forms_fields hX)]
  have F2 := fun w => seal_any (mk x) w
  rw [mk_list, hS] at F2
  dsimp only at F2
  have hfl := form_len x
  have hbf := body_fit (b := x) (by omega)
  obtain ⟨j, hj⟩ : ∃ j, C % x.length = j := ⟨_, rfl⟩
  have hjl : j < x.length := by rw [← hj]; exact Nat.mod_lt _ (by omega)
  obtain ⟨q, hq⟩ : ∃ q, 12 + ((decDigits x.length).length + 1) = q := ⟨_, rfl⟩
  obtain ⟨p, hp⟩ : ∃ p, q + j = p := ⟨_, rfl⟩
  have hMs := mk_size (formL x)
  have hXs := mk_size x
  have e1 : ((mk (formL x)).size : Int) - ((mk x).size : Int) - 7 = (q : Int) := by omega
  have e2 : (q : Int) + (C : Int) % ((mk x).size : Int) = (p : Int) := by rw [hXs, ← hp, ← hj]; simp
  have hpl : p < (mk (formL x)).size := by omega
  have hpb := byte_place hjl
  rw [hq, hp] at hpb
  obtain ⟨c, hc⟩ : ∃ c, ((mk (formL x))[p]'hpl).toNat = c := ⟨_, rfl⟩
  have hcx : (x[j]'hjl).toNat = c := by
    rw [← hc]
    have : (mk (formL x))[p]'hpl = (formL x)[p]'(by rw [← hMs]; exact hpl) := rfl
    rw [this]
    rw [List.getElem?_eq_getElem (by rw [← hMs]; exact hpl)] at hpb
    rw [Option.some.inj hpb]
  have t2 : (p : Int) < ((mk (formL x)).size : Int) := by omega
  have t3 : (p : Int) + 1 ≤ ((mk (formL x)).size : Int) := by omega
  have t4 : (mk x).size ≤ 4096 := by omega
  have t5 : (mk (formL x)).size ≤ 5000 := by omega
  have t6 : 0 < (mk x).size := by omega
  by_cases hcm : c = m
  · have u1 : ((c : Int) == (m : Int)) = true := by simp [hcm]
    clear h3 hfl hbf hj hjl hq hp hpb hcx hS hX hl hcm hMs hXs hmx
    generalize mk (formL x) = M at *
    generalize mk x = X at *
    go_enter Tryd.func4, Tryd.ntmps4
    go_wp2_with fail
    refine F0.mono ?_
    rintro e w1 ⟨rfl, hb1⟩
    go_wp2_with fail
    refine (F1 _ (hF.below hb1 (Nat.le_refl _)) (P.still hb1)).mono ?_
    rintro e w2 ⟨rfl, hb2⟩
    have hB2 := hb1.trans (hb2.mono hb1.size)
    go_wp2_with fail
    refine (F2 _).mono ?_
    rintro e w3 ⟨rfl, hb3⟩
    have hB3 := hB2.trans (hb3.mono hB2.size)
    clear hb1 hb2 hb3 F1 F2 hF hB2
    go_wp2_with fail
    go_ret
    exact ⟨rfl, hB3⟩
  · have u1 : ((c : Int) == (m : Int)) = false := beq_false_of_ne (by omega)
    have ho := tells_other hS hjl (c := UInt8.ofNat m) (fun e => hcm (by rw [← hcx, ← e, byte_ofNat hm]))
    rw [hq, hp] at ho
    have hz : ((formL x).take p ++ [UInt8.ofNat m] ++ (formL x).drop (p + 1)).length ≤ 10000 := by simp; omega
    have F3 := fun w => open_any (mk ((formL x).take p ++ [UInt8.ofNat m] ++ (formL x).drop (p + 1))) w (by rw [mk_size]; omega)
    rw [mk_list, ho] at F3
    dsimp only at F3
    rw [show mk [] = ⟨#[]⟩ from rfl] at F3
    have hcv := byte_text10 m hm
    have x1 : (mk (formL x)).extract 0 p = mk ((formL x).take p) := by rw [ext_head, mk_list]
    have x2 : (mk (formL x)).extract (p + 1) (mk (formL x)).size = mk ((formL x).drop (p + 1)) := by rw [ext_tail, mk_list]
    have j1 : ∀ w, (Op.stringOp .add (mk ((formL x).take p)) (mk [UInt8.ofNat m])).run Tryd.prog w = .ok (.string (mk ((formL x).take p ++ [UInt8.ofNat m]))) w := add_run _ _ _ (mk_add _ _) (by rw [mk_size, List.length_take]; omega) (by rw [mk_size]; simp)
    have j2 : ∀ w, (Op.stringOp .add (mk ((formL x).take p ++ [UInt8.ofNat m])) (mk ((formL x).drop (p + 1)))).run Tryd.prog w = .ok (.string (mk ((formL x).take p ++ [UInt8.ofNat m] ++ (formL x).drop (p + 1)))) w := add_run _ _ _ (mk_add _ _) (by rw [mk_size, List.length_append, List.length_take]; simp; omega) (by rw [mk_size, List.length_drop]; omega)
    have hsl1 : ∀ w, (Instr.slice 9 (.string (mk (formL x))) none (some (.int .i64 (p : Int))) none).run Tryd.prog w = .ok (.string (mk ((formL x).take p))) w := by
      intro w
      rw [run_slice_string_to_if w 9 _ .i64 _ Tryd.underlying9, if_pos (by omega), ← x1]
      rfl
    have hsl2 : ∀ w, (Instr.slice 9 (.string (mk (formL x))) (some (.int .i64 ((p : Int) + 1))) none none).run Tryd.prog w = .ok (.string (mk ((formL x).drop (p + 1)))) w := by
      intro w
      rw [run_slice_string_from_if w 9 _ .i64 _ Tryd.underlying9, if_pos (by omega), ← x2]
      rfl
    have hw := wrap_one p (by omega)
    clear h3 hfl hbf hj hjl hq hp hpb hcx hS hX hl hcm hMs hXs hmx ho hz x1 x2
    generalize mk ((formL x).take p ++ [UInt8.ofNat m] ++ (formL x).drop (p + 1)) = J at *
    generalize mk ((formL x).take p ++ [UInt8.ofNat m]) = D at *
    generalize mk ((formL x).take p) = A1 at *
    generalize mk ((formL x).drop (p + 1)) = A2 at *
    generalize mk [UInt8.ofNat m] = B1 at *
    generalize mk (formL x) = M at *
    generalize mk x = X at *
    go_enter Tryd.func4, Tryd.ntmps4
    go_wp2_with fail
    refine F0.mono ?_
    rintro e w1 ⟨rfl, hb1⟩
    go_wp2_with fail
    refine (F1 _ (hF.below hb1 (Nat.le_refl _)) (P.still hb1)).mono ?_
    rintro e w2 ⟨rfl, hb2⟩
    have hB2 := hb1.trans (hb2.mono hb1.size)
    go_wp2_with fail
    refine (F2 _).mono ?_
    rintro e w3 ⟨rfl, hb3⟩
    have hB3 := hB2.trans (hb3.mono hB2.size)
    clear hb1 hb2 hb3 F1 F2 hF hB2
    go_wp2_with fail
    go_region_with (go_at_call 8; refine (F3 _).mono ?_; rintro e w5 ⟨rfl, hb5⟩)
    have B4 := (hB3.alloc hB3.size (.cells #[.int .u8 (m : Int)] 5)).drew
    have B5 := B4.trans (hb5.mono B4.size)
    clear hw hsl1 hsl2 j1 j2 hcv hb5 B4 F3
    go_wp2_with fail
    go_ret
    exact ⟨rfl, B5⟩
set_option maxRecDepth 1000000 in
set_option maxHeartbeats 4000000 in
theorem wireTells_walk (w : World) (va : Value) (L : List Fd) (hC : Came w va L) (at_ : Int) (hat : -9223372036854775808 ≤ at_ ∧ at_ ≤ 9223372036854775807) (y : Int) (hy : 0 ≤ y ∧ y ≤ 255) (P : Pow w) :
    Calls Tryd.prog 4 #[va, .int .i64 at_, .int .u8 y] w fun e w' => e = .returned (.bool true) ∧ Below w.heap.size w w' := by
  have F0 := awake10_any w
  have hCC := hC
  obtain ⟨hF, hmx⟩ := hC
  obtain ⟨a, cap, rfl, h1, h2, h3⟩ := id hF
  clear h3 hmx
  by_cases hL1 : L.length < 1
  · have t1 : (L.length : Int) < 1 := by omega
    go_enter Tryd.func4, Tryd.ntmps4
    go_wp2_with fail
    refine F0.mono ?_
    rintro e w1 ⟨rfl, hb1⟩
    go_wp2_with fail
    go_ret
    exact ⟨rfl, hb1⟩
  have t1 : ¬ (L.length : Int) < 1 := by omega
  by_cases hL2 : 20 < L.length
  · have t2 : (20 : Int) < (L.length : Int) := by omega
    go_enter Tryd.func4, Tryd.ntmps4
    go_wp2_with fail
    refine F0.mono ?_
    rintro e w1 ⟨rfl, hb1⟩
    go_wp2_with fail
    go_ret
    exact ⟨rfl, hb1⟩
  have t2 : ¬ (20 : Int) < (L.length : Int) := by omega
  by_cases hc0 : at_ < 0
  · skip
    go_enter Tryd.func4, Tryd.ntmps4
    go_wp2_with fail
    refine F0.mono ?_
    rintro e w1 ⟨rfl, hb1⟩
    go_wp2_with fail
    go_ret
    exact ⟨rfl, hb1⟩
  obtain ⟨C, rfl⟩ : ∃ C : Nat, at_ = (C : Int) := ⟨at_.toNat, by omega⟩
  obtain ⟨m, rfl⟩ : ∃ m : Nat, y = (m : Int) := ⟨y.toNat, by omega⟩
  obtain ⟨x, e1, hX⟩ : ∃ x e1, formsE L = (x, e1) := ⟨_, _, rfl⟩
  by_cases he : e1 = 0
  · subst he
    by_cases hl : x.length < 1 ∨ 4096 < x.length
    · have F1 := fun w hF P => forms_all (.slice a L.length cap) L w hF (by omega) P
      rw [hX] at F1
      dsimp only at F1
      have hS : sealE x = ([], 102) := by
        unfold sealE
        rw [if_pos hl]
      have F2 := fun w => seal_any (mk x) w
      rw [mk_list, hS] at F2
      dsimp only at F2
      clear hS hX hl hCC
      generalize mk x = X at *
      go_enter Tryd.func4, Tryd.ntmps4
      go_wp2_with fail
      refine F0.mono ?_
      rintro e w1 ⟨rfl, hb1⟩
      go_wp2_with fail
      refine (F1 _ (hF.below hb1 (Nat.le_refl _)) (P.still hb1)).mono ?_
      rintro e w2 ⟨rfl, hb2⟩
      have hB2 := hb1.trans (hb2.mono hb1.size)
      go_wp2_with fail
      refine (F2 _).mono ?_
      rintro e w3 ⟨rfl, hb3⟩
      have hB3 := hB2.trans (hb3.mono hB2.size)
      clear hb1 hb2 hb3 F1 F2 hF hB2
      go_wp2_with fail
      go_ret
      exact ⟨rfl, hB3⟩
    · exact wireTells_main w _ L hCC C m (by omega) P (by omega) (by omega) (by omega) x hX hl
  · have F1 := fun w hF P => forms_all (.slice a L.length cap) L w hF (by omega) P
    rw [hX] at F1
    dsimp only at F1
    have F2 := fun w => seal_any (mk x) w
    rw [mk_list] at F2
    generalize mk (sealE x).1 = S1 at F2
    generalize (sealE x).2 = S2 at F2
    have u1 : ((e1 : Int) == 0) = false := beq_false_of_ne (by omega)
    clear hX he hCC
    generalize mk x = X at *
    go_enter Tryd.func4, Tryd.ntmps4
    go_wp2_with fail
    refine F0.mono ?_
    rintro e w1 ⟨rfl, hb1⟩
    go_wp2_with fail
    refine (F1 _ (hF.below hb1 (Nat.le_refl _)) (P.still hb1)).mono ?_
    rintro e w2 ⟨rfl, hb2⟩
    have hB2 := hb1.trans (hb2.mono hb1.size)
    go_wp2_with fail
    refine (F2 _).mono ?_
    rintro e w3 ⟨rfl, hb3⟩
    have hB3 := hB2.trans (hb3.mono hB2.size)
    clear hb1 hb2 hb3 F1 F2 hF hB2
    go_wp2_with fail
    go_ret
    exact ⟨rfl, hB3⟩

set_option maxRecDepth 100000 in
theorem wireTells_lifted (os : Os) (started : os.Started) (H : Type) (enc : TypeId × Value → H) :
    ReturnsInHanded {} Tryd.checked os 4 .any (fun w args => (Rows.wireTellsSpec.pre enc Tryd.prog Tryd.f4 [] false w args ∧ laidMetH Tryd.prog Rows.wireTellsRow.laid w) ∧ sizedMet enc Tryd.prog Tryd.f4 (OpenSpec.ofChange Rows.wireTellsSpec) false w args)
      (Rows.wireTellsSpec.post enc Tryd.prog Tryd.f4 false true false false) := by
  refine returnsInHanded_of_change_and (C := Tryd.checked) (X := fun w _ => laidMetH Tryd.prog laid8 w) (fun _ _ _ hh h => h.of_heap hh) own8 started (by kernel_rfl) Tryd.func4
    (ChangeSpec.witness_shaped (enc := enc) (C := Tryd.checked) (os := os) (X := fun w _ => laidMetH Tryd.prog laid8 w) false (World.doorLaid Tryd.prog 400 os) #[.slice none 0 0, .int .i64 0, .int .u8 0] 8 rfl (World.shaped_of_RefB (by kernel_rfl) (by kernel_rfl)) (by kernel_rfl) (by kernel_rfl) (by kernel_rfl) (door_met os _)) ?_
  intro W base args ds gs before hval0 hW _ _ hL _
  have hval : ∀ (j : Nat) t v, Tryd.f4.params[j]? = some t → args[j]? = some v → Value.okWide Tryd.prog W .any base t v := hval0
  have hW' := hW
  obtain ⟨p, q, hA0, hV, rfl, hfz, hnd⟩ := hW
  have hA : DataW.TrodAll enc Tryd.prog W 0 (fun _ => true) true Tryd.f4.params.toList args.toList ds p := hA0
  rw [Tryd.params4] at hA hval
  obtain ⟨v0, vs0, d0, ds0, p0, q0, hargs, rfl, rfl, h0, r0⟩ := trodAll_cons hA
  obtain ⟨v1, vs1, d1, ds1, p1, q1, rfl, rfl, rfl, h1, r1⟩ := trodAll_cons r0
  obtain ⟨v2, vs2, d2, ds2, p2, q2, rfl, rfl, rfl, h2, r2⟩ := trodAll_cons r1
  obtain ⟨rfl, rfl, rfl⟩ := trodAll_nil r2
  obtain rfl : args = #[v0, v1, v2] := by cases args; simp_all
  obtain ⟨rfl, rfl⟩ := trodVars_none hV
  obtain ⟨ad0, n0, cap0, rfl⟩ := okWide_slice Tryd.underlying22 (hval 0 22 v0 rfl rfl)
  have k0 := h0
  have lt0 : ∀ x ∈ p0, x.block < W.heap.size := by obtain ⟨m, hm⟩ := k0; exact DataW.trod_lt m _ _ _ hm
  obtain ⟨L0, row0⟩ : ∃ L, Came W (.slice ad0 n0 cap0) L := by obtain ⟨fuel, hf⟩ := h0; exact open_flds hf
  obtain ⟨a1, rfl, rfl, rfl, w1⟩ := open_int Tryd.underlying3 (hval 1 3 v1 rfl rfl) h1
  have bd1 := bounds_i64 w1
  obtain ⟨a2, rfl, rfl, rfl, w2⟩ := open_int Tryd.underlying5 (hval 2 5 v2 rfl rfl) h2
  have bd2 := bounds_u8 w2
  clear hA0 hval0
  simp only [List.append_nil] at hW'
  refine (wireTells_walk W _ L0 row0 a1 bd1 a2 bd2 (pow_of_laid hL)).mono fun e W' ⟨he, bel⟩ => ?_
  subst he
  exact ⟨_, rfl, _, _, _, [], _, [], hW', trodAll_mk1 (shut_bool Tryd.underlying4 _), (trodAll_cons_mk (Below.trod laidOut8 (by kernel_rfl) (of_decide_eq_true (by kernel_rfl)) k0 bel lt0) (trodAll_cons_mk (shut_int Tryd.underlying3 w1) (trodAll_cons_mk (shut_int Tryd.underlying5 w2) trodAll_mk0))), rfl, bel.frame _, fun h => by cases h⟩

/-- The row. -/
theorem wireTells_row : Rows.WireTellsSaid :=
  OpenClaim.holds_of_wide 4 Tryd.f4 rfl rfl rfl rfl rfl rfl rfl ⟨rfl, rfl, rfl, rfl, rfl⟩ rfl rfl rfl rfl rfl (by kernel_rfl) Tryd.func4 (by kernel_rfl)
    (of_decide_eq_true (by kernel_rfl)) (by unfold Func.isWrapper; first | (rw [if_pos (by decide +kernel)]; kernel_rfl) | (rw [if_neg (by decide +kernel)]; exact ⟨rfl, rfl⟩))
    (fun os started H enc _ => wireTells_lifted os started H enc)
/-- THE STATEMENT: the tied card. -/
theorem wireTells_proved : Rows.WireTellsCardSaid :=
  Claim7.holds_tied_plain_at .later [] Rows.wireTellsCard.laidKinds true Rows.wireTellsCard.stood.harness Rows.wireTellsCard.stood.looks
    wireTells_row (fun _ h => by cases h) (by kernel_rfl) (fun _ h => by cases h) wireTells_row_tie rfl ⟨rfl, rfl⟩ (by kernel_rfl) rfl
    (fun f fn hf hfn => by
      obtain rfl : f = 4 := Option.some.inj ((show Tryd.prog.funcNamed Rows.wireTellsRow.func = some 4 by kernel_rfl).symm.trans hf) |>.symm
      obtain rfl : fn = Tryd.f4 := (Option.some.inj (Tryd.func4.symm.trans hfn)).symm
      exact ⟨by kernel_rfl, fun j t ht => by
        rw [Tryd.params4] at ht
        have hm : t ∈ [22, 3, 5] := by simpa using Array.mem_of_getElem? ht
        have hall : ([22, 3, 5].all fun u => !Tryd.prog.wantsStandIn u) = true := by kernel_rfl
        exact (show Tryd.prog.wantsStandIn t = false by simpa using List.all_eq_true.1 hall t hm)⟩)
    (by kernel_rfl)
#print axioms wireTells_proved
end Go.Proofs.YtcgojnofkbjinaaDoor
