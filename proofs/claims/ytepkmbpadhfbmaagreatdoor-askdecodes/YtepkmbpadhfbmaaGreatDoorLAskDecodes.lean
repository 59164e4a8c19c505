/-
  Any bytes are the document's ask, or have its first error, beside its tag: the statement AskDecodes, for every text.
-/
import Derived.Test.YtepkmbpadhfbmaaGreatDoorGL
import Derived.Test.YtepkmbpadhfbmaaGreatDoorIC
import Derived.Test.YtepkmbpadhfbmaaGreatDoorCards
import Derived.Test.YtepkmbpadhfbmaaGreatDoorTie
import Derived.SevenTiedAt
namespace Go.Proofs.YtepkmbpadhfbmaaGreatDoor
open Go.ChangeShapes Go.WideShapes Go.ChangeAt Go.WideMaps Go.WideElems Go.RowKit Go.Lib

set_option maxRecDepth 1000000 in
theorem refDecode_any (tx : ByteArray) (w : World) (hs : tx.size ≤ 1000000) : Calls Tryz.prog 13 #[.string tx] w (RDecOk tx.data.toList w) := by
  by_cases hE : readE tx.data.toList = 0
  · exact refDecode_main tx w hs hE
  · exact refDecode_read tx w hs hE
set_option maxRecDepth 1000000 in
set_option maxHeartbeats 8000000 in
theorem askDecodes_walk (w : World) (s : ByteArray) (_ : s.size ≤ maxLen) (hp : Pow w) (hl : Let w) :
    Calls Tryz.prog 4 #[.string s] w fun e w' => e = .returned (.bool true) ∧ Below w.heap.size w w' := by
  have AW := awake12_any w hl hp
  have HL : Hid (Let w) := hl
  clear hl hp
  by_cases h5 : 5000 < s.size
  · have t5 : (5000 : Int) < (s.size : Int) := by omega
    go_enter Tryz.func4, Tryz.ntmps4
    go_wp2_with fail
    refine AW.mono ?_
    rintro e w1 ⟨rfl, b1⟩
    go_wp2_with fail
    go_ret
    exact ⟨rfl, b1⟩
  have t5 : ¬ (5000 : Int) < (s.size : Int) := by omega
  have DE := fun w h => decode_any s w (by omega) h
  have RE := fun w => refDecode_any s w (by omega)
  have H5 : Hid (s.size ≤ 5000) := by show _ ≤ _; omega
  clear h5
  obtain ⟨T, E, hTE⟩ : ∃ T E, decT s.data.toList = (T, E) := ⟨_, _, rfl⟩
  have HTE : Hid (decT s.data.toList = (T, E)) := hTE
  clear hTE
  go_enter Tryz.func4, Tryz.ntmps4
  go_wp2_with fail
  refine AW.mono ?_
  rintro e w1 ⟨rfl, b1⟩
  have D1 := DE w1 (HL.out.still b1)
  have HB1 : Hid (Below w.heap.size w w1) := b1
  clear AW DE b1
  go_wp2_with fail
  refine D1.mono ?_
  rintro e w2 ⟨k, i, t, c, t5, sd, q, p, al, st, en, ra, sh, a, d, cz, he, RA, ⟨base, hbase, own⟩, b2⟩
  rw [HTE.out] at he
  dsimp only at he
  subst he
  have HB2 : Hid (Below w.heap.size w w2) := HB1.out.trans (b2.mono HB1.out.size)
  have HROW : Hid (Row w2 (.slice a cz.length d) cz.length fun i => .int .i64 (cz.getD i 0)) := its_row own
  have HRA : Hid (ReadAs (decA s.data.toList) k i t c t5 sd q p al st en ra sh cz) := RA
  clear D1 RA own b2 hbase
  have BX := boxA_below w2 k i t c t5 sd q p al st en ra sh (.slice a cz.length d)
  have HBX : Hid (Below w2.heap.size w2 (boxA w2 k i t c t5 sd q p al st en ra sh (.slice a cz.length d))) := BX
  have HAX : Hid (AskAt (boxA w2 k i t c t5 sd q p al st en ra sh (.slice a cz.length d)) w2.heap.size k i t c t5 sd q p al st en ra sh (.slice a cz.length d)) := AskAt.box w2 k i t c t5 sd q p al st en ra sh (.slice a cz.length d)
  have R2 := RE (boxA w2 k i t c t5 sd q p al st en ra sh (.slice a cz.length d))
  clear BX RE
  go_wp2_with fail
  refine R2.mono ?_
  rintro e w3 ⟨k', i', t', c', s', sd', q', p', al', st', en', ra', sh', a', d', cz', he, RA', ROW', b3⟩
  rw [HTE.out] at he
  dsimp only at he
  subst he
  have eq1 := HRA.out.eq
  have cu1 := HRA.out.cur
  have eq2 := RA'.eq
  have cu2 := RA'.cur
  have len64 : cz'.length ≤ 1000000 := by
    have ez : intsOf cz' = intsOf (decA s.data.toList).curve := cu2
    have e2 : cz'.length = (decA s.data.toList).curve.length := by
      have := congrArg List.length ez
      rw [ints_len, ints_len] at this
      exact this
    by_cases hE : E = 0
    · have RP := dec_sound (l := s.data.toList) (by rw [HTE.out]; exact hE)
      by_cases a2 : (decA s.data.toList).algo = 2
      · have := (RP.vwap.1 a2).2.1
        omega
      · have := RP.vwap.2 a2
        rw [this] at e2
        have e3 : cz'.length = 0 := e2
        omega
    · have hz : decA s.data.toList = zeroA := if_neg (by rw [HTE.out]; exact hE)
      rw [hz] at e2
      have e3 : cz'.length = 0 := e2
      omega
  rw [eq1] at eq2
  simp only [AskP.mk.injEq] at eq2
  obtain ⟨rfl, rfl, rfl, rfl, rfl, rfl, rfl, rfl, rfl, rfl, rfl, rfl, rfl, _⟩ := eq2
  rw [← cu1] at cu2
  subst cu2
  rw [ints_len] at HROW HBX HAX b3 ⊢
  obtain ⟨n, hn⟩ : ∃ n, cz'.length = n := ⟨_, rfl⟩
  have HN : Hid (cz'.length = n) := hn
  have HNN : Hid (n ≤ 1000000) := by show n ≤ 1000000; omega
  have B3 : Below w2.heap.size w2 w3 := HBX.out.trans (b3.mono HBX.out.size)
  have BY : Below w3.heap.size w3 (boxR w3 k i t c t5 sd q p al st en ra sh (.slice a' cz'.length d')) := (Below.refl _ w3).alloc (Nat.le_refl _) _
  have A3 := HAX.out.still b3 (by simp)
  have A5 := A3.still BY A3.lt
  have C5 : AskAt (boxR w3 k i t c t5 sd q p al st en ra sh (.slice a' cz'.length d')) w3.heap.size k i t c t5 sd q p al st en ra sh (.slice a' cz'.length d') := AskAt.boxR w3 k i t c t5 sd q p al st en ra sh (.slice a' cz'.length d')
  rw [hn] at A5 C5
  have X5 : Hid (AskAt (boxR w3 k i t c t5 sd q p al st en ra sh (.slice a' n d')) w2.heap.size k i t c t5 sd q p al st en ra sh (.slice a n d)) := A5
  have Y5 : Hid (AskAt (boxR w3 k i t c t5 sd q p al st en ra sh (.slice a' n d')) w3.heap.size k i t c t5 sd q p al st en ra sh (.slice a' n d')) := C5
  have n15 : ¬ w2.heap.size = w3.heap.size := by have := A3.lt; omega
  have n51 : ¬ w3.heap.size = w2.heap.size := fun e => n15 e.symm
  have HRW1 : Hid (Row (boxR w3 k i t c t5 sd q p al st en ra sh (.slice a' n d')) (.slice a n d) n fun i => .int .i64 ((intsOf cz').getD i 0)) := by
    have h := (HROW.out.below B3).below BY
    rw [hn] at h
    exact h
  have HRW2 : Hid (Row (boxR w3 k i t c t5 sd q p al st en ra sh (.slice a' n d')) (.slice a' n d') n fun i => .int .i64 ((intsOf cz').getD i 0)) := by
    have h := (row_as_ints ROW').below BY
    rw [ints_len, hn] at h
    exact h
  have HB5 : Hid (Below w.heap.size w (boxR w3 k i t c t5 sd q p al st en ra sh (.slice a' n d'))) := by
    have h := (HB2.out.trans (B3.mono HB2.out.size)).trans (BY.mono (by have := HB2.out.size; have := B3.size; omega))
    rw [hn] at h
    exact h
  rw [hn]
  obtain ⟨x0, x1, x2, x3, x4, x5, x6, x7, x8, x9, x10, x11, x12, x13⟩ := A5
  obtain ⟨y0, y1, y2, y3, y4, y5, y6, y7, y8, y9, y10, y11, y12, y13⟩ := C5
  have tok : True := trivial
  clear R2 RA' ROW' b3 B3 BY HAX HBX HROW A3 HTE HRA eq1 cu1 hn len64
  go_wp2_with fail
  go_region_held3 (fun w' => (w'.cell? ⟨w2.heap.size, 0, none⟩ = some (.int .i64 k) ∧ w'.cell? ⟨w2.heap.size, 1, none⟩ = some (.string i) ∧ w'.cell? ⟨w2.heap.size, 2, none⟩ = some (.string t) ∧ w'.cell? ⟨w2.heap.size, 3, none⟩ = some (.string c) ∧ w'.cell? ⟨w2.heap.size, 4, none⟩ = some (.string t5) ∧ w'.cell? ⟨w2.heap.size, 5, none⟩ = some (.int .i64 sd) ∧ w'.cell? ⟨w2.heap.size, 6, none⟩ = some (.int .i64 q) ∧ w'.cell? ⟨w2.heap.size, 7, none⟩ = some (.int .i64 p) ∧ w'.cell? ⟨w2.heap.size, 8, none⟩ = some (.int .i64 al) ∧ w'.cell? ⟨w2.heap.size, 9, none⟩ = some (.int .i64 st) ∧ w'.cell? ⟨w2.heap.size, 10, none⟩ = some (.int .i64 en) ∧ w'.cell? ⟨w2.heap.size, 11, none⟩ = some (.int .i64 ra) ∧ w'.cell? ⟨w2.heap.size, 12, none⟩ = some (.int .i64 sh) ∧ w'.cell? ⟨w2.heap.size, 13, none⟩ = some (.slice a n d)) ∧ w'.cell? ⟨w3.heap.size, 0, none⟩ = some (.int .i64 k) ∧ w'.cell? ⟨w3.heap.size, 1, none⟩ = some (.string i) ∧ w'.cell? ⟨w3.heap.size, 2, none⟩ = some (.string t) ∧ w'.cell? ⟨w3.heap.size, 3, none⟩ = some (.string c) ∧ w'.cell? ⟨w3.heap.size, 4, none⟩ = some (.string t5) ∧ w'.cell? ⟨w3.heap.size, 5, none⟩ = some (.int .i64 sd) ∧ w'.cell? ⟨w3.heap.size, 6, none⟩ = some (.int .i64 q) ∧ w'.cell? ⟨w3.heap.size, 7, none⟩ = some (.int .i64 p) ∧ w'.cell? ⟨w3.heap.size, 8, none⟩ = some (.int .i64 al) ∧ w'.cell? ⟨w3.heap.size, 9, none⟩ = some (.int .i64 st) ∧ w'.cell? ⟨w3.heap.size, 10, none⟩ = some (.int .i64 en) ∧ w'.cell? ⟨w3.heap.size, 11, none⟩ = some (.int .i64 ra) ∧ w'.cell? ⟨w3.heap.size, 12, none⟩ = some (.int .i64 sh) ∧ w'.cell? ⟨w3.heap.size, 13, none⟩ = some (.slice a' n d')) (go_keep) (first
    | (go_at_call 9; refine (plain_any k i t c t5 sd q p al st en ra sh _ n _ _).mono ?_; rintro e w6 ⟨rfl, k6⟩; have k6' := below_of_drew k6; have X6 : Hid (AskAt w6 w2.heap.size k i t c t5 sd q p al st en ra sh (.slice a n d)) := X5.out.still k6' X5.out.lt; have Y6 : Hid (AskAt w6 w3.heap.size k i t c t5 sd q p al st en ra sh (.slice a' n d')) := Y5.out.still k6' Y5.out.lt; obtain ⟨ua0, ua1, ua2, ua3, ua4, ua5, ua6, ua7, ua8, ua9, ua10, ua11, ua12, ua13⟩ := X6.out; obtain ⟨ub0, ub1, ub2, ub3, ub4, ub5, ub6, ub7, ub8, ub9, ub10, ub11, ub12, ub13⟩ := Y6.out)
    | (go_at_call 14; refine (same_yes12 k i t c t5 sd q p al st en ra sh a n d a' d' (fun i => (intsOf cz').getD i 0) w6 HNN.out (HRW1.out.below k6') (HRW2.out.below k6')).mono ?_; rintro e w8 ⟨rfl, k8⟩; have X8 : Hid (AskAt w8 w2.heap.size k i t c t5 sd q p al st en ra sh (.slice a n d)) := X6.out.still k8 X6.out.lt; have Y8 : Hid (AskAt w8 w3.heap.size k i t c t5 sd q p al st en ra sh (.slice a' n d')) := Y6.out.still k8 Y6.out.lt; obtain ⟨za0, za1, za2, za3, za4, za5, za6, za7, za8, za9, za10, za11, za12, za13⟩ := X8.out; obtain ⟨zb0, zb1, zb2, zb3, zb4, zb5, zb6, zb7, zb8, zb9, zb10, zb11, zb12, zb13⟩ := Y8.out))
  all_goals
    have B6 := HB5.out.trans (k6'.mono HB5.out.size)
    have HB8 : Hid (Below w.heap.size w w8) := B6.trans (k8.mono B6.size)
    clear B6
    go_wp2_with fail
    go_ret
    exact ⟨rfl, HB8.out⟩
set_option maxRecDepth 100000 in
theorem askDecodes_lifted (os : Os) (started : os.Started) (H : Type) (enc : TypeId × Value → H) :
    ReturnsInHanded {} Tryz.checked os 4 .any (fun w args => (Rows.askDecodesSpec.pre enc Tryz.prog Tryz.f4 [] false w args ∧ laidMetH Tryz.prog Rows.askDecodesRow.laid w) ∧ sizedMet enc Tryz.prog Tryz.f4 (OpenSpec.ofChange Rows.askDecodesSpec) false w args)
      (Rows.askDecodesSpec.post enc Tryz.prog Tryz.f4 false true false false) := by
  refine returnsInHanded_of_change_and (C := Tryz.checked) (X := fun w _ => laidMetH Tryz.prog laid8 w) (fun _ _ _ hh h => h.of_heap hh) own8 started (by kernel_rfl) Tryz.func4
    (ChangeSpec.witness_shaped (enc := enc) (C := Tryz.checked) (os := os) (X := fun w _ => laidMetH Tryz.prog laid8 w) false (World.doorLaid Tryz.prog 400 os) #[.string ⟨#[]⟩] 8 rfl (World.shaped_of_RefB (by kernel_rfl) (by kernel_rfl)) (by kernel_rfl) (by kernel_rfl) (by kernel_rfl) (door_met os _)) ?_
  intro W base args ds gs before hval0 hW _ _ hL _
  have hval : ∀ (j : Nat) t v, Tryz.f4.params[j]? = some t → args[j]? = some v → Value.okWide Tryz.prog W .any base t v := hval0
  have hW' := hW
  obtain ⟨p, q, hA0, hV, rfl, hfz, hnd⟩ := hW
  have hA : DataW.TrodAll enc Tryz.prog W 0 (fun _ => true) true Tryz.f4.params.toList args.toList ds p := hA0
  rw [Tryz.params4] at hA hval
  obtain ⟨v0, vs0, d0, ds0, p0, q0, hargs, rfl, rfl, h0, r0⟩ := trodAll_cons hA
  obtain ⟨rfl, rfl, rfl⟩ := trodAll_nil r0
  obtain rfl : args = #[v0] := by cases args; simp_all
  obtain ⟨rfl, rfl⟩ := trodVars_none hV
  obtain ⟨s0, rfl, rfl, rfl, w0⟩ := Go.ChangeMaps.open_string Tryz.underlying9 (hval 0 9 v0 rfl rfl) h0
  clear hA0 hval0
  simp only [List.append_nil] at hW'
  refine (askDecodes_walk W s0 w0 (pow_of_laid hL) (let_of_laid hL)).mono fun e W' ⟨he, bel⟩ => ?_
  subst he
  exact ⟨_, rfl, _, _, _, [], _, [], hW', trodAll_mk1 (shut_bool Tryz.underlying4 _), (trodAll_cons_mk (Go.ChangeMaps.shut_string Tryz.underlying9 w0) trodAll_mk0), rfl, bel.frame _, fun h => by cases h⟩

/-- The row. -/
theorem askDecodes_row : Rows.AskDecodesSaid :=
  OpenClaim.holds_of_wide 4 Tryz.f4 rfl rfl rfl rfl rfl rfl rfl ⟨rfl, rfl, rfl, rfl, rfl⟩ rfl rfl rfl rfl rfl (by kernel_rfl) Tryz.func4 (by kernel_rfl)
    (of_decide_eq_true (by kernel_rfl)) (by unfold Func.isWrapper; first | (rw [if_pos (by decide +kernel)]; kernel_rfl) | (rw [if_neg (by decide +kernel)]; exact ⟨rfl, rfl⟩))
    (fun os started H enc _ => askDecodes_lifted os started H enc)
/-- THE STATEMENT: the tied card. -/
theorem askDecodes_proved : Rows.AskDecodesCardSaid :=
  Claim7.holds_tied_plain_at .later [] Rows.askDecodesCard.laidKinds true Rows.askDecodesCard.stood.harness Rows.askDecodesCard.stood.looks
    askDecodes_row (fun _ h => by cases h) (by kernel_rfl) (fun _ h => by cases h) askDecodes_row_tie rfl ⟨rfl, rfl⟩ (by kernel_rfl) rfl
    (fun f fn hf hfn => by
      obtain rfl : f = 4 := Option.some.inj ((show Tryz.prog.funcNamed Rows.askDecodesRow.func = some 4 by kernel_rfl).symm.trans hf) |>.symm
      obtain rfl : fn = Tryz.f4 := (Option.some.inj (Tryz.func4.symm.trans hfn)).symm
      exact ⟨by kernel_rfl, fun j t ht => by
        rw [Tryz.params4] at ht
        have hm : t ∈ [9] := by simpa using Array.mem_of_getElem? ht
        have hall : ([9].all fun u => !Tryz.prog.wantsStandIn u) = true := by kernel_rfl
        exact (show Tryz.prog.wantsStandIn t = false by simpa using List.all_eq_true.1 hall t hm)⟩)
    (by kernel_rfl)
#print axioms askDecodes_proved
end Go.Proofs.YtepkmbpadhfbmaaGreatDoor


