/-
  SlicerNone: of a slicer that is none nothing should be out. For every step the Go function SlicerNone, over the landed program, returns true and leaves all old memory as it was. No condition.
-/
import Derived.Test.YtdacfnodihannaaSlAwake
import Derived.Test.YtdacfnodihannaaAskSame
import Derived.Test.YtdacfnodihannaaFrame27
namespace Go.Proofs.Ytdacfnodihannaa
open Go.ChangeShapes Go.WideShapes Go.ChangeAt Go.RowKit Go.Lib SL

/-- What the loop stands on: the step in block ob, the empty slicer in block q, the two pointers behind it. -/
structure NoneAt (w wr : World) (ob q : Nat) (x : Opc) : Prop where
  bel : Below w.heap.size w wr
  c0 : wr.cell? ⟨ob, 0, none⟩ = some (.int .i64 x.k)
  c1 : wr.cell? ⟨ob, 1, none⟩ = some (.int .i64 x.a)
  c2 : wr.cell? ⟨ob, 2, none⟩ = some (.int .i64 x.b)
  c3 : wr.cell? ⟨ob, 3, none⟩ = some (.int .i64 x.c)
  c4 : wr.cell? ⟨ob, 4, none⟩ = some (.int .i64 x.d)
  e0 : wr.cell? ⟨q, 14, none⟩ = some .nilIface
  l0 : wr.cell? ⟨q + 1, 0, none⟩ = some (.pointer none)
  l1 : wr.cell? ⟨q + 1, 1, none⟩ = some (.pointer (some ⟨q, 0, none⟩))
theorem NoneAt.more {w wr w' : World} {ob q : Nat} {x : Opc} (h : NoneAt w wr ob q x) (k : Below wr.heap.size wr w') : NoneAt w w' ob q x :=
  ⟨h.bel.trans (k.mono h.bel.size), (k.cell (p := ⟨ob, 0, none⟩) (World.block_lt_of_cell? _ _ h.c0)).trans h.c0, (k.cell (p := ⟨ob, 1, none⟩) (World.block_lt_of_cell? _ _ h.c1)).trans h.c1, (k.cell (p := ⟨ob, 2, none⟩) (World.block_lt_of_cell? _ _ h.c2)).trans h.c2, (k.cell (p := ⟨ob, 3, none⟩) (World.block_lt_of_cell? _ _ h.c3)).trans h.c3, (k.cell (p := ⟨ob, 4, none⟩) (World.block_lt_of_cell? _ _ h.c4)).trans h.c4, (k.cell (p := ⟨q, 14, none⟩) (World.block_lt_of_cell? _ _ h.e0)).trans h.e0, (k.cell (p := ⟨q + 1, 0, none⟩) (World.block_lt_of_cell? _ _ h.l0)).trans h.l0, (k.cell (p := ⟨q + 1, 1, none⟩) (World.block_lt_of_cell? _ _ h.l1)).trans h.l1⟩
set_option maxRecDepth 100000 in
set_option maxHeartbeats 8000000 in
theorem slicerNone_walk (w : World) (x : Opc) (_ : x.fit) : Calls Try.prog 3 #[.agg x.cells] w fun e w' => e = .returned (.bool true) ∧ Below w.heap.size w w' := by
  have b0 := (Below.refl _ w).alloc (Nat.le_refl _) (.cells #[.int .i64 x.k, .int .i64 x.a, .int .i64 x.b, .int .i64 x.c, .int .i64 x.d] 23)
  have F1 := awake27_any (w.alloc (.cells #[.int .i64 x.k, .int .i64 x.a, .int .i64 x.b, .int .i64 x.c, .int .i64 x.d] 23))
  have f0 : (w.alloc (.cells #[.int .i64 x.k, .int .i64 x.a, .int .i64 x.b, .int .i64 x.c, .int .i64 x.d] 23)).cell? ⟨w.heap.size, 0, none⟩ = some (.int .i64 x.k) := by simp
  have f1 : (w.alloc (.cells #[.int .i64 x.k, .int .i64 x.a, .int .i64 x.b, .int .i64 x.c, .int .i64 x.d] 23)).cell? ⟨w.heap.size, 1, none⟩ = some (.int .i64 x.a) := by simp
  have f2 : (w.alloc (.cells #[.int .i64 x.k, .int .i64 x.a, .int .i64 x.b, .int .i64 x.c, .int .i64 x.d] 23)).cell? ⟨w.heap.size, 2, none⟩ = some (.int .i64 x.b) := by simp
  have f3 : (w.alloc (.cells #[.int .i64 x.k, .int .i64 x.a, .int .i64 x.b, .int .i64 x.c, .int .i64 x.d] 23)).cell? ⟨w.heap.size, 3, none⟩ = some (.int .i64 x.c) := by simp
  have f4 : (w.alloc (.cells #[.int .i64 x.k, .int .i64 x.a, .int .i64 x.b, .int .i64 x.c, .int .i64 x.d] 23)).cell? ⟨w.heap.size, 4, none⟩ = some (.int .i64 x.d) := by simp
  have HF : Hid (_ ∧ _ ∧ _ ∧ _ ∧ _ ∧ _) := ⟨b0, f0, f1, f2, f3, f4⟩
  obtain ⟨ob, hob⟩ : ∃ ob, ob = w.heap.size := ⟨_, rfl⟩
  clear b0 f0 f1 f2 f3 f4
  go_enter Try.func3, Try.ntmps3
  go_wp2_with fail
  refine F1.mono ?_
  rintro e w1 ⟨rfl, hb⟩
  have I : Hid (NoneAt w ((w1.alloc (.cells #[.int .i64 0, .string ⟨#[]⟩, .string ⟨#[]⟩, .string ⟨#[]⟩, .string ⟨#[]⟩, .int .i64 0, .int .i64 0, .int .i64 0, .int .i64 0, .int .i64 0, .int .i64 0, .int .i64 0, .int .i64 0, .slice none 0 0, .nilIface, .int .i64 0] 30)).alloc (.cells #[.pointer none, .pointer (some ⟨w1.heap.size, 0, none⟩)] 25)) ob w1.heap.size x) := by
    obtain ⟨b0, f0, f1, f2, f3, f4⟩ := HF.out
    have z1 := hb.size
    have z0 : w.heap.size < (w.alloc (.cells #[.int .i64 x.k, .int .i64 x.a, .int .i64 x.b, .int .i64 x.c, .int .i64 x.d] 23)).heap.size := by simp
    have hl : w.heap.size < w1.heap.size := by omega
    have b2 := ((Below.refl w1.heap.size w1).alloc (Nat.le_refl _) (.cells #[.int .i64 0, .string ⟨#[]⟩, .string ⟨#[]⟩, .string ⟨#[]⟩, .string ⟨#[]⟩, .int .i64 0, .int .i64 0, .int .i64 0, .int .i64 0, .int .i64 0, .int .i64 0, .int .i64 0, .int .i64 0, .slice none 0 0, .nilIface, .int .i64 0] 30)).alloc (by simp) (.cells #[.pointer none, .pointer (some ⟨w1.heap.size, 0, none⟩)] 25)
    have g : ∀ j y, (w.alloc (.cells #[.int .i64 x.k, .int .i64 x.a, .int .i64 x.b, .int .i64 x.c, .int .i64 x.d] 23)).cell? ⟨w.heap.size, j, none⟩ = some y → ((w1.alloc (.cells #[.int .i64 0, .string ⟨#[]⟩, .string ⟨#[]⟩, .string ⟨#[]⟩, .string ⟨#[]⟩, .int .i64 0, .int .i64 0, .int .i64 0, .int .i64 0, .int .i64 0, .int .i64 0, .int .i64 0, .int .i64 0, .slice none 0 0, .nilIface, .int .i64 0] 30)).alloc (.cells #[.pointer none, .pointer (some ⟨w1.heap.size, 0, none⟩)] 25)).cell? ⟨w.heap.size, j, none⟩ = some y := fun j y e => by
      rw [b2.cell (p := ⟨w.heap.size, j, none⟩) hl, hb.cell (p := ⟨w.heap.size, j, none⟩) z0]; exact e
    rw [hob]
    exact ⟨b0.trans ((hb.mono (by omega)).trans (b2.mono (by omega))), g 0 _ f0, g 1 _ f1, g 2 _ f2, g 3 _ f3, g 4 _ f4, by simp, by simp, by simp⟩
  clear HF hb
  go_wp2_with fail
  rw [← hob]
  generalize (w1.alloc (.cells #[.int .i64 0, .string ⟨#[]⟩, .string ⟨#[]⟩, .string ⟨#[]⟩, .string ⟨#[]⟩, .int .i64 0, .int .i64 0, .int .i64 0, .int .i64 0, .int .i64 0, .int .i64 0, .int .i64 0, .int .i64 0, .slice none 0 0, .nilIface, .int .i64 0] 30)).alloc (.cells #[.pointer none, .pointer (some ⟨w1.heap.size, 0, none⟩)] 25) = w3 at *
  generalize w1.heap.size = q at *
  clear hob F1
  go_loopw [17] (fun c wr => ∃ j : Nat, c = .int .i64 (j : Int) ∧ j ≤ 2 ∧ Hid (NoneAt w wr ob q x)) (fun c _ => 2 - (RowKit.intOf c).toNat)
  case atStart => exact ⟨0, rfl, by omega, I.out⟩
  case round =>
    clear I
    obtain ⟨j, rfl, hj, I⟩ := hrel
    by_cases hlt : j < 2
    · obtain ⟨o, l0, NB⟩ : ∃ o, wr.cell? ⟨q + 1, j, none⟩ = some (.pointer o) ∧ NoSl wr (.pointer o) := by
        by_cases j0 : j = 0
        · subst j0; exact ⟨_, I.out.l0, .inl rfl⟩
        · obtain rfl : j = 1 := by omega
          exact ⟨_, I.out.l1, .inr ⟨_, rfl, I.out.e0⟩⟩
      have t0 : (j : Int) < 2 := by omega
      have t1 : (0 : Int) ≤ (j : Int) := by omega
      have G1 := target_no NB x.a x.b x.c
      have G2 := goal_no NB x.a x.b x.c x.d
      have G3 := amend_no NB x.a x.b x.c
      have G4 := over_no NB x.a
      have G5 := ask_no NB
      have G6 := fun w => plain_any 0 ⟨#[]⟩ ⟨#[]⟩ ⟨#[]⟩ ⟨#[]⟩ 0 0 0 0 0 0 0 0 none 0 0 w
      have G7 := fun w => same_yes12 0 ⟨#[]⟩ ⟨#[]⟩ ⟨#[]⟩ ⟨#[]⟩ 0 0 0 0 0 0 0 0 none 0 0 none 0 (fun i => ([] : List Int).getD i 0) w (by omega) (nil_row w) (nil_row w)
      have c0 := I.out.c0
      have c1 := I.out.c1
      have c2 := I.out.c2
      have c3 := I.out.c3
      have c4 := I.out.c4
      clear NB
      go_wp2_with fail
      refine G1.mono ?_
      rintro e w5 ⟨rfl, rfl⟩
      go_wp2_with fail
      refine G2.mono ?_
      rintro e w5 ⟨rfl, rfl⟩
      go_wp2_with fail
      refine G3.mono ?_
      rintro e w5 ⟨rfl, rfl⟩
      go_wp2_with fail
      refine G4.mono ?_
      rintro e w5 ⟨rfl, rfl⟩
      go_wp2_with fail
      refine G5.mono ?_
      rintro e w5 ⟨rfl, k5⟩
      have I5 : Hid (NoneAt w w5 ob q x) := I.out.more k5
      clear k5 I c0 c1 c2 c3 c4 l0
      go_wp2_with fail
      refine (G6 _).mono ?_
      rintro e w6 ⟨rfl, k6⟩
      have I6 : Hid (NoneAt w w6 ob q x) := I5.out.more k6
      clear k6 I5
      go_wp2_with fail
      refine (G7 _).mono ?_
      rintro e w7 ⟨rfl, k7⟩
      have I7 : Hid (NoneAt w w7 ob q x) := I6.out.more k7
      clear k7 I6
      go_wp2_with fail
      go_roundw
      case rel => exact ⟨j + 1, by simp, by omega, I7.out⟩
      case measure => simp [RowKit.intOf]; omega
    · have t0 : ¬ (j : Int) < 2 := by omega
      have HB : Hid (Below w.heap.size w wr) := I.out.bel
      clear I
      go_wp2_with fail
      go_ret
      exact ⟨rfl, HB.out⟩
theorem slicerNone_own : ownKnob Try.prog.godebug = none := by kernel_rfl
theorem slicerNone_laidOut : laidOutB Try.prog = true := by kernel_rfl
set_option maxRecDepth 100000 in
theorem slicerNone_lifted (os : Os) (started : os.Started) (H : Type) (enc : TypeId × Value → H) :
    ReturnsInHanded {} Try.checked os 3 .any (Rows.slicerNoneSpec.pre6 enc Try.prog Try.f3 Rows.slicerNoneRow.domain false) (Rows.slicerNoneSpec.post enc Try.prog Try.f3 false true false false) := by
  refine returnsInHanded_of_change (C := Try.checked) slicerNone_own started (by kernel_rfl) Try.func3
    (ChangeSpec.witness6 (enc := enc) (C := Try.checked) false ⟨#[], #[.agg #[.int .i64 0, .int .i64 0, .int .i64 0, .int .i64 0, .int .i64 0]], []⟩ 8 (by kernel_rfl) (by kernel_rfl) (by kernel_rfl) (by kernel_rfl)) ?_
  intro W base args ds gs before hval0 hW hcnd _
  have hval : ∀ (j : Nat) t v, Try.f3.params[j]? = some t → args[j]? = some v → Value.okWide Try.prog W .any base t v := hval0
  have hW' := hW
  obtain ⟨p, q, hA0, hV, rfl, hfz, hnd⟩ := hW
  have hA : DataW.TrodAll enc Try.prog W 0 (fun _ => true) true Try.f3.params.toList args.toList ds p := hA0
  rw [Try.params3] at hA hval
  obtain ⟨v0, vs0, d0, ds0, p0, q0, hargs, rfl, rfl, h0, r0⟩ := trodAll_cons hA
  obtain ⟨rfl, rfl, rfl⟩ := trodAll_nil r0
  obtain rfl : args = #[v0] := by cases args; simp_all
  obtain ⟨rfl, rfl⟩ := trodVars_none hV
  have k0 := h0
  have lt0 : ∀ x ∈ p0, x.block < W.heap.size := by obtain ⟨m, hm⟩ := k0; exact DataW.trod_lt m _ _ _ hm
  obtain ⟨x0, rfl, ft0⟩ := SL.open_op (hval 0 23 v0 rfl rfl) h0
  clear hA0 hval0
  simp only [List.append_nil] at hW'
  refine (slicerNone_walk W x0 ft0).mono fun e W' ⟨he, bel⟩ => ?_
  subst he
  exact ⟨_, rfl, _, _, _, [], _, [], hW', trodAll_mk1 (shut_bool Try.underlying4 _), (trodAll_cons_mk (Below.trod slicerNone_laidOut (by kernel_rfl) (of_decide_eq_true (by kernel_rfl)) k0 bel lt0) trodAll_mk0), rfl, bel.frame _, fun h => by cases h⟩

/-- THE STATEMENT. -/
theorem slicerNone_proved : Rows.SlicerNoneSaid :=
  OpenClaim.holds_of_wide 3 Try.f3 rfl rfl rfl rfl rfl rfl rfl ⟨rfl, rfl, rfl, rfl, rfl⟩ rfl rfl rfl rfl rfl (by kernel_rfl) Try.func3 (by kernel_rfl)
    (of_decide_eq_true (by kernel_rfl)) (by unfold Func.isWrapper; first | (rw [if_pos (by decide +kernel)]; kernel_rfl) | (rw [if_neg (by decide +kernel)]; exact ⟨rfl, rfl⟩))
    (fun os started H enc _ => slicerNone_lifted os started H enc)
#print axioms slicerNone_proved
end Go.Proofs.Ytdacfnodihannaa
