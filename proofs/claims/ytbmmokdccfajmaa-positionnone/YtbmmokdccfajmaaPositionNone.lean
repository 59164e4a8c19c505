/-
  PositionNone: of positions that are none there is nothing. For every execution, no condition.
-/
import Derived.Test.YtbmmokdccfajmaaPoAwake
import Derived.Test.YtbmmokdccfajmaaFrame18
namespace Go.Proofs.Ytbmmokdccfajmaa
open Go.ChangeShapes Go.WideShapes Go.ChangeAt Go.RowKit Go.Deep Go.WideElems Go.Lib PO

/-- What the loop stands on: the execution in block ob, the empty positions in block g, the two pointers behind it. -/
structure NoneAt (w wr : World) (ob g : Nat) (a s d q p : Int) (k : Bool) : Prop where
  bel : Below w.heap.size w wr
  c0 : wr.cell? ⟨ob, 0, none⟩ = some (.int .i64 a)
  c1 : wr.cell? ⟨ob, 1, none⟩ = some (.int .i64 s)
  c2 : wr.cell? ⟨ob, 2, none⟩ = some (.int .i64 d)
  c3 : wr.cell? ⟨ob, 3, none⟩ = some (.int .i64 q)
  c4 : wr.cell? ⟨ob, 4, none⟩ = some (.int .i64 p)
  c5 : wr.cell? ⟨ob, 5, none⟩ = some (.bool k)
  e0 : wr.cell? ⟨g, 0, none⟩ = some (.slice none 0 0)
  l0 : wr.cell? ⟨g + 1, 0, none⟩ = some (.pointer none)
  l1 : wr.cell? ⟨g + 1, 1, none⟩ = some (.pointer (some ⟨g, 0, none⟩))
theorem NoneAt.more {w wr wx : World} {ob g : Nat} {a s d q p : Int} {k : Bool} (h : NoneAt w wr ob g a s d q p k) (b : Below wr.heap.size wr wx) : NoneAt w wx ob g a s d q p k :=
  ⟨h.bel.trans (b.mono h.bel.size), (b.cell (p := ⟨ob, 0, none⟩) (World.block_lt_of_cell? _ _ h.c0)).trans h.c0, (b.cell (p := ⟨ob, 1, none⟩) (World.block_lt_of_cell? _ _ h.c1)).trans h.c1, (b.cell (p := ⟨ob, 2, none⟩) (World.block_lt_of_cell? _ _ h.c2)).trans h.c2, (b.cell (p := ⟨ob, 3, none⟩) (World.block_lt_of_cell? _ _ h.c3)).trans h.c3, (b.cell (p := ⟨ob, 4, none⟩) (World.block_lt_of_cell? _ _ h.c4)).trans h.c4, (b.cell (p := ⟨ob, 5, none⟩) (World.block_lt_of_cell? _ _ h.c5)).trans h.c5, (b.cell (p := ⟨g, 0, none⟩) (World.block_lt_of_cell? _ _ h.e0)).trans h.e0, (b.cell (p := ⟨g + 1, 0, none⟩) (World.block_lt_of_cell? _ _ h.l0)).trans h.l0, (b.cell (p := ⟨g + 1, 1, none⟩) (World.block_lt_of_cell? _ _ h.l1)).trans h.l1⟩
set_option maxRecDepth 100000 in
set_option maxHeartbeats 16000000 in
theorem none_walk (w : World) (a s d q p : Int) (k : Bool) : Calls Try.prog 4 #[.agg #[.int .i64 a, .int .i64 s, .int .i64 d, .int .i64 q, .int .i64 p, .bool k]] w fun e w' => e = .returned (.bool true) ∧ Below w.heap.size w w' := by
  have b0 := (Below.refl _ w).alloc (Nat.le_refl _) (.cells #[.int .i64 a, .int .i64 s, .int .i64 d, .int .i64 q, .int .i64 p, .bool k] 30)
  have F1 := awake_any (w.alloc (.cells #[.int .i64 a, .int .i64 s, .int .i64 d, .int .i64 q, .int .i64 p, .bool k] 30))
  have f0 : (w.alloc (.cells #[.int .i64 a, .int .i64 s, .int .i64 d, .int .i64 q, .int .i64 p, .bool k] 30)).cell? ⟨w.heap.size, 0, none⟩ = some (.int .i64 a) := by simp
  have f1 : (w.alloc (.cells #[.int .i64 a, .int .i64 s, .int .i64 d, .int .i64 q, .int .i64 p, .bool k] 30)).cell? ⟨w.heap.size, 1, none⟩ = some (.int .i64 s) := by simp
  have f2 : (w.alloc (.cells #[.int .i64 a, .int .i64 s, .int .i64 d, .int .i64 q, .int .i64 p, .bool k] 30)).cell? ⟨w.heap.size, 2, none⟩ = some (.int .i64 d) := by simp
  have f3 : (w.alloc (.cells #[.int .i64 a, .int .i64 s, .int .i64 d, .int .i64 q, .int .i64 p, .bool k] 30)).cell? ⟨w.heap.size, 3, none⟩ = some (.int .i64 q) := by simp
  have f4 : (w.alloc (.cells #[.int .i64 a, .int .i64 s, .int .i64 d, .int .i64 q, .int .i64 p, .bool k] 30)).cell? ⟨w.heap.size, 4, none⟩ = some (.int .i64 p) := by simp
  have f5 : (w.alloc (.cells #[.int .i64 a, .int .i64 s, .int .i64 d, .int .i64 q, .int .i64 p, .bool k] 30)).cell? ⟨w.heap.size, 5, none⟩ = some (.bool k) := by simp
  have HF : Hid (_ ∧ _ ∧ _ ∧ _ ∧ _ ∧ _ ∧ _) := ⟨b0, f0, f1, f2, f3, f4, f5⟩
  obtain ⟨ob, hob⟩ : ∃ ob, ob = w.heap.size := ⟨_, rfl⟩
  clear b0 f0 f1 f2 f3 f4 f5
  go_enter Try.func4, Try.ntmps4
  go_wp2_with fail
  refine F1.mono ?_
  rintro e w1 ⟨rfl, hb⟩
  have I : Hid (NoneAt w ((w1.alloc (.cells #[.slice none 0 0] 39)).alloc (.cells #[.pointer none, .pointer (some ⟨w1.heap.size, 0, none⟩)] 24)) ob w1.heap.size a s d q p k) := by
    obtain ⟨b0, f0, f1, f2, f3, f4, f5⟩ := HF.out
    have z1 := hb.size
    have z0 : w.heap.size < (w.alloc (.cells #[.int .i64 a, .int .i64 s, .int .i64 d, .int .i64 q, .int .i64 p, .bool k] 30)).heap.size := by simp
    have hl : w.heap.size < w1.heap.size := by omega
    have b2 := ((Below.refl w1.heap.size w1).alloc (Nat.le_refl _) (.cells #[.slice none 0 0] 39)).alloc (by simp) (.cells #[.pointer none, .pointer (some ⟨w1.heap.size, 0, none⟩)] 24)
    have g : ∀ j x, (w.alloc (.cells #[.int .i64 a, .int .i64 s, .int .i64 d, .int .i64 q, .int .i64 p, .bool k] 30)).cell? ⟨w.heap.size, j, none⟩ = some x → ((w1.alloc (.cells #[.slice none 0 0] 39)).alloc (.cells #[.pointer none, .pointer (some ⟨w1.heap.size, 0, none⟩)] 24)).cell? ⟨w.heap.size, j, none⟩ = some x := fun j x e => by
      rw [b2.cell (p := ⟨w.heap.size, j, none⟩) hl, hb.cell (p := ⟨w.heap.size, j, none⟩) z0]; exact e
    rw [hob]
    exact ⟨b0.trans ((hb.mono (by omega)).trans (b2.mono (by omega))), g 0 _ f0, g 1 _ f1, g 2 _ f2, g 3 _ f3, g 4 _ f4, g 5 _ f5, by simp, by simp, by simp⟩
  clear HF hb
  go_wp2_with fail
  rw [← hob]
  generalize ((w1.alloc (.cells #[.slice none 0 0] 39)).alloc (.cells #[.pointer none, .pointer (some ⟨w1.heap.size, 0, none⟩)] 24)) = w3 at *
  generalize w1.heap.size = g at *
  clear hob F1
  go_loopw [17] (fun c wr => ∃ j : Nat, c = .int .i64 (j : Int) ∧ j ≤ 2 ∧ Hid (NoneAt w wr ob g a s d q p k)) (fun c _ => 2 - (RowKit.intOf c).toNat)
  case atStart => exact ⟨0, rfl, by omega, I.out⟩
  case round =>
    clear I
    obtain ⟨j, rfl, hj, I⟩ := hrel
    by_cases hlt : j < 2
    · obtain ⟨o, l0, NP⟩ : ∃ o, wr.cell? ⟨g + 1, j, none⟩ = some (.pointer o) ∧ NoPos wr (.pointer o) := by
        by_cases j0 : j = 0
        · subst j0; exact ⟨_, I.out.l0, .inl rfl⟩
        · obtain rfl : j = 1 := by omega
          exact ⟨_, I.out.l1, .inr ⟨_, rfl, I.out.e0⟩⟩
      have HN : Hid (NoPos wr (.pointer o)) := NP
      clear NP
      have t0 : (j : Int) < 2 := by omega
      have t1 : (0 : Int) ≤ (j : Int) := by omega
      have c0 := I.out.c0
      have c1 := I.out.c1
      have G0 := boughtN HN.out a s
      go_wp2_with fail
      refine G0.mono ?_
      rintro e w4 ⟨rfl, b4⟩
      have I4 : Hid (NoneAt w w4 ob g a s d q p k) := I.out.more b4
      have HN4 : Hid (NoPos w4 (.pointer o)) := HN.out.below b4
      clear I HN G0 c0 c1 l0 b4
      have c0 := I4.out.c0
      have c1 := I4.out.c1
      have G0 := soldN HN4.out a s
      go_wp2_with fail
      refine G0.mono ?_
      rintro e w5 ⟨rfl, b5⟩
      have I5 : Hid (NoneAt w w5 ob g a s d q p k) := I4.out.more b5
      have HN5 : Hid (NoPos w5 (.pointer o)) := HN4.out.below b5
      clear I4 HN4 G0 c0 c1 b5
      have c0 := I5.out.c0
      have c1 := I5.out.c1
      have c2 := I5.out.c2
      have c3 := I5.out.c3
      have c4 := I5.out.c4
      have c5 := I5.out.c5
      have G0 := moveN HN5.out a s d q p k
      go_wp2_with fail
      refine G0.mono ?_
      rintro e w6 ⟨rfl, b6⟩
      have I6 : Hid (NoneAt w w6 ob g a s d q p k) := I5.out.more b6
      have HN6 : Hid (NoPos w6 (.pointer o)) := HN5.out.below b6
      clear I5 HN5 G0 c0 c1 c2 c3 c4 c5 b6
      have c0 := I6.out.c0
      have c1 := I6.out.c1
      have G0 := netN HN6.out a s
      go_wp2_with fail
      refine G0.mono ?_
      rintro e w7 ⟨rfl, b7⟩
      have I7 : Hid (NoneAt w w7 ob g a s d q p k) := I6.out.more b7
      clear I6 HN6 G0 c0 c1 b7
      go_wp2_with fail
      go_roundw
      case rel => exact ⟨j + 1, by simp, by omega, I7.out⟩
      case measure => simp [RowKit.intOf]; omega
    · obtain rfl : j = 2 := by omega
      go_wp2_with fail
      go_ret
      exact ⟨rfl, I.out.bel⟩
theorem positionNone_walk (w : World) (x : Ex) : Calls Try.prog 4 #[.agg x.cells] w fun e w' => e = .returned (.bool true) ∧ Below w.heap.size w w' := none_walk w x.a x.s x.d x.q x.p x.k
theorem positionNone_own : ownKnob Try.prog.godebug = none := by kernel_rfl
theorem positionNone_laidOut : laidOutB Try.prog = true := by kernel_rfl
set_option maxRecDepth 100000 in
theorem positionNone_lifted (os : Os) (started : os.Started) (H : Type) (enc : TypeId × Value → H) :
    ReturnsInHanded {} Try.checked os 4 .any (Rows.positionNoneSpec.pre6 enc Try.prog Try.f4 Rows.positionNoneRow.domain false) (Rows.positionNoneSpec.post enc Try.prog Try.f4 false true false false) := by
  refine returnsInHanded_of_change (C := Try.checked) positionNone_own started (by kernel_rfl) Try.func4
    (ChangeSpec.witness6 (enc := enc) (C := Try.checked) false ⟨#[], #[.agg #[.int .i64 0, .int .i64 0, .int .i64 0, .int .i64 0, .int .i64 0, .bool false]], []⟩ 8 (by kernel_rfl) (by kernel_rfl) (by kernel_rfl) (by kernel_rfl)) ?_
  intro W base args ds gs before hval0 hW hcnd _
  have hval : ∀ (j : Nat) t v, Try.f4.params[j]? = some t → args[j]? = some v → Value.okWide Try.prog W .any base t v := hval0
  have hW' := hW
  obtain ⟨p, q, hA0, hV, rfl, hfz, hnd⟩ := hW
  have hA : DataW.TrodAll enc Try.prog W 0 (fun _ => true) true Try.f4.params.toList args.toList ds p := hA0
  rw [Try.params4] at hA hval
  obtain ⟨v0, vs0, d0, ds0, p0, q0, hargs, rfl, rfl, h0, r0⟩ := trodAll_cons hA
  obtain ⟨rfl, rfl, rfl⟩ := trodAll_nil r0
  obtain rfl : args = #[v0] := by cases args; simp_all
  obtain ⟨rfl, rfl⟩ := trodVars_none hV
  have k0 := h0
  have lt0 : ∀ x ∈ p0, x.block < W.heap.size := by obtain ⟨m, hm⟩ := k0; exact DataW.trod_lt m _ _ _ hm
  obtain ⟨x0, rfl⟩ := open_op (hval 0 30 v0 rfl rfl) h0
  clear hA0 hval0
  simp only [List.append_nil] at hW'
  refine (positionNone_walk W x0).mono fun e W' ⟨he, bel⟩ => ?_
  subst he
  exact ⟨_, rfl, _, _, _, [], _, [], hW', trodAll_mk1 (shut_bool Try.underlying4 _), (trodAll_cons_mk (Below.trod positionNone_laidOut (by kernel_rfl) (of_decide_eq_true (by kernel_rfl)) k0 bel lt0) trodAll_mk0), rfl, bel.frame _, fun h => by cases h⟩

/-- THE STATEMENT. -/
theorem positionNone_proved : Rows.PositionNoneSaid :=
  OpenClaim.holds_of_wide 4 Try.f4 rfl rfl rfl rfl rfl rfl rfl ⟨rfl, rfl, rfl, rfl, rfl⟩ rfl rfl rfl rfl rfl (by kernel_rfl) Try.func4 (by kernel_rfl)
    (of_decide_eq_true (by kernel_rfl)) (by unfold Func.isWrapper; first | (rw [if_pos (by decide +kernel)]; kernel_rfl) | (rw [if_neg (by decide +kernel)]; exact ⟨rfl, rfl⟩))
    (fun os started H enc _ => positionNone_lifted os started H enc)
#print axioms positionNone_proved
end Go.Proofs.Ytbmmokdccfajmaa
