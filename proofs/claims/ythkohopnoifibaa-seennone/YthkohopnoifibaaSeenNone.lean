/-
  SeenNone: one that is none has met nothing. For every step, no condition.
-/
import Derived.Test.YthkohopnoifibaaSeAwake
import Derived.Test.YthkohopnoifibaaFrame19
namespace Go.Proofs.Ythkohopnoifibaa
open Go.ChangeShapes Go.WideShapes Go.ChangeAt Go.RowKit Go.Deep Go.WideElems Go.Lib SE

/-- What the loop stands on: the step in block gb, the empty Seen in block g, the two pointers behind it. -/
structure NoneAt (w wr : World) (gb g : Nat) (ok : Int) (on oo : ByteArray) (oq op : Int) (ob : Bool) : Prop where
  bel : Below w.heap.size w wr
  c0 : wr.cell? ⟨gb, 0, none⟩ = some (.int .i64 ok)
  c1 : wr.cell? ⟨gb, 1, none⟩ = some (.string on)
  c2 : wr.cell? ⟨gb, 2, none⟩ = some (.string oo)
  c3 : wr.cell? ⟨gb, 3, none⟩ = some (.int .i64 oq)
  c4 : wr.cell? ⟨gb, 4, none⟩ = some (.int .i64 op)
  c5 : wr.cell? ⟨gb, 5, none⟩ = some (.bool ob)
  e0 : wr.cell? ⟨g, 0, none⟩ = some (.int .i64 0)
  l0 : wr.cell? ⟨g + 1, 0, none⟩ = some (.pointer none)
  l1 : wr.cell? ⟨g + 1, 1, none⟩ = some (.pointer (some ⟨g, 0, none⟩))
theorem NoneAt.more {w wr wx : World} {gb g : Nat} {ok : Int} {on oo : ByteArray} {oq op : Int} {ob : Bool} (h : NoneAt w wr gb g ok on oo oq op ob) (b : Below wr.heap.size wr wx) : NoneAt w wx gb g ok on oo oq op ob :=
  ⟨h.bel.trans (b.mono h.bel.size), (b.cell (p := ⟨gb, 0, none⟩) (World.block_lt_of_cell? _ _ h.c0)).trans h.c0, (b.cell (p := ⟨gb, 1, none⟩) (World.block_lt_of_cell? _ _ h.c1)).trans h.c1, (b.cell (p := ⟨gb, 2, none⟩) (World.block_lt_of_cell? _ _ h.c2)).trans h.c2, (b.cell (p := ⟨gb, 3, none⟩) (World.block_lt_of_cell? _ _ h.c3)).trans h.c3, (b.cell (p := ⟨gb, 4, none⟩) (World.block_lt_of_cell? _ _ h.c4)).trans h.c4, (b.cell (p := ⟨gb, 5, none⟩) (World.block_lt_of_cell? _ _ h.c5)).trans h.c5, (b.cell (p := ⟨g, 0, none⟩) (World.block_lt_of_cell? _ _ h.e0)).trans h.e0, (b.cell (p := ⟨g + 1, 0, none⟩) (World.block_lt_of_cell? _ _ h.l0)).trans h.l0, (b.cell (p := ⟨g + 1, 1, none⟩) (World.block_lt_of_cell? _ _ h.l1)).trans h.l1⟩
set_option maxRecDepth 100000 in
set_option maxHeartbeats 16000000 in
theorem none_walk (w : World) (ok : Int) (on oo : ByteArray) (oq op : Int) (ob : Bool) : Calls Try.prog 4 #[.agg #[.int .i64 ok, .string on, .string oo, .int .i64 oq, .int .i64 op, .bool ob]] w fun e w' => e = .returned (.bool true) ∧ Below w.heap.size w w' := by
  have b0 := (Below.refl _ w).alloc (Nat.le_refl _) (.cells #[.int .i64 ok, .string on, .string oo, .int .i64 oq, .int .i64 op, .bool ob] 36)
  have F1 := awake_any (w.alloc (.cells #[.int .i64 ok, .string on, .string oo, .int .i64 oq, .int .i64 op, .bool ob] 36))
  have f0 : (w.alloc (.cells #[.int .i64 ok, .string on, .string oo, .int .i64 oq, .int .i64 op, .bool ob] 36)).cell? ⟨w.heap.size, 0, none⟩ = some (.int .i64 ok) := by simp
  have f1 : (w.alloc (.cells #[.int .i64 ok, .string on, .string oo, .int .i64 oq, .int .i64 op, .bool ob] 36)).cell? ⟨w.heap.size, 1, none⟩ = some (.string on) := by simp
  have f2 : (w.alloc (.cells #[.int .i64 ok, .string on, .string oo, .int .i64 oq, .int .i64 op, .bool ob] 36)).cell? ⟨w.heap.size, 2, none⟩ = some (.string oo) := by simp
  have f3 : (w.alloc (.cells #[.int .i64 ok, .string on, .string oo, .int .i64 oq, .int .i64 op, .bool ob] 36)).cell? ⟨w.heap.size, 3, none⟩ = some (.int .i64 oq) := by simp
  have f4 : (w.alloc (.cells #[.int .i64 ok, .string on, .string oo, .int .i64 oq, .int .i64 op, .bool ob] 36)).cell? ⟨w.heap.size, 4, none⟩ = some (.int .i64 op) := by simp
  have f5 : (w.alloc (.cells #[.int .i64 ok, .string on, .string oo, .int .i64 oq, .int .i64 op, .bool ob] 36)).cell? ⟨w.heap.size, 5, none⟩ = some (.bool ob) := by simp
  have HF : Hid (_ ∧ _ ∧ _ ∧ _ ∧ _ ∧ _ ∧ _) := ⟨b0, f0, f1, f2, f3, f4, f5⟩
  obtain ⟨gb, hob⟩ : ∃ gb, gb = w.heap.size := ⟨_, rfl⟩
  clear b0 f0 f1 f2 f3 f4 f5
  go_enter Try.func4, Try.ntmps4
  go_wp2_with fail
  refine F1.mono ?_
  rintro e w1 ⟨rfl, hb⟩
  have I : Hid (NoneAt w ((w1.alloc (.cells #[.int .i64 0, .map none] 50)).alloc (.cells #[.pointer none, .pointer (some ⟨w1.heap.size, 0, none⟩)] 25)) gb w1.heap.size ok on oo oq op ob) := by
    obtain ⟨b0, f0, f1, f2, f3, f4, f5⟩ := HF.out
    have z1 := hb.size
    have z0 : w.heap.size < (w.alloc (.cells #[.int .i64 ok, .string on, .string oo, .int .i64 oq, .int .i64 op, .bool ob] 36)).heap.size := by simp
    have hl : w.heap.size < w1.heap.size := by omega
    have b2 := ((Below.refl w1.heap.size w1).alloc (Nat.le_refl _) (.cells #[.int .i64 0, .map none] 50)).alloc (by simp) (.cells #[.pointer none, .pointer (some ⟨w1.heap.size, 0, none⟩)] 25)
    have g : ∀ j x, (w.alloc (.cells #[.int .i64 ok, .string on, .string oo, .int .i64 oq, .int .i64 op, .bool ob] 36)).cell? ⟨w.heap.size, j, none⟩ = some x → ((w1.alloc (.cells #[.int .i64 0, .map none] 50)).alloc (.cells #[.pointer none, .pointer (some ⟨w1.heap.size, 0, none⟩)] 25)).cell? ⟨w.heap.size, j, none⟩ = some x := fun j x e => by
      rw [b2.cell (p := ⟨w.heap.size, j, none⟩) hl, hb.cell (p := ⟨w.heap.size, j, none⟩) z0]; exact e
    rw [hob]
    exact ⟨b0.trans ((hb.mono (by omega)).trans (b2.mono (by omega))), g 0 _ f0, g 1 _ f1, g 2 _ f2, g 3 _ f3, g 4 _ f4, g 5 _ f5, by simp, by simp, by simp⟩
  clear HF hb
  go_wp2_with fail
  rw [← hob]
  generalize ((w1.alloc (.cells #[.int .i64 0, .map none] 50)).alloc (.cells #[.pointer none, .pointer (some ⟨w1.heap.size, 0, none⟩)] 25)) = w3 at *
  generalize w1.heap.size = g at *
  clear hob F1
  go_loopw [15] (fun c wr => ∃ j : Nat, c = .int .i64 (j : Int) ∧ j ≤ 2 ∧ Hid (NoneAt w wr gb g ok on oo oq op ob)) (fun c _ => 2 - (RowKit.intOf c).toNat)
  case atStart => exact ⟨0, rfl, by omega, I.out⟩
  case round =>
    clear I
    obtain ⟨j, rfl, hj, I⟩ := hrel
    by_cases hlt : j < 2
    · obtain ⟨o, l0, NP⟩ : ∃ o, wr.cell? ⟨g + 1, j, none⟩ = some (.pointer o) ∧ NoSeen wr (.pointer o) := by
        by_cases j0 : j = 0
        · subst j0; exact ⟨_, I.out.l0, .inl rfl⟩
        · obtain rfl : j = 1 := by omega
          exact ⟨_, I.out.l1, .inr ⟨_, rfl, I.out.e0⟩⟩
      have HN : Hid (NoSeen wr (.pointer o)) := NP
      clear NP
      have t0 : (j : Int) < 2 := by omega
      have t1 : (0 : Int) ≤ (j : Int) := by omega
      have c1 := I.out.c1
      have G0 := getN HN.out on
      simp only [exV, x0] at G0
      go_wp2_with fail
      refine G0.mono ?_
      rintro e w4 ⟨rfl, b4⟩
      have B5 : Below wr.heap.size wr (w4.alloc (.cells #[.string ⟨#[]⟩, .int .i64 0, .int .i64 0, .bool false] 34)) := b4.alloc b4.size _
      have I4 : Hid (NoneAt w (w4.alloc (.cells #[.string ⟨#[]⟩, .int .i64 0, .int .i64 0, .bool false] 34)) gb g ok on oo oq op ob) := I.out.more B5
      have HN4 : Hid (NoSeen (w4.alloc (.cells #[.string ⟨#[]⟩, .int .i64 0, .int .i64 0, .bool false] 34)) (.pointer o)) := HN.out.below B5
      have X4 : Hid (Box4 (w4.alloc (.cells #[.string ⟨#[]⟩, .int .i64 0, .int .i64 0, .bool false] 34)) w4.heap.size x0) := Box4.new w4 x0 _
      clear I HN G0 c1 l0 b4 B5
      go_upto_region 8 with fail
      generalize w4.alloc (.cells #[.string ⟨#[]⟩, .int .i64 0, .int .i64 0, .bool false] 34) = w5 at *
      generalize w4.heap.size = gx at *
      have c1 := I4.out.c1
      have c2 := I4.out.c2
      have c3 := I4.out.c3
      have c4 := I4.out.c4
      have c5 := I4.out.c5
      have G0 := putN HN4.out on oo oq op ob
      go_wp2_with fail
      refine G0.mono ?_
      rintro e w6 ⟨rfl, b6⟩
      have I6 : Hid (NoneAt w w6 gb g ok on oo oq op ob) := I4.out.more b6
      have HN6 : Hid (NoSeen w6 (.pointer o)) := HN4.out.below b6
      have X6 : Hid (Box4 w6 gx x0) := X4.out.below b6
      clear I4 HN4 X4 G0 c1 c2 c3 c4 c5 b6
      have c1 := I6.out.c1
      have G0 := bustN HN6.out on
      go_wp2_with fail
      refine G0.mono ?_
      rintro e w7 ⟨rfl, b7⟩
      have I7 : Hid (NoneAt w w7 gb g ok on oo oq op ob) := I6.out.more b7
      have HN7 : Hid (NoSeen w7 (.pointer o)) := HN6.out.below b7
      have X7 := X6.out.below b7
      clear I6 HN6 X6 G0 c1 b7
      obtain ⟨d0, d1, d2, d3, _, _, _, _⟩ := X7
      simp only [x0] at d0 d1 d2 d3
      have G0 := countN HN7.out
      go_wp2_with fail
      refine G0.mono ?_
      rintro e w8 ⟨rfl, rfl⟩
      clear G0 d0 d1 d2 d3 HN7
      go_wp2_with fail
      go_roundw
      case rel => exact ⟨j + 1, by simp, by omega, I7.out⟩
      case measure => simp [RowKit.intOf]; omega
    · obtain rfl : j = 2 := by omega
      go_wp2_with fail
      go_ret
      exact ⟨rfl, I.out.bel⟩
theorem seenNone_walk (w : World) (x : Opc) (_hz : x.n.size ≤ maxLen ∧ x.x.o.size ≤ maxLen) : Calls Try.prog 4 #[.agg x.cells] w fun e w' => e = .returned (.bool true) ∧ Below w.heap.size w w' := none_walk w x.k x.n x.x.o x.x.q x.x.p x.x.k
theorem seenNone_own : ownKnob Try.prog.godebug = none := by kernel_rfl
theorem seenNone_laidOut : laidOutB Try.prog = true := by kernel_rfl
set_option maxRecDepth 100000 in
theorem seenNone_lifted (os : Os) (started : os.Started) (H : Type) (enc : TypeId × Value → H) :
    ReturnsInHanded {} Try.checked os 4 .any (Rows.seenNoneSpec.pre6 enc Try.prog Try.f4 Rows.seenNoneRow.domain false) (Rows.seenNoneSpec.post enc Try.prog Try.f4 false true false false) := by
  refine returnsInHanded_of_change (C := Try.checked) seenNone_own started (by kernel_rfl) Try.func4
    (ChangeSpec.witness6 (enc := enc) (C := Try.checked) false ⟨#[], #[.agg #[.int .i64 0, .string ⟨#[]⟩, .string ⟨#[]⟩, .int .i64 0, .int .i64 0, .bool false]], []⟩ 8 (by kernel_rfl) (by kernel_rfl) (by kernel_rfl) (by kernel_rfl)) ?_
  intro W base args ds gs before hval0 hW hcnd _
  have hval : ∀ (j : Nat) t v, Try.f4.params[j]? = some t → args[j]? = some v → Value.okWide Try.prog W .any base t v := hval0
  have hW' := hW
  obtain ⟨p, q, hA0, hV, rfl, hfz, hnd⟩ := hW
  have hA : DataW.TrodAll enc Try.prog W 0 (fun _ => true) true Try.f4.params.toList args.toList ds p := hA0
  rw [Try.params4] at hA hval
  obtain ⟨v0, vs0, d0, ds0, p0, q0, hargs, rfl, rfl, h0, r0⟩ := trodAll_cons hA
  obtain ⟨rfl, rfl, rfl⟩ := trodAll_nil r0
  obtain rfl : args = #[v0] := by cases args; simp_all
  obtain ⟨rfl, rfl⟩ := trodVars_none hV
  have k0 := h0
  have lt0 : ∀ x ∈ p0, x.block < W.heap.size := by obtain ⟨m, hm⟩ := k0; exact DataW.trod_lt m _ _ _ hm
  obtain ⟨x0, rfl, hz0⟩ := open_op (hval 0 36 v0 rfl rfl) h0
  clear hA0 hval0
  simp only [List.append_nil] at hW'
  refine (seenNone_walk W x0 hz0).mono fun e W' ⟨he, bel⟩ => ?_
  subst he
  exact ⟨_, rfl, _, _, _, [], _, [], hW', trodAll_mk1 (shut_bool Try.underlying4 _), (trodAll_cons_mk (Below.trod seenNone_laidOut (by kernel_rfl) (of_decide_eq_true (by kernel_rfl)) k0 bel lt0) trodAll_mk0), rfl, bel.frame _, fun h => by cases h⟩

/-- THE STATEMENT. -/
theorem seenNone_proved : Rows.SeenNoneSaid :=
  OpenClaim.holds_of_wide 4 Try.f4 rfl rfl rfl rfl rfl rfl rfl ⟨rfl, rfl, rfl, rfl, rfl⟩ rfl rfl rfl rfl rfl (by kernel_rfl) Try.func4 (by kernel_rfl)
    (of_decide_eq_true (by kernel_rfl)) (by unfold Func.isWrapper; first | (rw [if_pos (by decide +kernel)]; kernel_rfl) | (rw [if_neg (by decide +kernel)]; exact ⟨rfl, rfl⟩))
    (fun os started H enc _ => seenNone_lifted os started H enc)
#print axioms seenNone_proved
end Go.Proofs.Ythkohopnoifibaa
