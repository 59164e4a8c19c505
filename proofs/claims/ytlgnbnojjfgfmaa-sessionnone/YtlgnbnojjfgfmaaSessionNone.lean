/-
  SessionNone: of a session that is none nothing goes on. For every step, no condition.
-/
import Derived.Test.YtlgnbnojjfgfmaaSnAwake
import Derived.Test.YtlgnbnojjfgfmaaFrame22
namespace Go.Proofs.Ytlgnbnojjfgfmaa
open Go.ChangeShapes Go.WideShapes Go.ChangeAt Go.RowKit Go.Deep Go.WideElems Go.Lib SN

/-- What the loop stands on: the step in block gb, the empty session in block g, the two pointers behind it. -/
structure NoneAt (w wr : World) (gb g : Nat) (ok on xk xs : Int) (xi xy : ByteArray) (xd xq xp : Int) : Prop where
  bel : Below w.heap.size w wr
  c0 : wr.cell? ⟨gb, 0, none⟩ = some (.int .i64 ok)
  c1 : wr.cell? ⟨gb, 1, none⟩ = some (.int .i64 on)
  c2 : wr.cell? ⟨gb, 2, none⟩ = some (.int .i64 xk)
  c3 : wr.cell? ⟨gb, 3, none⟩ = some (.int .i64 xs)
  c4 : wr.cell? ⟨gb, 4, none⟩ = some (.string xi)
  c5 : wr.cell? ⟨gb, 5, none⟩ = some (.string xy)
  c6 : wr.cell? ⟨gb, 6, none⟩ = some (.int .i64 xd)
  c7 : wr.cell? ⟨gb, 7, none⟩ = some (.int .i64 xq)
  c8 : wr.cell? ⟨gb, 8, none⟩ = some (.int .i64 xp)
  e0 : wr.cell? ⟨g, 1, none⟩ = some (.bool false)
  l0 : wr.cell? ⟨g + 1, 0, none⟩ = some (.pointer none)
  l1 : wr.cell? ⟨g + 1, 1, none⟩ = some (.pointer (some ⟨g, 0, none⟩))
theorem NoneAt.more {w wr wx : World} {gb g : Nat} {ok on xk xs : Int} {xi xy : ByteArray} {xd xq xp : Int} (h : NoneAt w wr gb g ok on xk xs xi xy xd xq xp) (b : Below wr.heap.size wr wx) : NoneAt w wx gb g ok on xk xs xi xy xd xq xp :=
  ⟨h.bel.trans (b.mono h.bel.size), (b.cell (p := ⟨gb, 0, none⟩) (World.block_lt_of_cell? _ _ h.c0)).trans h.c0, (b.cell (p := ⟨gb, 1, none⟩) (World.block_lt_of_cell? _ _ h.c1)).trans h.c1, (b.cell (p := ⟨gb, 2, none⟩) (World.block_lt_of_cell? _ _ h.c2)).trans h.c2, (b.cell (p := ⟨gb, 3, none⟩) (World.block_lt_of_cell? _ _ h.c3)).trans h.c3, (b.cell (p := ⟨gb, 4, none⟩) (World.block_lt_of_cell? _ _ h.c4)).trans h.c4, (b.cell (p := ⟨gb, 5, none⟩) (World.block_lt_of_cell? _ _ h.c5)).trans h.c5, (b.cell (p := ⟨gb, 6, none⟩) (World.block_lt_of_cell? _ _ h.c6)).trans h.c6, (b.cell (p := ⟨gb, 7, none⟩) (World.block_lt_of_cell? _ _ h.c7)).trans h.c7, (b.cell (p := ⟨gb, 8, none⟩) (World.block_lt_of_cell? _ _ h.c8)).trans h.c8, (b.cell (p := ⟨g, 1, none⟩) (World.block_lt_of_cell? _ _ h.e0)).trans h.e0, (b.cell (p := ⟨g + 1, 0, none⟩) (World.block_lt_of_cell? _ _ h.l0)).trans h.l0, (b.cell (p := ⟨g + 1, 1, none⟩) (World.block_lt_of_cell? _ _ h.l1)).trans h.l1⟩
set_option maxRecDepth 100000 in
set_option maxHeartbeats 16000000 in
theorem none_walk (w : World) (ok on xk xs : Int) (xi xy : ByteArray) (xd xq xp : Int) : Calls Try.prog 4 #[.agg #[.int .i64 ok, .int .i64 on, .int .i64 xk, .int .i64 xs, .string xi, .string xy, .int .i64 xd, .int .i64 xq, .int .i64 xp]] w fun e w' => e = .returned (.bool true) ∧ Below w.heap.size w w' := by
  have b0 := (Below.refl _ w).alloc (Nat.le_refl _) (.cells #[.int .i64 ok, .int .i64 on, .int .i64 xk, .int .i64 xs, .string xi, .string xy, .int .i64 xd, .int .i64 xq, .int .i64 xp] 36)
  have F1 := awake_any (w.alloc (.cells #[.int .i64 ok, .int .i64 on, .int .i64 xk, .int .i64 xs, .string xi, .string xy, .int .i64 xd, .int .i64 xq, .int .i64 xp] 36))
  have f0 : (w.alloc (.cells #[.int .i64 ok, .int .i64 on, .int .i64 xk, .int .i64 xs, .string xi, .string xy, .int .i64 xd, .int .i64 xq, .int .i64 xp] 36)).cell? ⟨w.heap.size, 0, none⟩ = some (.int .i64 ok) := by simp
  have f1 : (w.alloc (.cells #[.int .i64 ok, .int .i64 on, .int .i64 xk, .int .i64 xs, .string xi, .string xy, .int .i64 xd, .int .i64 xq, .int .i64 xp] 36)).cell? ⟨w.heap.size, 1, none⟩ = some (.int .i64 on) := by simp
  have f2 : (w.alloc (.cells #[.int .i64 ok, .int .i64 on, .int .i64 xk, .int .i64 xs, .string xi, .string xy, .int .i64 xd, .int .i64 xq, .int .i64 xp] 36)).cell? ⟨w.heap.size, 2, none⟩ = some (.int .i64 xk) := by simp
  have f3 : (w.alloc (.cells #[.int .i64 ok, .int .i64 on, .int .i64 xk, .int .i64 xs, .string xi, .string xy, .int .i64 xd, .int .i64 xq, .int .i64 xp] 36)).cell? ⟨w.heap.size, 3, none⟩ = some (.int .i64 xs) := by simp
  have f4 : (w.alloc (.cells #[.int .i64 ok, .int .i64 on, .int .i64 xk, .int .i64 xs, .string xi, .string xy, .int .i64 xd, .int .i64 xq, .int .i64 xp] 36)).cell? ⟨w.heap.size, 4, none⟩ = some (.string xi) := by simp
  have f5 : (w.alloc (.cells #[.int .i64 ok, .int .i64 on, .int .i64 xk, .int .i64 xs, .string xi, .string xy, .int .i64 xd, .int .i64 xq, .int .i64 xp] 36)).cell? ⟨w.heap.size, 5, none⟩ = some (.string xy) := by simp
  have f6 : (w.alloc (.cells #[.int .i64 ok, .int .i64 on, .int .i64 xk, .int .i64 xs, .string xi, .string xy, .int .i64 xd, .int .i64 xq, .int .i64 xp] 36)).cell? ⟨w.heap.size, 6, none⟩ = some (.int .i64 xd) := by simp
  have f7 : (w.alloc (.cells #[.int .i64 ok, .int .i64 on, .int .i64 xk, .int .i64 xs, .string xi, .string xy, .int .i64 xd, .int .i64 xq, .int .i64 xp] 36)).cell? ⟨w.heap.size, 7, none⟩ = some (.int .i64 xq) := by simp
  have f8 : (w.alloc (.cells #[.int .i64 ok, .int .i64 on, .int .i64 xk, .int .i64 xs, .string xi, .string xy, .int .i64 xd, .int .i64 xq, .int .i64 xp] 36)).cell? ⟨w.heap.size, 8, none⟩ = some (.int .i64 xp) := by simp
  have HF : Hid (_ ∧ _ ∧ _ ∧ _ ∧ _ ∧ _ ∧ _ ∧ _ ∧ _ ∧ _) := ⟨b0, f0, f1, f2, f3, f4, f5, f6, f7, f8⟩
  obtain ⟨gb, hob⟩ : ∃ gb, gb = w.heap.size := ⟨_, rfl⟩
  clear b0 f0 f1 f2 f3 f4 f5 f6 f7 f8
  go_enter Try.func4, Try.ntmps4
  go_wp2_with fail
  refine F1.mono ?_
  rintro e w1 ⟨rfl, hb⟩
  have I : Hid (NoneAt w ((w1.alloc (.cells #[.pointer none, .bool false, .int .i64 0, .int .i64 0, .int .i64 0, .bool false] 42)).alloc (.cells #[.pointer none, .pointer (some ⟨w1.heap.size, 0, none⟩)] 25)) gb w1.heap.size ok on xk xs xi xy xd xq xp) := by
    obtain ⟨b0, f0, f1, f2, f3, f4, f5, f6, f7, f8⟩ := HF.out
    have z1 := hb.size
    have z0 : w.heap.size < (w.alloc (.cells #[.int .i64 ok, .int .i64 on, .int .i64 xk, .int .i64 xs, .string xi, .string xy, .int .i64 xd, .int .i64 xq, .int .i64 xp] 36)).heap.size := by simp
    have hl : w.heap.size < w1.heap.size := by omega
    have b2 := ((Below.refl w1.heap.size w1).alloc (Nat.le_refl _) (.cells #[.pointer none, .bool false, .int .i64 0, .int .i64 0, .int .i64 0, .bool false] 42)).alloc (by simp) (.cells #[.pointer none, .pointer (some ⟨w1.heap.size, 0, none⟩)] 25)
    have g : ∀ j x, (w.alloc (.cells #[.int .i64 ok, .int .i64 on, .int .i64 xk, .int .i64 xs, .string xi, .string xy, .int .i64 xd, .int .i64 xq, .int .i64 xp] 36)).cell? ⟨w.heap.size, j, none⟩ = some x → ((w1.alloc (.cells #[.pointer none, .bool false, .int .i64 0, .int .i64 0, .int .i64 0, .bool false] 42)).alloc (.cells #[.pointer none, .pointer (some ⟨w1.heap.size, 0, none⟩)] 25)).cell? ⟨w.heap.size, j, none⟩ = some x := fun j x e => by
      rw [b2.cell (p := ⟨w.heap.size, j, none⟩) hl, hb.cell (p := ⟨w.heap.size, j, none⟩) z0]; exact e
    rw [hob]
    exact ⟨b0.trans ((hb.mono (by omega)).trans (b2.mono (by omega))), g 0 _ f0, g 1 _ f1, g 2 _ f2, g 3 _ f3, g 4 _ f4, g 5 _ f5, g 6 _ f6, g 7 _ f7, g 8 _ f8, by simp, by simp, by simp⟩
  clear HF hb
  go_wp2_with fail
  rw [← hob]
  generalize ((w1.alloc (.cells #[.pointer none, .bool false, .int .i64 0, .int .i64 0, .int .i64 0, .bool false] 42)).alloc (.cells #[.pointer none, .pointer (some ⟨w1.heap.size, 0, none⟩)] 25)) = w3 at *
  generalize w1.heap.size = g at *
  clear hob F1
  go_loopw [17] (fun c wr => ∃ j : Nat, c = .int .i64 (j : Int) ∧ j ≤ 2 ∧ Hid (NoneAt w wr gb g ok on xk xs xi xy xd xq xp)) (fun c _ => 2 - (RowKit.intOf c).toNat)
  case atStart => exact ⟨0, rfl, by omega, I.out⟩
  case round =>
    clear I
    obtain ⟨j, rfl, hj, I⟩ := hrel
    by_cases hlt : j < 2
    · obtain ⟨o, l0, NP⟩ : ∃ o, wr.cell? ⟨g + 1, j, none⟩ = some (.pointer o) ∧ NoSes wr (.pointer o) := by
        by_cases j0 : j = 0
        · subst j0; exact ⟨_, I.out.l0, .inl rfl⟩
        · obtain rfl : j = 1 := by omega
          exact ⟨_, I.out.l1, .inr ⟨_, rfl, I.out.e0⟩⟩
      have HN : Hid (NoSes wr (.pointer o)) := NP
      clear NP
      have t0 : (j : Int) < 2 := by omega
      have t1 : (0 : Int) ≤ (j : Int) := by omega
      have c2 := I.out.c2
      have c3 := I.out.c3
      have c4 := I.out.c4
      have c5 := I.out.c5
      have c6 := I.out.c6
      have c7 := I.out.c7
      have c8 := I.out.c8
      have G0 := sendN HN.out ⟨xk, xs, xi, xy, xd, xq, xp⟩
      simp only [oV] at G0
      go_wp2_with fail
      refine G0.mono ?_
      rintro e w4 ⟨rfl, b4⟩
      have I4 : Hid (NoneAt w w4 gb g ok on xk xs xi xy xd xq xp) := I.out.more b4
      have HN4 : Hid (NoSes w4 (.pointer o)) := HN.out.below b4
      clear I HN G0 c2 c3 c4 c5 c6 c7 c8 l0 b4
      have G0 := spopN HN4.out
      simp only [oV, o0] at G0
      go_wp2_with fail
      refine G0.mono ?_
      rintro e w5 ⟨rfl, b5⟩
      have B6 : Below w4.heap.size w4 (w5.alloc (.cells #[.int .i64 0, .int .i64 0, .string ⟨#[]⟩, .string ⟨#[]⟩, .int .i64 0, .int .i64 0, .int .i64 0] 34)) := b5.alloc b5.size _
      have I6 : Hid (NoneAt w (w5.alloc (.cells #[.int .i64 0, .int .i64 0, .string ⟨#[]⟩, .string ⟨#[]⟩, .int .i64 0, .int .i64 0, .int .i64 0] 34)) gb g ok on xk xs xi xy xd xq xp) := I4.out.more B6
      have HN6 : Hid (NoSes (w5.alloc (.cells #[.int .i64 0, .int .i64 0, .string ⟨#[]⟩, .string ⟨#[]⟩, .int .i64 0, .int .i64 0, .int .i64 0] 34)) (.pointer o)) := HN4.out.below B6
      have X6 : Hid (Bx (w5.alloc (.cells #[.int .i64 0, .int .i64 0, .string ⟨#[]⟩, .string ⟨#[]⟩, .int .i64 0, .int .i64 0, .int .i64 0] 34)) w5.heap.size o0) := Bx.new w5 o0 _
      clear I4 HN4 G0 b5 B6
      go_upto_region 9 with fail
      generalize w5.alloc (.cells #[.int .i64 0, .int .i64 0, .string ⟨#[]⟩, .string ⟨#[]⟩, .int .i64 0, .int .i64 0, .int .i64 0] 34) = w6 at *
      generalize w5.heap.size = gx at *
      have c1 := I6.out.c1
      obtain ⟨d0, d1, d2, d3, d4, d5, d6⟩ := X6.out.sev.all0
      simp only [o0] at d0 d1 d2 d3 d4 d5 d6
      have G0 := faultN HN6.out
      go_wp2_with fail
      refine G0.mono ?_
      rintro e w7 ⟨rfl, rfl⟩
      clear G0
      have G0 := downN HN6.out
      go_wp2_with fail
      refine G0.mono ?_
      rintro e w7 ⟨rfl, rfl⟩
      clear G0
      have G0 := upN HN6.out
      go_wp2_with fail
      refine G0.mono ?_
      rintro e w7 ⟨rfl, rfl⟩
      clear G0
      have G0 := takeN HN6.out on
      go_wp2_with fail
      refine G0.mono ?_
      rintro e w7 ⟨rfl, rfl⟩
      clear G0
      have G0 := waitingN HN6.out
      go_wp2_with fail
      refine G0.mono ?_
      rintro e w7 ⟨rfl, rfl⟩
      clear G0
      have G0 := sentN HN6.out
      go_wp2_with fail
      refine G0.mono ?_
      rintro e w7 ⟨rfl, rfl⟩
      clear G0
      have G0 := takenN HN6.out
      go_wp2_with fail
      refine G0.mono ?_
      rintro e w7 ⟨rfl, rfl⟩
      clear G0
      have G0 := faultsN HN6.out
      go_wp2_with fail
      refine G0.mono ?_
      rintro e w7 ⟨rfl, rfl⟩
      clear G0
      have G0 := healthyN HN6.out
      go_wp2_with fail
      refine G0.mono ?_
      rintro e w7 ⟨rfl, rfl⟩
      clear G0
      clear d0 d1 d2 d3 d4 d5 d6
      go_wp2_with fail
      go_roundw
      case rel => exact ⟨j + 1, by simp, by omega, I6.out⟩
      case measure => simp [RowKit.intOf]; omega
    · obtain rfl : j = 2 := by omega
      go_wp2_with fail
      go_ret
      exact ⟨rfl, I.out.bel⟩
theorem sessionNone_walk (w : World) (x : Opc) (_hz : x.o.i.size ≤ maxLen ∧ x.o.y.size ≤ maxLen ∧ x.n ≤ 9223372036854775807) : Calls Try.prog 4 #[.agg x.cells] w fun e w' => e = .returned (.bool true) ∧ Below w.heap.size w w' := none_walk w x.k x.n x.o.k x.o.s x.o.i x.o.y x.o.d x.o.q x.o.p
theorem sessionNone_own : ownKnob Try.prog.godebug = none := by kernel_rfl
theorem sessionNone_laidOut : laidOutB Try.prog = true := by kernel_rfl
set_option maxRecDepth 100000 in
theorem sessionNone_lifted (os : Os) (started : os.Started) (H : Type) (enc : TypeId × Value → H) :
    ReturnsInHanded {} Try.checked os 4 .any (Rows.sessionNoneSpec.pre6 enc Try.prog Try.f4 Rows.sessionNoneRow.domain false) (Rows.sessionNoneSpec.post enc Try.prog Try.f4 false true false false) := by
  refine returnsInHanded_of_change (C := Try.checked) sessionNone_own started (by kernel_rfl) Try.func4
    (ChangeSpec.witness6 (enc := enc) (C := Try.checked) false ⟨#[], #[.agg #[.int .i64 0, .int .i64 0, .int .i64 0, .int .i64 0, .string ⟨#[]⟩, .string ⟨#[]⟩, .int .i64 0, .int .i64 0, .int .i64 0]], []⟩ 8 (by kernel_rfl) (by kernel_rfl) (by kernel_rfl) (by kernel_rfl)) ?_
  intro W base args ds gs before hval0 hW hcnd _
  have hval : ∀ (j : Nat) t v, Try.f4.params[j]? = some t → args[j]? = some v → Value.okWide Try.prog W .any base t v := hval0
  have hW' := hW
  obtain ⟨p, q, hA0, hV, rfl, hfz, hnd⟩ := hW
  have hA : DataW.TrodAll enc Try.prog W 0 (fun _ => true) true Try.f4.params.toList args.toList ds p := hA0
  rw [Try.params4] at hA hval
  obtain ⟨v0, vs0, d0, ds0, p0, q0, hargs, rfl, rfl, h0, r0⟩ := trodAll_cons hA
  obtain ⟨rfl, rfl, rfl⟩ := trodAll_nil r0
  obtain rfl : args = #[v0] := by cases args; simp_all
  obtain ⟨rfl, rfl⟩ := trodVars_none hV
  have k0 := h0
  have lt0 : ∀ x ∈ p0, x.block < W.heap.size := by obtain ⟨m, hm⟩ := k0; exact DataW.trod_lt m _ _ _ hm
  obtain ⟨x0, rfl, hz0⟩ := open_op (hval 0 36 v0 rfl rfl) h0
  clear hA0 hval0
  simp only [List.append_nil] at hW'
  refine (sessionNone_walk W x0 hz0).mono fun e W' ⟨he, bel⟩ => ?_
  subst he
  exact ⟨_, rfl, _, _, _, [], _, [], hW', trodAll_mk1 (shut_bool Try.underlying4 _), (trodAll_cons_mk (Below.trod sessionNone_laidOut (by kernel_rfl) (of_decide_eq_true (by kernel_rfl)) k0 bel lt0) trodAll_mk0), rfl, bel.frame _, fun h => by cases h⟩

/-- THE STATEMENT. -/
theorem sessionNone_proved : Rows.SessionNoneSaid :=
  OpenClaim.holds_of_wide 4 Try.f4 rfl rfl rfl rfl rfl rfl rfl ⟨rfl, rfl, rfl, rfl, rfl⟩ rfl rfl rfl rfl rfl (by kernel_rfl) Try.func4 (by kernel_rfl)
    (of_decide_eq_true (by kernel_rfl)) (by unfold Func.isWrapper; first | (rw [if_pos (by decide +kernel)]; kernel_rfl) | (rw [if_neg (by decide +kernel)]; exact ⟨rfl, rfl⟩))
    (fun os started H enc _ => sessionNone_lifted os started H enc)
#print axioms sessionNone_proved
end Go.Proofs.Ytlgnbnojjfgfmaa
