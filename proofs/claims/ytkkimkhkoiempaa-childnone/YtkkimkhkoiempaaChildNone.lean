/-
  ChildNone: of a child that is none nothing is told, and nothing happens to it. For every step, no condition.
-/
import Derived.Test.YtkkimkhkoiempaaChAwake
import Derived.Test.YtkkimkhkoiempaaChDo
import Derived.Test.YtkkimkhkoiempaaFrame21
import Derived.Laws.StructEq
namespace Go.Proofs.Ytkkimkhkoiempaa
open Go.ChangeShapes Go.WideShapes Go.ChangeAt Go.RowKit Go.Deep Go.WideElems Go.Lib MA CH

/-- A step's three cells. -/
def opF (k a b : Int) : Nat → Value
  | 0 => .int .i64 k
  | 1 => .int .i64 a
  | _ => .int .i64 b
theorem op_new (w : World) (k a b : Int) (t : TypeId) : Box 3 (w.alloc (.cells #[.int .i64 k, .int .i64 a, .int .i64 b] t)) w.heap.size (opF k a b) := by
  refine ⟨fun j hj => ?_, fun j => by simp, by simp⟩
  rcases (show j = 0 ∨ j = 1 ∨ j = 2 by omega) with rfl | rfl | rfl <;> simp [opF]
theorem op_put {w : World} {g : Nat} {k a b : Int} (h : Box 3 w g (opF k a b)) (k' : Int) : Box 3 (w.setCell ⟨g, 0, none⟩ (.int .i64 k')) g (opF k' a b) := by
  refine (h.set (i := 0) (by omega) _).same fun j hj => ?_
  rcases (show j = 0 ∨ j = 1 ∨ j = 2 by omega) with rfl | rfl | rfl <;> rfl
/-- What the loops stand on: the step in block gb, the empty child in block g, the two pointers behind it. -/
structure NoneAt (w wr : World) (gb g : Nat) (k a b : Int) : Prop where
  bel : Below w.heap.size w wr
  op : Box 3 wr gb (opF k a b)
  e3 : wr.cell? ⟨g, 3, none⟩ = some (.int .i64 0)
  l0 : wr.cell? ⟨g + 1, 0, none⟩ = some (.pointer none)
  l1 : wr.cell? ⟨g + 1, 1, none⟩ = some (.pointer (some ⟨g, 0, none⟩))
  o1 : w.heap.size ≤ gb
  o2 : gb < g
theorem NoneAt.more {w wr wx : World} {gb g : Nat} {k a b : Int} (h : NoneAt w wr gb g k a b) (x : Below wr.heap.size wr wx) : NoneAt w wx gb g k a b :=
  ⟨h.bel.trans (x.mono h.bel.size), h.op.below x, (x.cell (p := ⟨g, 3, none⟩) (World.block_lt_of_cell? _ _ h.e3)).trans h.e3, (x.cell (p := ⟨g + 1, 0, none⟩) (World.block_lt_of_cell? _ _ h.l0)).trans h.l0, (x.cell (p := ⟨g + 1, 1, none⟩) (World.block_lt_of_cell? _ _ h.l1)).trans h.l1, h.o1, h.o2⟩
theorem NoneAt.put {w wr : World} {gb g : Nat} {k a b : Int} (h : NoneAt w wr gb g k a b) (k' : Int) : NoneAt w (wr.setCell ⟨gb, 0, none⟩ (.int .i64 k')) gb g k' a b := by
  have hb : But (fun i => i = gb) wr (wr.setCell ⟨gb, 0, none⟩ (.int .i64 k')) := (But.refl (fun i => i = gb) wr).setCell gb 0 _ (fun _ => rfl)
  have l3 := World.block_lt_of_cell? _ _ h.e3
  have l4 := World.block_lt_of_cell? _ _ h.l0
  have := h.o2
  exact ⟨h.bel.trans (hb.below h.bel.size (fun i hi => by have e : i = gb := hi; have := h.o1; omega)), op_put h.op k', (hb.cell l3 (fun e => by have e' : g = gb := e; omega)).trans h.e3, (hb.cell l4 (fun e => by have e' : g + 1 = gb := e; omega)).trans h.l0, (hb.cell l4 (fun e => by have e' : g + 1 = gb := e; omega)).trans h.l1, h.o1, h.o2⟩
/-- A pointer of the loop is of no child. -/
def Nob (g : Nat) (o : Option Addr) : Prop := o = none ∨ o = some ⟨g, 0, none⟩
theorem NoneAt.no {w wr : World} {gb g : Nat} {k a b : Int} (h : NoneAt w wr gb g k a b) {o : Option Addr} (ho : Nob g o) : NoCh wr (.pointer o) := by
  rcases ho with rfl | rfl
  · exact .inl rfl
  · exact .inr ⟨_, rfl, h.e3⟩
theorem zero_eq (w : World) : (Op.equalIn 10000 39 (.agg #[.string ⟨#[]⟩, .string ⟨#[]⟩, .int .i64 0, .int .i64 0, .int .i64 0, .int .i64 0, .int .i64 0, .int .i64 0, .int .i64 0, .int .i64 0]) (.agg #[.string ⟨#[]⟩, .string ⟨#[]⟩, .int .i64 0, .int .i64 0, .int .i64 0, .int .i64 0, .int .i64 0, .int .i64 0, .int .i64 0, .int .i64 0])).run Try.prog w = .ok true w := by
  rw [show (10000 : Nat) = 9999 + 1 from rfl, run_equalIn_struct (P := Try.prog) w 9999 _ _ _ (by kernel_rfl) (by kernel_rfl)]
  simp [Program.fieldsOf, Try.underlying39, Op.eqFields, go_sem, Try.underlying3, Try.underlying9]
set_option maxRecDepth 100000 in
set_option maxHeartbeats 16000000 in
theorem none_walk (w : World) (k a b : Int) : Calls Try.prog 4 #[.agg #[.int .i64 k, .int .i64 a, .int .i64 b]] w fun e w' => e = .returned (.bool true) ∧ Below w.heap.size w w' := by
  have b0 := (Below.refl _ w).alloc (Nat.le_refl _) (.cells #[.int .i64 k, .int .i64 a, .int .i64 b] 34)
  have F1 := awake_any (w.alloc (.cells #[.int .i64 k, .int .i64 a, .int .i64 b] 34))
  have x0 := op_new w k a b 34
  have HF : Hid (Below w.heap.size w (w.alloc (.cells #[.int .i64 k, .int .i64 a, .int .i64 b] 34)) ∧ Box 3 (w.alloc (.cells #[.int .i64 k, .int .i64 a, .int .i64 b] 34)) w.heap.size (opF k a b)) := ⟨b0, x0⟩
  obtain ⟨gb, hob⟩ : ∃ gb, gb = w.heap.size := ⟨_, rfl⟩
  clear b0 x0
  go_enter Try.func4, Try.ntmps4
  go_wp2_with fail
  refine F1.mono ?_
  rintro e w1 ⟨rfl, hb⟩
  have I : Hid (NoneAt w ((w1.alloc (.cells #[.string ⟨#[]⟩, .string ⟨#[]⟩, .int .i64 0, .int .i64 0, .int .i64 0, .int .i64 0, .int .i64 0, .int .i64 0, .int .i64 0] 47)).alloc (.cells #[.pointer none, .pointer (some ⟨w1.heap.size, 0, none⟩)] 26)) gb w1.heap.size k a b) := by
    obtain ⟨b0, f0⟩ := HF.out
    have z1 := hb.size
    have z0 : w.heap.size < (w.alloc (.cells #[.int .i64 k, .int .i64 a, .int .i64 b] 34)).heap.size := by simp
    have b2 := ((Below.refl w1.heap.size w1).alloc (Nat.le_refl _) (.cells #[.string ⟨#[]⟩, .string ⟨#[]⟩, .int .i64 0, .int .i64 0, .int .i64 0, .int .i64 0, .int .i64 0, .int .i64 0, .int .i64 0] 47)).alloc (by simp) (.cells #[.pointer none, .pointer (some ⟨w1.heap.size, 0, none⟩)] 26)
    rw [hob]
    exact ⟨b0.trans ((hb.mono (by omega)).trans (b2.mono (by omega))), (f0.below hb).below b2, by simp, by simp, by simp, Nat.le_refl _, by omega⟩
  clear HF hb
  go_wp2_with fail
  rw [← hob]
  generalize ((w1.alloc (.cells #[.string ⟨#[]⟩, .string ⟨#[]⟩, .int .i64 0, .int .i64 0, .int .i64 0, .int .i64 0, .int .i64 0, .int .i64 0, .int .i64 0] 47)).alloc (.cells #[.pointer none, .pointer (some ⟨w1.heap.size, 0, none⟩)] 26)) = w3 at *
  generalize w1.heap.size = g at *
  clear hob F1
  go_loopw [14] (fun c wr => ∃ (j : Nat) (k' : Int), c = .int .i64 (j : Int) ∧ j ≤ 2 ∧ Hid (NoneAt w wr gb g k' a b)) (fun c _ => 2 - (RowKit.intOf c).toNat)
  case atStart => exact ⟨0, _, rfl, by omega, I.out⟩
  case round =>
    clear I
    obtain ⟨j, k', rfl, hj, I⟩ := hrel
    by_cases hlt : j < 2
    · obtain ⟨o, l0, NP⟩ : ∃ o, wr.cell? ⟨g + 1, j, none⟩ = some (.pointer o) ∧ Nob g o := by
        by_cases j0 : j = 0
        · subst j0; exact ⟨_, I.out.l0, .inl rfl⟩
        · obtain rfl : j = 1 := by omega
          exact ⟨_, I.out.l1, .inr rfl⟩
      have HN : Hid (Nob g o) := NP
      clear NP
      have t0 : (j : Int) < 2 := by omega
      have t1 : (0 : Int) ≤ (j : Int) := by omega
      go_upto_region 7 with fail
      go_wp2_with fail
      go_loopw [18] (fun c wr => ∃ (i : Nat) (k' : Int), c = .int .i64 (i : Int) ∧ i ≤ 11 ∧ Hid (NoneAt w wr gb g k' a b)) (fun c _ => 11 - (RowKit.intOf c).toNat)
      case atStart => exact ⟨0, k', rfl, by omega, I.out⟩
      case round =>
        clear I l0
        obtain ⟨i, k2, rfl, hi, I⟩ := hrel
        by_cases hlt2 : i < 11
        · have t2 : (i : Int) < 11 := by omega
          have I2 : Hid (NoneAt w (wr.setCell ⟨gb, 0, none⟩ (.int .i64 (i : Int))) gb g (i : Int) a b) := I.out.put _
          have c0 := I.out.op.cell 0 (by omega)
          have f0 := I.out.op.fz 0
          simp only [opF] at c0
          go_upto_region 11 with fail
          generalize wr.setCell ⟨gb, 0, none⟩ (.int .i64 (i : Int)) = w5 at *
          clear I c0 f0
          by_cases i0 : i = 0
          · subst i0
            go_wp2_with fail
            go_roundw
            case rel => exact ⟨1, _, rfl, by omega, I2.out⟩
            case measure => simp [RowKit.intOf]
          by_cases i7 : i = 7
          · subst i7
            go_wp2_with fail
            go_roundw
            case rel => exact ⟨8, _, rfl, by omega, I2.out⟩
            case measure => simp [RowKit.intOf]
          · have q0 : ((i : Int) == 0) = false := beq_false_of_ne (by omega)
            have p0 : ((i : Int) != 0) = true := by simp [bne, q0]
            have q7 : ((i : Int) == 7) = false := beq_false_of_ne (by omega)
            have p7 : ((i : Int) != 7) = true := by simp [bne, q7]
            have n0 : ¬ (i : Int) = 0 := by omega
            have n7 : ¬ (i : Int) = 7 := by omega
            have d0 : w5.cell? ⟨gb, 0, none⟩ = some (.int .i64 (i : Int)) := I2.out.op.cell 0 (by omega)
            have d1 : w5.cell? ⟨gb, 1, none⟩ = some (.int .i64 a) := I2.out.op.cell 1 (by omega)
            have d2 : w5.cell? ⟨gb, 2, none⟩ = some (.int .i64 b) := I2.out.op.cell 2 (by omega)
            have G := doN_any (I2.out.no HN.out) (k := (i : Int)) (by omega) n7 a b
            go_wp2_with fail
            refine G.mono ?_
            rintro e w6 ⟨rfl, hb6⟩
            have I6 : Hid (NoneAt w w6 gb g (i : Int) a b) := I2.out.more hb6
            clear I2 G hb6 d0 d1 d2
            go_wp2_with fail
            go_roundw
            case rel => exact ⟨i + 1, _, by simp, by omega, I6.out⟩
            case measure => simp [RowKit.intOf]; omega
        · obtain rfl : i = 11 := by omega
          have G0 := statusN (I.out.no HN.out)
          simp only [sV, ch0] at G0
          have E := zero_eq
          go_wp2_with fail
          refine G0.mono ?_
          rintro e w4 ⟨rfl, b4⟩
          have I4 : Hid (NoneAt w w4 gb g k2 a b) := I.out.more b4
          clear I G0 b4
          have G1 := claimN (I4.out.no HN.out)
          go_wp2_with fail
          refine G1.mono ?_
          rintro e w5 ⟨rfl, m, hm⟩
          have I5 : Hid (NoneAt w w5 gb g k2 a b) := by rw [hm]; exact I4.out.more (below_drewN _ m _)
          clear I4 G1 hm m
          have G2 := openN (I5.out.no HN.out)
          go_wp2_with fail
          refine G2.mono ?_
          rintro e w6 ⟨rfl, hm⟩
          have I6 : Hid (NoneAt w w6 gb g k2 a b) := by rw [hm]; exact I5.out
          clear I5 G2 hm
          have G3 := coverN (I6.out.no HN.out)
          go_wp2_with fail
          refine G3.mono ?_
          rintro e w7 ⟨rfl, m, hm⟩
          have I7 : Hid (NoneAt w w7 gb g k2 a b) := by rw [hm]; exact I6.out.more (below_drewN _ m _)
          clear I6 G3 hm m
          go_wp2_with fail
          go_roundw
          case rel => exact ⟨j + 1, _, by simp, by omega, I7.out⟩
          case measure => simp [RowKit.intOf]; omega
    · obtain rfl : j = 2 := by omega
      go_wp2_with fail
      go_ret
      exact ⟨rfl, I.out.bel⟩
theorem childNone_walk (w : World) (x : Opc) : Calls Try.prog 4 #[.agg x.cells] w fun e w' => e = .returned (.bool true) ∧ Below w.heap.size w w' := none_walk w x.k x.a x.b
theorem childNone_own : ownKnob Try.prog.godebug = none := by kernel_rfl
theorem childNone_laidOut : laidOutB Try.prog = true := by kernel_rfl
set_option maxRecDepth 100000 in
theorem childNone_lifted (os : Os) (started : os.Started) (H : Type) (enc : TypeId × Value → H) :
    ReturnsInHanded {} Try.checked os 4 .any (Rows.childNoneSpec.pre6 enc Try.prog Try.f4 Rows.childNoneRow.domain false) (Rows.childNoneSpec.post enc Try.prog Try.f4 false true false false) := by
  refine returnsInHanded_of_change (C := Try.checked) childNone_own started (by kernel_rfl) Try.func4
    (ChangeSpec.witness6 (enc := enc) (C := Try.checked) false ⟨#[], #[.agg #[.int .i64 0, .int .i64 0, .int .i64 0]], []⟩ 8 (by kernel_rfl) (by kernel_rfl) (by kernel_rfl) (by kernel_rfl)) ?_
  intro W base args ds gs before hval0 hW hcnd _
  have hval : ∀ (j : Nat) t v, Try.f4.params[j]? = some t → args[j]? = some v → Value.okWide Try.prog W .any base t v := hval0
  have hW' := hW
  obtain ⟨p, q, hA0, hV, rfl, hfz, hnd⟩ := hW
  have hA : DataW.TrodAll enc Try.prog W 0 (fun _ => true) true Try.f4.params.toList args.toList ds p := hA0
  rw [Try.params4] at hA hval
  obtain ⟨v0, vs0, d0, ds0, p0, q0, hargs, rfl, rfl, h0, r0⟩ := trodAll_cons hA
  obtain ⟨rfl, rfl, rfl⟩ := trodAll_nil r0
  obtain rfl : args = #[v0] := by cases args; simp_all
  obtain ⟨rfl, rfl⟩ := trodVars_none hV
  have k0 := h0
  have lt0 : ∀ x ∈ p0, x.block < W.heap.size := by obtain ⟨m, hm⟩ := k0; exact DataW.trod_lt m _ _ _ hm
  obtain ⟨x0, rfl⟩ := open_op (hval 0 34 v0 rfl rfl) h0
  clear hA0 hval0
  simp only [List.append_nil] at hW'
  refine (childNone_walk W x0).mono fun e W' ⟨he, bel⟩ => ?_
  subst he
  exact ⟨_, rfl, _, _, _, [], _, [], hW', trodAll_mk1 (shut_bool Try.underlying4 _), (trodAll_cons_mk (Below.trod childNone_laidOut (by kernel_rfl) (of_decide_eq_true (by kernel_rfl)) k0 bel lt0) trodAll_mk0), rfl, bel.frame _, fun h => by cases h⟩

/-- THE STATEMENT. -/
theorem childNone_proved : Rows.ChildNoneSaid :=
  OpenClaim.holds_of_wide 4 Try.f4 rfl rfl rfl rfl rfl rfl rfl ⟨rfl, rfl, rfl, rfl, rfl⟩ rfl rfl rfl rfl rfl (by kernel_rfl) Try.func4 (by kernel_rfl)
    (of_decide_eq_true (by kernel_rfl)) (by unfold Func.isWrapper; first | (rw [if_pos (by decide +kernel)]; kernel_rfl) | (rw [if_neg (by decide +kernel)]; exact ⟨rfl, rfl⟩))
    (fun os started H enc _ => childNone_lifted os started H enc)
#print axioms childNone_proved
end Go.Proofs.Ytkkimkhkoiempaa
