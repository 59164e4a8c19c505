/-
  The reference's slicer in memory; contracts of its Right, Amend, Target, Goal.
-/
import Derived.Test.YtdacfnodihannaaGreatSlNew
import Derived.Test.YtdacfnodihannaaGreatSlRefRight
import Derived.Test.YtdacfnodihannaaGreatPaGoalR
import Derived.Test.YtdacfnodihannaaGreatFlRef
import Derived.Test.YtdacfnodihannaaGreatBeRef
namespace Go.Proofs.YtdacfnodihannaaGreat.SL
open Go.ChangeShapes Go.WideShapes Go.ChangeAt Go.RowKit Go.Lib

theorem in27_any (n low high : Int) (w : World) : Calls Tryz.prog 23 #[.int .i64 n, .int .i64 low, .int .i64 high] w fun e w' => e = .returned (.bool (inB n low high)) ∧ w = w' := by
  by_cases h1 : low ≤ n
  · by_cases h2 : n ≤ high
    · rw [inB_true.2 ⟨h1, h2⟩]
      go_enter Tryz.func23, Tryz.ntmps23
      go_wp2
      go_ret
      exact ⟨rfl, rfl⟩
    · rw [inB_false.2 (.inr (by omega))]
      go_enter Tryz.func23, Tryz.ntmps23
      go_wp2
      go_ret
      exact ⟨rfl, rfl⟩
  · rw [inB_false.2 (.inl (by omega))]
    go_enter Tryz.func23, Tryz.ntmps23
    go_wp2
    go_ret
    exact ⟨rfl, rfl⟩
set_option maxHeartbeats 4000000 in
theorem refRight27 (x : Sl) (a : Option Addr) (cap : Nat) (w : World) (h : Row w (.slice a x.z.length cap) x.z.length fun i => .int .i64 (x.z.getD i 0)) (hz : x.z.length ≤ 1000000) (zi : x.i.size ≤ 100000) (zc : x.c.size ≤ 100000) (zs : x.s.size ≤ 100000) :
    Calls Tryz.prog 7 #[.agg #[.int .i64 x.k, .string x.i, .string x.t, .string x.c, .string x.s, .int .i64 x.sd, .int .i64 x.q, .int .i64 x.p, .int .i64 x.al, .int .i64 x.st, .int .i64 x.en, .int .i64 x.ra, .int .i64 x.sh, .slice a x.z.length cap], .int .i64 x.fr] w fun e w' => e = .returned (.bool (newB x)) ∧ Below w.heap.size w w' := by
  have B0 := (Below.refl _ w).alloc (Nat.le_refl _) (.cells #[.int .i64 x.k, .string x.i, .string x.t, .string x.c, .string x.s, .int .i64 x.sd, .int .i64 x.q, .int .i64 x.p, .int .i64 x.al, .int .i64 x.st, .int .i64 x.en, .int .i64 x.ra, .int .i64 x.sh, .slice a x.z.length cap] 33)
  have F2 := fun w => in27_any x.fr 0 4611686018427387904 w
  unfold newB
  cases hk : (x.k == 1)
  · rw [Bool.false_and]
    clear F2 h
    go_enter Tryz.func7, Tryz.ntmps7
    go_wp2_with fail
    go_ret
    exact ⟨rfl, B0⟩
  have F1 := refRight_one x.k x.i x.t x.c x.s x.sd x.q x.p x.al x.st x.en x.ra x.sh a cap x.z _ (h.below B0) hz zi zc zs (by simpa using hk)
  rw [Bool.true_and]
  cases hr : rightB x.k x.i x.t x.c x.s x.sd x.q x.p x.al x.st x.en x.ra x.sh x.z.length (curB x.z)
  · rw [hr] at F1
    rw [Bool.false_and]
    clear F2 h hr
    go_enter Tryz.func7, Tryz.ntmps7
    go_wp2_with fail
    refine F1.mono ?_
    rintro e w1 ⟨rfl, b1⟩
    have b2 := B0.trans (b1.mono B0.size)
    go_wp2_with fail
    go_ret
    exact ⟨rfl, b2⟩
  rw [hr] at F1
  rw [Bool.true_and]
  clear h hr
  generalize inB x.fr 0 4611686018427387904 = b at *
  go_enter Tryz.func7, Tryz.ntmps7
  go_wp2_with fail
  refine F1.mono ?_
  rintro e w1 ⟨rfl, b1⟩
  have b2 := B0.trans (b1.mono B0.size)
  go_wp2_with fail
  refine (F2 _).mono ?_
  rintro e w2 ⟨rfl, rfl⟩
  go_wp2_with fail
  go_ret
  exact ⟨rfl, b2⟩
/-- The world w, grown since w0, holds at block P the reference's slicer of x; its curve is as it lay in w0. -/
structure RefAt (w0 w : World) (P : Nat) (v : Value) (x : Sl) : Prop where
  bel : Below w0.heap.size w0 w
  lP : w0.heap.size ≤ P
  cell : ∀ j, j < 14 → w.cell? ⟨P, j, none⟩ = some (oF x v j)
  fr : w.cell? ⟨P, 14, none⟩ = some (.int .i64 x.fr)
  fz : ∀ j, w.frozen? ⟨P, j, none⟩ = false
  row : Row w0 v x.z.length fun i => .int .i64 (x.z.getD i 0)
  good : Good x
theorem RefAt.pt {w0 w : World} {P : Nat} {v : Value} {x : Sl} (K : RefAt w0 w P v x) : P < w.heap.size := World.block_lt_of_cell? _ _ K.fr
theorem RefAt.kept {w0 w w' : World} {P : Nat} {v : Value} {x : Sl} {S : Nat → Prop} (K : RefAt w0 w P v x) (k : But S w w') (hP : ¬ S P) (hS : ∀ i, S i → w0.heap.size ≤ i) : RefAt w0 w' P v x :=
  ⟨K.bel.trans (k.below K.bel.size hS), K.lP, fun j hj => (k.cell K.pt hP).trans (K.cell j hj), (k.cell K.pt hP).trans K.fr, fun j => (k.frozen K.pt hP).trans (K.fz j), K.row, K.good⟩
theorem RefAt.below {w0 w w' : World} {P : Nat} {v : Value} {x : Sl} (K : RefAt w0 w P v x) (k : Below w.heap.size w w') : RefAt w0 w' P v x :=
  K.kept (S := fun _ => False) (But.of_below k) id (fun _ h => h.elim)
theorem RefAt.now {w0 w : World} {P : Nat} {v : Value} {x : Sl} (K : RefAt w0 w P v x) : Row w v x.z.length fun i => .int .i64 (x.z.getD i 0) := K.row.below K.bel
set_option maxRecDepth 100000 in
set_option maxHeartbeats 8000000 in
theorem refTarget {w0 w : World} {P : Nat} {v : Value} {x : Sl} (K : RefAt w0 w P v x) (nw vol d : Int) : Calls Tryz.prog 12 #[.pointer (some ⟨P, 0, none⟩), .int .i64 nw, .int .i64 vol, .int .i64 d] w fun e w' => e = .returned (.tuple #[.int .i64 (tgN x nw vol d), .int .i64 (tgE x nw vol d)]) ∧ Below w.heap.size w w' := by
  have F1 := fun w => in27_any nw 0 1099511627776 w
  have F2 := fun w => in27_any vol x.fr 4611686018427387904 w
  have F3 := fun w => in27_any d 0 x.q w
  have c0 : w.cell? ⟨P, 0, none⟩ = some (.int .i64 x.k) := K.cell 0 (by omega)
  have c1 : w.cell? ⟨P, 1, none⟩ = some (.string x.i) := K.cell 1 (by omega)
  have c2 : w.cell? ⟨P, 2, none⟩ = some (.string x.t) := K.cell 2 (by omega)
  have c3 : w.cell? ⟨P, 3, none⟩ = some (.string x.c) := K.cell 3 (by omega)
  have c4 : w.cell? ⟨P, 4, none⟩ = some (.string x.s) := K.cell 4 (by omega)
  have c5 : w.cell? ⟨P, 5, none⟩ = some (.int .i64 x.sd) := K.cell 5 (by omega)
  have c6 : w.cell? ⟨P, 6, none⟩ = some (.int .i64 x.q) := K.cell 6 (by omega)
  have c7 : w.cell? ⟨P, 7, none⟩ = some (.int .i64 x.p) := K.cell 7 (by omega)
  have c8 : w.cell? ⟨P, 8, none⟩ = some (.int .i64 x.al) := K.cell 8 (by omega)
  have c9 : w.cell? ⟨P, 9, none⟩ = some (.int .i64 x.st) := K.cell 9 (by omega)
  have c10 : w.cell? ⟨P, 10, none⟩ = some (.int .i64 x.en) := K.cell 10 (by omega)
  have c11 : w.cell? ⟨P, 11, none⟩ = some (.int .i64 x.ra) := K.cell 11 (by omega)
  have c12 : w.cell? ⟨P, 12, none⟩ = some (.int .i64 x.sh) := K.cell 12 (by omega)
  have c13 : w.cell? ⟨P, 13, none⟩ = some (v) := K.cell 13 (by omega)
  have c14 : w.cell? ⟨P, 14, none⟩ = some (.int .i64 x.fr) := K.fr
  cases ha : askB x nw vol d
  · obtain ⟨e1, e2⟩ := tg_wrong ha
    rw [e1, e2]
    unfold askB at ha
    clear e1 e2 K
    cases h1 : inB nw 0 1099511627776
    · rw [h1] at F1
      clear ha h1
      go_enter Tryz.func12, Tryz.ntmps12
      go_wp2_with fail
      refine (F1 _).mono ?_
      rintro e w1 ⟨rfl, rfl⟩
      go_wp2_with fail
      go_ret2
      exact ⟨rfl, Below.refl _ _⟩
    rw [h1] at F1 ha
    rw [Bool.true_and] at ha
    cases h2 : inB vol x.fr 4611686018427387904
    · rw [h2] at F2
      clear ha h1 h2
      go_enter Tryz.func12, Tryz.ntmps12
      go_wp2_with fail
      refine (F1 _).mono ?_
      rintro e w1 ⟨rfl, rfl⟩
      go_wp2_with fail
      refine (F2 _).mono ?_
      rintro e w1 ⟨rfl, rfl⟩
      go_wp2_with fail
      go_ret2
      exact ⟨rfl, Below.refl _ _⟩
    rw [h2] at F2 ha
    rw [Bool.true_and] at ha
    rw [ha] at F3
    clear ha h1 h2
    go_enter Tryz.func12, Tryz.ntmps12
    go_wp2_with fail
    refine (F1 _).mono ?_
    rintro e w1 ⟨rfl, rfl⟩
    go_wp2_with fail
    refine (F2 _).mono ?_
    rintro e w1 ⟨rfl, rfl⟩
    go_wp2_with fail
    refine (F3 _).mono ?_
    rintro e w1 ⟨rfl, rfl⟩
    go_wp2_with fail
    go_ret2
    exact ⟨rfl, Below.refl _ _⟩
  obtain ⟨hn, hv, hd⟩ := ask_of ha
  rw [inB_true.2 hn] at F1
  rw [inB_true.2 hv] at F2
  rw [inB_true.2 hd] at F3
  by_cases hs : nw < x.st
  · obtain ⟨e1, e2⟩ := tg_early ha hs
    rw [e1, e2]
    clear e1 e2 K ha hn hv hd
    go_enter Tryz.func12, Tryz.ntmps12
    go_wp2_with fail
    refine (F1 _).mono ?_
    rintro e w1 ⟨rfl, rfl⟩
    go_wp2_with fail
    refine (F2 _).mono ?_
    rintro e w1 ⟨rfl, rfl⟩
    go_wp2_with fail
    refine (F3 _).mono ?_
    rintro e w1 ⟨rfl, rfl⟩
    go_wp2_with fail
    go_ret2
    exact ⟨rfl, Below.refl _ _⟩
  obtain ⟨e1, e2⟩ := tg_begun ha hs
  rw [e1, e2]
  clear e1 e2
  have G := K.good
  have Fi := G.fine hn.1 hn.2
  by_cases a2 : x.al = 2
  · have e2 : Hid (targetOf (fun i => x.z.getD i 0) x.z.length x.q (PA.gone x.st x.en nw) (x.en - x.st) = outN x nw vol d) := by show _ = _; unfold outN; rw [if_pos a2]
    have F4 := PA.vwapR_good x.q x.st x.en nw (fun i => x.z.getD i 0) x.z.length v w.drew (K.now.below (below_drewN _ 1 w)) (G.curve a2) Fi _ e2
    have g2 : (x.al == 2) = true := beq_iff_eq.2 a2
    clear e2 K ha hn hv hd G Fi a2
    generalize outN x nw vol d = r at *
    go_enter Tryz.func12, Tryz.ntmps12
    go_wp2_with fail
    refine (F1 _).mono ?_
    rintro e w1 ⟨rfl, rfl⟩
    go_wp2_with fail
    refine (F2 _).mono ?_
    rintro e w1 ⟨rfl, rfl⟩
    go_wp2_with fail
    refine (F3 _).mono ?_
    rintro e w1 ⟨rfl, rfl⟩
    go_wp2_with fail
    go_region_held3 (fun w' => w'.cell? ⟨P, 6, none⟩ = some (.int .i64 x.q) ∧ w'.cell? ⟨P, 9, none⟩ = some (.int .i64 x.st) ∧ w'.cell? ⟨P, 10, none⟩ = some (.int .i64 x.en) ∧ w'.cell? ⟨P, 13, none⟩ = some (v)) (go_keep) (first
      | (go_at_call 26; refine F4.mono ?_; rintro e w5 ⟨rfl, k5⟩; have b5 := below_of_drew k5; have f6 := (b5.cell (p := ⟨P, 6, none⟩) (World.block_lt_of_cell? _ _ c6)).trans c6; have f9 := (b5.cell (p := ⟨P, 9, none⟩) (World.block_lt_of_cell? _ _ c9)).trans c9; have f10 := (b5.cell (p := ⟨P, 10, none⟩) (World.block_lt_of_cell? _ _ c10)).trans c10; have f13 := (b5.cell (p := ⟨P, 13, none⟩) (World.block_lt_of_cell? _ _ c13)).trans c13))
    go_wp2_with fail
    go_ret2
    exact ⟨rfl, b5⟩
  have g2 : (x.al == 2) = false := beq_false_of_ne a2
  by_cases a3 : x.al = 3
  · have e2 : FL.tgN x.q x.ra (vol - x.fr) = outN x nw vol d := by unfold outN; rw [if_neg a2, if_pos a3]
    have e3 : FL.tgE x.q x.ra (vol - x.fr) = 0 := by unfold FL.tgE; rw [FL.of_fine (G.flow a3 hv.1 hv.2)]; rfl
    obtain ⟨tr, htr⟩ : ∃ tr, vol - x.fr = tr := ⟨_, rfl⟩
    have hw : wrap64 (vol - x.fr) = tr := htr ▸ FL.wrap_in _ (by have := G.f0; have := G.f1; omega) (by have := G.f0; omega)
    have hwr : IntKind.i64.wrap (vol - x.fr) = tr := by have := G.f0; have := G.f1; rw [← htr, IntKind.wrap_i64]; omega
    have F4 := FL.targetR_any x.q x.ra (vol - x.fr) w.drew
    rw [e2, e3, htr] at F4
    have g3 : (x.al == 3) = true := beq_iff_eq.2 a3
    clear e2 e3 K ha hn hv hd G Fi a2 a3 htr
    generalize outN x nw vol d = r at *
    go_enter Tryz.func12, Tryz.ntmps12
    go_wp2_with fail
    refine (F1 _).mono ?_
    rintro e w1 ⟨rfl, rfl⟩
    go_wp2_with fail
    refine (F2 _).mono ?_
    rintro e w1 ⟨rfl, rfl⟩
    go_wp2_with fail
    refine (F3 _).mono ?_
    rintro e w1 ⟨rfl, rfl⟩
    go_wp2_with fail
    go_region_held3 (fun w' => w'.cell? ⟨P, 6, none⟩ = some (.int .i64 x.q) ∧ w'.cell? ⟨P, 11, none⟩ = some (.int .i64 x.ra) ∧ w'.cell? ⟨P, 14, none⟩ = some (.int .i64 x.fr)) (go_keep) (first
      | (go_at_call 27; refine F4.mono ?_; rintro e w5 ⟨rfl, k5⟩; have b5 := below_of_drew k5; have f6 := (b5.cell (p := ⟨P, 6, none⟩) (World.block_lt_of_cell? _ _ c6)).trans c6; have f11 := (b5.cell (p := ⟨P, 11, none⟩) (World.block_lt_of_cell? _ _ c11)).trans c11; have f14 := (b5.cell (p := ⟨P, 14, none⟩) (World.block_lt_of_cell? _ _ c14)).trans c14))
    go_wp2_with fail
    go_ret2
    exact ⟨rfl, b5⟩
  have g3 : (x.al == 3) = false := beq_false_of_ne a3
  by_cases a4 : x.al = 4
  · have e2 : BE.tgN x.q x.sh d = outN x nw vol d := by unfold outN; rw [if_neg a2, if_neg a3, if_pos a4]
    have e3 : BE.tgE x.q x.sh d = 0 := by unfold BE.tgE; rw [G.berg a4 hd.1 hd.2]; rfl
    have F4 := BE.targetR_any x.q x.sh d w.drew
    rw [e2, e3] at F4
    have g4 : (x.al == 4) = true := beq_iff_eq.2 a4
    clear e2 e3 K ha hn hv hd G Fi a2 a3 a4
    generalize outN x nw vol d = r at *
    go_enter Tryz.func12, Tryz.ntmps12
    go_wp2_with fail
    refine (F1 _).mono ?_
    rintro e w1 ⟨rfl, rfl⟩
    go_wp2_with fail
    refine (F2 _).mono ?_
    rintro e w1 ⟨rfl, rfl⟩
    go_wp2_with fail
    refine (F3 _).mono ?_
    rintro e w1 ⟨rfl, rfl⟩
    go_wp2_with fail
    go_region_held3 (fun w' => w'.cell? ⟨P, 6, none⟩ = some (.int .i64 x.q) ∧ w'.cell? ⟨P, 12, none⟩ = some (.int .i64 x.sh)) (go_keep) (first
      | (go_at_call 28; refine F4.mono ?_; rintro e w5 ⟨rfl, rfl⟩; have b5 := below_drewN w.heap.size 1 w; have f6 := (b5.cell (p := ⟨P, 6, none⟩) (World.block_lt_of_cell? _ _ c6)).trans c6; have f12 := (b5.cell (p := ⟨P, 12, none⟩) (World.block_lt_of_cell? _ _ c12)).trans c12))
    go_wp2_with fail
    go_ret2
    exact ⟨rfl, b5⟩
  have g4 : (x.al == 4) = false := beq_false_of_ne a4
  have e2 : Hid (x.q * PA.gone x.st x.en nw / (x.en - x.st) = outN x nw vol d) := by show _ = _; unfold outN; rw [if_neg a2, if_neg a3, if_neg a4]
  have F4 := PA.twapR_good x.q x.st x.en nw w.drew Fi _ e2
  clear e2 K ha hn hv hd G Fi a2 a3 a4
  generalize outN x nw vol d = r at *
  go_enter Tryz.func12, Tryz.ntmps12
  go_wp2_with fail
  refine (F1 _).mono ?_
  rintro e w1 ⟨rfl, rfl⟩
  go_wp2_with fail
  refine (F2 _).mono ?_
  rintro e w1 ⟨rfl, rfl⟩
  go_wp2_with fail
  refine (F3 _).mono ?_
  rintro e w1 ⟨rfl, rfl⟩
  go_wp2_with fail
  go_region_held3 (fun w' => w'.cell? ⟨P, 6, none⟩ = some (.int .i64 x.q) ∧ w'.cell? ⟨P, 9, none⟩ = some (.int .i64 x.st) ∧ w'.cell? ⟨P, 10, none⟩ = some (.int .i64 x.en)) (go_keep) (first
    | (go_at_call 29; refine F4.mono ?_; rintro e w5 ⟨rfl, k5⟩; have b5 := below_of_drew k5; have f6 := (b5.cell (p := ⟨P, 6, none⟩) (World.block_lt_of_cell? _ _ c6)).trans c6; have f9 := (b5.cell (p := ⟨P, 9, none⟩) (World.block_lt_of_cell? _ _ c9)).trans c9; have f10 := (b5.cell (p := ⟨P, 10, none⟩) (World.block_lt_of_cell? _ _ c10)).trans c10))
  go_wp2_with fail
  go_ret2
  exact ⟨rfl, b5⟩
set_option maxHeartbeats 4000000 in
theorem refGoal {w0 w : World} {P : Nat} {v : Value} {x : Sl} (K : RefAt w0 w P v x) (nw vol d lot : Int) (l1 : lot ≤ 9223372036854775807) : Calls Tryz.prog 14 #[.pointer (some ⟨P, 0, none⟩), .int .i64 nw, .int .i64 vol, .int .i64 d, .int .i64 lot] w fun e w' => e = .returned (.tuple #[.int .i64 (glN x nw vol d lot), .int .i64 (glE x nw vol d lot)]) ∧ Below w.heap.size w w' := by
  have F := refTarget K nw vol d
  have c6 : w.cell? ⟨P, 6, none⟩ = some (.int .i64 x.q) := K.cell 6 (by omega)
  unfold glN glE
  cases ha : askB x nw vol d
  · obtain ⟨e1, e2⟩ := tg_wrong ha
    rw [e1, e2] at F
    simp only [Bool.false_eq_true, if_false]
    clear e1 e2 K ha
    go_enter Tryz.func14, Tryz.ntmps14
    go_wp2_with fail
    refine F.mono ?_
    rintro e w1 ⟨rfl, b1⟩
    go_wp2_with fail
    go_ret2
    exact ⟨rfl, b1⟩
  · have e2 : tgE x nw vol d = 0 := by unfold tgE; rw [ha]; rfl
    rw [e2] at F
    simp only [if_true]
    have F2 := fun w => goalR_any (tgN x nw vol d) lot x.q w l1
    clear e2 K ha
    generalize tgN x nw vol d = n at *
    go_enter Tryz.func14, Tryz.ntmps14
    go_wp2_with fail
    refine F.mono ?_
    rintro e w1 ⟨rfl, b1⟩
    have d6 := (b1.cell (p := ⟨P, 6, none⟩) (World.block_lt_of_cell? _ _ c6)).trans c6
    go_wp2_with fail
    refine (F2 _).mono ?_
    rintro e w2 ⟨rfl, rfl⟩
    go_wp2_with fail
    go_ret2
    exact ⟨rfl, b1⟩
theorem RefAt.amended {w0 w : World} {P : Nat} {v : Value} {x : Sl} (K : RefAt w0 w P v x) {q p en : Int} (he : amE x q p en = 0) :
    RefAt w0 (((w.setCell ⟨P, 6, none⟩ (.int .i64 q)).setCell ⟨P, 7, none⟩ (.int .i64 p)).setCell ⟨P, 10, none⟩ (.int .i64 en)) P v (amX x q p en) ∧ But (fun k => k = P) w (((w.setCell ⟨P, 6, none⟩ (.int .i64 q)).setCell ⟨P, 7, none⟩ (.int .i64 p)).setCell ⟨P, 10, none⟩ (.int .i64 en)) := by
  have k : But (fun k => k = P) w (((w.setCell ⟨P, 6, none⟩ (.int .i64 q)).setCell ⟨P, 7, none⟩ (.int .i64 p)).setCell ⟨P, 10, none⟩ (.int .i64 en)) :=
    (((But.refl (fun k => k = P) w).setCell _ _ _ (fun _ => rfl)).setCell _ _ _ (fun _ => rfl)).setCell _ _ _ (fun _ => rfl)
  have G := K.good.amend q p en
  rw [amX_yes he] at G ⊢
  have other : ∀ (w : World) (j i : Nat) (u : Value), j ≠ i → (w.setCell ⟨P, i, none⟩ u).cell? ⟨P, j, none⟩ = w.cell? ⟨P, j, none⟩ := fun w j i u h => World.cell?_setCell_other _ _ _ _ (fun e => h (by injection e with _ e; exact e.symm))
  refine ⟨⟨K.bel.trans (k.below K.bel.size (fun i e => by have e : i = P := e; have := K.lP; omega)), K.lP, fun j hj => ?_, by rw [other _ 14 10 _ (by omega), other _ 14 7 _ (by omega), other _ 14 6 _ (by omega)]; exact K.fr, fun j => by rw [World.frozen?_setCell, World.frozen?_setCell, World.frozen?_setCell]; exact K.fz j, K.row, G⟩, k⟩
  have c := K.cell j hj
  by_cases j6 : j = 6
  · subst j6
    rw [World.cell?_setCell_other _ _ _ _ (by simp), World.cell?_setCell_other _ _ _ _ (by simp), World.cell?_setCell_same' _ _ _ (by rw [c]; rfl)]
    rfl
  by_cases j7 : j = 7
  · subst j7
    rw [World.cell?_setCell_other _ _ _ _ (by simp), World.cell?_setCell_same' _ _ _ (by rw [World.cell?_setCell_other _ _ _ _ (by simp), c]; rfl)]
    rfl
  by_cases j10 : j = 10
  · subst j10
    rw [World.cell?_setCell_same' _ _ _ (by rw [World.cell?_setCell_other _ _ _ _ (by simp), World.cell?_setCell_other _ _ _ _ (by simp), c]; rfl)]
    rfl
  rw [other _ j 10 _ j10, other _ j 7 _ j7, other _ j 6 _ j6, c]
  rcases (show j = 0 ∨ j = 1 ∨ j = 2 ∨ j = 3 ∨ j = 4 ∨ j = 5 ∨ j = 8 ∨ j = 9 ∨ j = 11 ∨ j = 12 ∨ j = 13 by omega) with rfl | rfl | rfl | rfl | rfl | rfl | rfl | rfl | rfl | rfl | rfl <;> rfl
set_option maxHeartbeats 4000000 in
theorem refAmend {w0 w : World} {P : Nat} {v : Value} {x : Sl} (K : RefAt w0 w P v x) (q p en : Int) : Calls Tryz.prog 10 #[.pointer (some ⟨P, 0, none⟩), .int .i64 q, .int .i64 p, .int .i64 en] w fun e w' => e = .returned (.int .i64 (amE x q p en)) ∧ RefAt w0 w' P v (amX x q p en) ∧ But (fun k => k = P) w w' := by
  have F1 := fun w => in27_any q 1 1099511627776 w
  have F2 := fun w => in27_any p 1 1099511627776 w
  have F3 := fun w => in27_any en 0 1099511627776 w
  have F4 := fun w => in27_any (en - x.st) 1 1073741824 w
  have c9 : w.cell? ⟨P, 9, none⟩ = some (.int .i64 x.st) := K.cell 9 (by omega)
  cases hc : chgB q p en
  · have eE : amE x q p en = 2 := by unfold amE; rw [hc]; rfl
    have eX : amX x q p en = x := amX_no (by rw [eE]; decide)
    rw [eE, eX]
    have R : Hid (RefAt w0 w P v x ∧ But (fun k => k = P) w w) := ⟨K, But.refl _ _⟩
    clear eE eX K F4 c9
    unfold chgB at hc
    cases h1 : inB q 1 1099511627776
    · rw [h1] at F1
      clear hc h1
      go_enter Tryz.func10, Tryz.ntmps10
      go_wp2_with fail
      refine (F1 _).mono ?_
      rintro e w1 ⟨rfl, rfl⟩
      go_wp2_with fail
      go_ret
      exact ⟨rfl, R.out⟩
    rw [h1] at F1 hc
    rw [Bool.true_and] at hc
    cases h2 : inB p 1 1099511627776
    · rw [h2] at F2
      clear hc h1 h2
      go_enter Tryz.func10, Tryz.ntmps10
      go_wp2_with fail
      refine (F1 _).mono ?_
      rintro e w1 ⟨rfl, rfl⟩
      go_wp2_with fail
      refine (F2 _).mono ?_
      rintro e w1 ⟨rfl, rfl⟩
      go_wp2_with fail
      go_ret
      exact ⟨rfl, R.out⟩
    rw [h2] at F2 hc
    rw [Bool.true_and] at hc
    rw [hc] at F3
    clear hc h1 h2
    go_enter Tryz.func10, Tryz.ntmps10
    go_wp2_with fail
    refine (F1 _).mono ?_
    rintro e w1 ⟨rfl, rfl⟩
    go_wp2_with fail
    refine (F2 _).mono ?_
    rintro e w1 ⟨rfl, rfl⟩
    go_wp2_with fail
    refine (F3 _).mono ?_
    rintro e w1 ⟨rfl, rfl⟩
    go_wp2_with fail
    go_ret
    exact ⟨rfl, R.out⟩
  have hc' := hc
  unfold chgB at hc'
  simp only [Bool.and_eq_true] at hc'
  obtain ⟨⟨h1, h2⟩, h3⟩ := hc'
  rw [h1] at F1
  rw [h2] at F2
  rw [h3] at F3
  have hw : wrap64 (en - x.st) = en - x.st := by
    have := inB_true.1 h3
    exact FL.wrap_in _ (by have := K.good.st1; omega) (by have := K.good.st0; omega)
  clear h1 h2 h3
  cases hs : inB (en - x.st) 1 1073741824
  · have eE : amE x q p en = 282 := by unfold amE; rw [hc, hs]; rfl
    have eX : amX x q p en = x := amX_no (by rw [eE]; decide)
    rw [eE, eX]
    rw [hs] at F4
    have R : Hid (RefAt w0 w P v x ∧ But (fun k => k = P) w w) := ⟨K, But.refl _ _⟩
    clear eE eX K hc hs
    go_enter Tryz.func10, Tryz.ntmps10
    go_wp2_with fail
    refine (F1 _).mono ?_
    rintro e w1 ⟨rfl, rfl⟩
    go_wp2_with fail
    refine (F2 _).mono ?_
    rintro e w1 ⟨rfl, rfl⟩
    go_wp2_with fail
    refine (F3 _).mono ?_
    rintro e w1 ⟨rfl, rfl⟩
    go_wp2_with fail
    refine (F4 _).mono ?_
    rintro e w1 ⟨rfl, rfl⟩
    go_wp2_with fail
    go_ret
    exact ⟨rfl, R.out⟩
  · have eE : amE x q p en = 0 := by unfold amE; rw [hc, hs]; rfl
    have R : Hid (RefAt w0 (((w.setCell ⟨P, 6, none⟩ (.int .i64 q)).setCell ⟨P, 7, none⟩ (.int .i64 p)).setCell ⟨P, 10, none⟩ (.int .i64 en)) P v (amX x q p en) ∧ But (fun k => k = P) w (((w.setCell ⟨P, 6, none⟩ (.int .i64 q)).setCell ⟨P, 7, none⟩ (.int .i64 p)).setCell ⟨P, 10, none⟩ (.int .i64 en))) := K.amended eE
    have d6 : w.cell? ⟨P, 6, none⟩ = some (.int .i64 x.q) := K.cell 6 (by omega)
    have d7 : w.cell? ⟨P, 7, none⟩ = some (.int .i64 x.p) := K.cell 7 (by omega)
    have d10 : w.cell? ⟨P, 10, none⟩ = some (.int .i64 x.en) := K.cell 10 (by omega)
    have z6 := K.fz 6
    have z7 := K.fz 7
    have z10 := K.fz 10
    rw [eE]
    rw [hs] at F4
    clear eE K hc hs
    go_enter Tryz.func10, Tryz.ntmps10
    go_wp2_with fail
    refine (F1 _).mono ?_
    rintro e w1 ⟨rfl, rfl⟩
    go_wp2_with fail
    refine (F2 _).mono ?_
    rintro e w1 ⟨rfl, rfl⟩
    go_wp2_with fail
    refine (F3 _).mono ?_
    rintro e w1 ⟨rfl, rfl⟩
    go_wp2_with fail
    refine (F4 _).mono ?_
    rintro e w1 ⟨rfl, rfl⟩
    go_wp2_with fail
    go_ret
    exact ⟨rfl, R.out⟩
end Go.Proofs.YtdacfnodihannaaGreat.SL
