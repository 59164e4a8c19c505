/-
  Contracts of slicer's Target, Goal, Over, Amend, of a slicer and of what is none.
-/
import Derived.Deep.RegionHeld3
import Derived.Deep.RegionWith
import Derived.Test.YtdacfnodihannaaGreatSlOut
namespace Go.Proofs.YtdacfnodihannaaGreat.SL
open Go.ChangeShapes Go.WideShapes Go.ChangeAt Go.RowKit Go.Lib

theorem below_of_drew {w w1 : World} (h : Below w.drew.heap.size w.drew w1) : Below w.heap.size w w1 := ⟨h.os, h.tape, h.output, h.size, h.block⟩
theorem target_no {w : World} {r : Value} (h : NoSl w r) (nw vol d : Int) : Calls Tryz.prog 11 #[r, .int .i64 nw, .int .i64 vol, .int .i64 d] w fun e w' => e = .returned (.tuple #[.int .i64 0, .int .i64 1]) ∧ w = w' := by
  have F := made_no h
  obtain ⟨a, rfl⟩ : ∃ a, r = .pointer a := by rcases h with rfl | ⟨q, rfl, _⟩ <;> exact ⟨_, rfl⟩
  clear h
  go_enter Tryz.func11, Tryz.ntmps11
  go_wp2_with fail
  refine F.mono ?_
  rintro e w1 ⟨rfl, rfl⟩
  go_wp2_with fail
  go_ret2
  exact ⟨rfl, rfl⟩
theorem goal_no {w : World} {r : Value} (h : NoSl w r) (nw vol d lot : Int) : Calls Tryz.prog 13 #[r, .int .i64 nw, .int .i64 vol, .int .i64 d, .int .i64 lot] w fun e w' => e = .returned (.tuple #[.int .i64 0, .int .i64 1]) ∧ w = w' := by
  have F := target_no h nw vol d
  obtain ⟨a, rfl⟩ : ∃ a, r = .pointer a := by rcases h with rfl | ⟨q, rfl, _⟩ <;> exact ⟨_, rfl⟩
  clear h
  go_enter Tryz.func13, Tryz.ntmps13
  go_wp2_with fail
  refine F.mono ?_
  rintro e w1 ⟨rfl, rfl⟩
  go_wp2_with fail
  go_ret2
  exact ⟨rfl, rfl⟩
theorem amend_no {w : World} {r : Value} (h : NoSl w r) (q p en : Int) : Calls Tryz.prog 9 #[r, .int .i64 q, .int .i64 p, .int .i64 en] w fun e w' => e = .returned (.int .i64 1) ∧ w = w' := by
  have F := made_no h
  obtain ⟨a, rfl⟩ : ∃ a, r = .pointer a := by rcases h with rfl | ⟨q, rfl, _⟩ <;> exact ⟨_, rfl⟩
  clear h
  go_enter Tryz.func9, Tryz.ntmps9
  go_wp2_with fail
  refine F.mono ?_
  rintro e w1 ⟨rfl, rfl⟩
  go_wp2_with fail
  go_ret
  exact ⟨rfl, rfl⟩
theorem over_no {w : World} {r : Value} (h : NoSl w r) (nw : Int) : Calls Tryz.prog 17 #[r, .int .i64 nw] w fun e w' => e = .returned (.bool false) ∧ w = w' := by
  have F := made_no h
  obtain ⟨a, rfl⟩ : ∃ a, r = .pointer a := by rcases h with rfl | ⟨q, rfl, _⟩ <;> exact ⟨_, rfl⟩
  clear h
  go_enter Tryz.func17, Tryz.ntmps17
  go_wp2_with fail
  refine F.mono ?_
  rintro e w1 ⟨rfl, rfl⟩
  go_wp2_with fail
  go_ret
  exact ⟨rfl, rfl⟩
theorem over_yes {w : World} {B P : Nat} {v : Value} {x : Sl} (K : SlAt w B P v x) (nw : Int) : Calls Tryz.prog 17 #[.pointer (some ⟨P, 0, none⟩), .int .i64 nw] w fun e w' => e = .returned (.bool (decide (x.en ≤ nw))) ∧ w = w' := by
  have F := made_yes K
  have c10 : w.cell? ⟨P, 10, none⟩ = some (.int .i64 x.en) := K.cell 10 (by omega)
  clear K
  go_enter Tryz.func17, Tryz.ntmps17
  go_wp2_with fail
  refine F.mono ?_
  rintro e w1 ⟨rfl, rfl⟩
  go_wp2_with fail
  go_ret
  exact ⟨rfl, rfl⟩
theorem tg_wrong {x : Sl} {nw v d : Int} (h : askB x nw v d = false) : tgN x nw v d = 0 ∧ tgE x nw v d = 2 := by
  unfold tgN tgE
  rw [h]
  exact ⟨rfl, rfl⟩
theorem tg_early {x : Sl} {nw v d : Int} (h : askB x nw v d = true) (hs : nw < x.st) : tgN x nw v d = 0 ∧ tgE x nw v d = 0 := by
  unfold tgN tgE
  rw [h, if_pos rfl, if_pos hs]
  exact ⟨rfl, rfl⟩
theorem tg_begun {x : Sl} {nw v d : Int} (h : askB x nw v d = true) (hs : ¬ nw < x.st) : tgN x nw v d = outN x nw v d ∧ tgE x nw v d = 0 := by
  unfold tgN tgE
  rw [h, if_pos rfl, if_neg hs]
  exact ⟨rfl, rfl⟩
set_option maxHeartbeats 4000000 in
theorem target_yes {w : World} {B P : Nat} {v : Value} {x : Sl} (K : SlAt w B P v x) (nw vol d : Int) : Calls Tryz.prog 11 #[.pointer (some ⟨P, 0, none⟩), .int .i64 nw, .int .i64 vol, .int .i64 d] w fun e w' => e = .returned (.tuple #[.int .i64 (tgN x nw vol d), .int .i64 (tgE x nw vol d)]) ∧ Below w.heap.size w w' := by
  have F := made_yes K
  have F1 := fun w => within_any nw 0 1099511627776 w
  have F2 := fun w => within_any vol x.fr 4611686018427387904 w
  have F3 := fun w => within_any d 0 x.q w
  have c0 : w.cell? ⟨P, 0, none⟩ = some (.int .i64 x.k) := K.cell 0 (by omega)
  have c1 : w.cell? ⟨P, 1, none⟩ = some (.string x.i) := K.cell 1 (by omega)
  have c2 : w.cell? ⟨P, 2, none⟩ = some (.string x.t) := K.cell 2 (by omega)
  have c3 : w.cell? ⟨P, 3, none⟩ = some (.string x.c) := K.cell 3 (by omega)
  have c4 : w.cell? ⟨P, 4, none⟩ = some (.string x.s) := K.cell 4 (by omega)
  have c5 : w.cell? ⟨P, 5, none⟩ = some (.int .i64 x.sd) := K.cell 5 (by omega)
  have c6 : w.cell? ⟨P, 6, none⟩ = some (.int .i64 x.q) := K.cell 6 (by omega)
  have c7 : w.cell? ⟨P, 7, none⟩ = some (.int .i64 x.p) := K.cell 7 (by omega)
  have c8 : w.cell? ⟨P, 8, none⟩ = some (.int .i64 x.al) := K.cell 8 (by omega)
  have c9 : w.cell? ⟨P, 9, none⟩ = some (.int .i64 x.st) := K.cell 9 (by omega)
  have c10 : w.cell? ⟨P, 10, none⟩ = some (.int .i64 x.en) := K.cell 10 (by omega)
  have c11 : w.cell? ⟨P, 11, none⟩ = some (.int .i64 0) := K.cell 11 (by omega)
  have c12 : w.cell? ⟨P, 12, none⟩ = some (.int .i64 0) := K.cell 12 (by omega)
  have c13 : w.cell? ⟨P, 13, none⟩ = some (.slice none 0 0) := K.cell 13 (by omega)
  have c14 : w.cell? ⟨P, 14, none⟩ = some (alV x v) := K.cell 14 (by omega)
  have c15 : w.cell? ⟨P, 15, none⟩ = some (.int .i64 x.fr) := K.cell 15 (by omega)
  cases ha : askB x nw vol d
  · obtain ⟨e1, e2⟩ := tg_wrong ha
    rw [e1, e2]
    unfold askB at ha
    clear e1 e2 K
    cases h1 : inB nw 0 1099511627776
    · rw [h1] at F1
      clear ha h1
      go_enter Tryz.func11, Tryz.ntmps11
      go_wp2_with fail
      refine F.mono ?_
      rintro e w1 ⟨rfl, rfl⟩
      go_wp2_with fail
      refine (F1 _).mono ?_
      rintro e w1 ⟨rfl, rfl⟩
      go_wp2_with fail
      go_ret2
      exact ⟨rfl, Below.refl _ _⟩
    rw [h1] at F1 ha
    rw [Bool.true_and] at ha
    cases h2 : inB vol x.fr 4611686018427387904
    · rw [h2] at F2
      clear ha h1 h2
      go_enter Tryz.func11, Tryz.ntmps11
      go_wp2_with fail
      refine F.mono ?_
      rintro e w1 ⟨rfl, rfl⟩
      go_wp2_with fail
      refine (F1 _).mono ?_
      rintro e w1 ⟨rfl, rfl⟩
      go_wp2_with fail
      refine (F2 _).mono ?_
      rintro e w1 ⟨rfl, rfl⟩
      go_wp2_with fail
      go_ret2
      exact ⟨rfl, Below.refl _ _⟩
    rw [h2] at F2 ha
    rw [Bool.true_and] at ha
    rw [ha] at F3
    clear ha h1 h2
    go_enter Tryz.func11, Tryz.ntmps11
    go_wp2_with fail
    refine F.mono ?_
    rintro e w1 ⟨rfl, rfl⟩
    go_wp2_with fail
    refine (F1 _).mono ?_
    rintro e w1 ⟨rfl, rfl⟩
    go_wp2_with fail
    refine (F2 _).mono ?_
    rintro e w1 ⟨rfl, rfl⟩
    go_wp2_with fail
    refine (F3 _).mono ?_
    rintro e w1 ⟨rfl, rfl⟩
    go_wp2_with fail
    go_ret2
    exact ⟨rfl, Below.refl _ _⟩
  obtain ⟨hn, hv, hd⟩ := ask_of ha
  rw [inB_true.2 hn] at F1
  rw [inB_true.2 hv] at F2
  rw [inB_true.2 hd] at F3
  by_cases hs : nw < x.st
  · obtain ⟨e1, e2⟩ := tg_early ha hs
    rw [e1, e2]
    clear e1 e2 K ha hn hv hd
    go_enter Tryz.func11, Tryz.ntmps11
    go_wp2_with fail
    refine F.mono ?_
    rintro e w1 ⟨rfl, rfl⟩
    go_wp2_with fail
    refine (F1 _).mono ?_
    rintro e w1 ⟨rfl, rfl⟩
    go_wp2_with fail
    refine (F2 _).mono ?_
    rintro e w1 ⟨rfl, rfl⟩
    go_wp2_with fail
    refine (F3 _).mono ?_
    rintro e w1 ⟨rfl, rfl⟩
    go_wp2_with fail
    go_ret2
    exact ⟨rfl, Below.refl _ _⟩
  obtain ⟨e1, e2⟩ := tg_begun ha hs
  rw [e1, e2]
  have F4 := out_any x K.good v w.drew (fun a => (K.row a).below (below_drewN _ 1 w)) nw vol d ha
  have hw0 : IntKind.i64.wrap (vol - x.fr) = vol - x.fr := by have := K.good.f0; have := K.good.f1; rw [IntKind.wrap_i64]; omega
  obtain ⟨tr, htr⟩ : ∃ tr, vol - x.fr = tr := ⟨_, rfl⟩
  have hw : wrap64 (vol - x.fr) = tr := htr ▸ FL.wrap_in _ (by have := K.good.f0; have := K.good.f1; omega) (by have := K.good.f0; omega)
  rw [htr] at F4
  have hwr : IntKind.i64.wrap (vol - x.fr) = tr := hw0.trans htr
  clear e1 e2 K ha hn hv hd htr hw0
  generalize alV x v = m at *
  generalize outN x nw vol d = r at *
  go_enter Tryz.func11, Tryz.ntmps11
  go_wp2_with fail
  refine F.mono ?_
  rintro e w1 ⟨rfl, rfl⟩
  go_wp2_with fail
  refine (F1 _).mono ?_
  rintro e w1 ⟨rfl, rfl⟩
  go_wp2_with fail
  refine (F2 _).mono ?_
  rintro e w1 ⟨rfl, rfl⟩
  go_wp2_with fail
  refine (F3 _).mono ?_
  rintro e w1 ⟨rfl, rfl⟩
  go_wp2_with fail
  go_region_held3 (fun w' => w'.cell? ⟨P, 0, none⟩ = some (.int .i64 x.k) ∧ w'.cell? ⟨P, 1, none⟩ = some (.string x.i) ∧ w'.cell? ⟨P, 2, none⟩ = some (.string x.t) ∧ w'.cell? ⟨P, 3, none⟩ = some (.string x.c) ∧ w'.cell? ⟨P, 4, none⟩ = some (.string x.s) ∧ w'.cell? ⟨P, 5, none⟩ = some (.int .i64 x.sd) ∧ w'.cell? ⟨P, 6, none⟩ = some (.int .i64 x.q) ∧ w'.cell? ⟨P, 7, none⟩ = some (.int .i64 x.p) ∧ w'.cell? ⟨P, 8, none⟩ = some (.int .i64 x.al) ∧ w'.cell? ⟨P, 9, none⟩ = some (.int .i64 x.st) ∧ w'.cell? ⟨P, 10, none⟩ = some (.int .i64 x.en) ∧ w'.cell? ⟨P, 11, none⟩ = some (.int .i64 0) ∧ w'.cell? ⟨P, 12, none⟩ = some (.int .i64 0) ∧ w'.cell? ⟨P, 13, none⟩ = some (.slice none 0 0) ∧ w'.cell? ⟨P, 14, none⟩ = some (m) ∧ w'.cell? ⟨P, 15, none⟩ = some (.int .i64 x.fr)) (go_keep) (first
    | (go_at_call 25; refine F4.mono ?_; rintro e w5 ⟨rfl, k5⟩; have b5 := below_of_drew k5; have f0 := (b5.cell (p := ⟨P, 0, none⟩) (World.block_lt_of_cell? _ _ c0)).trans c0; have f1 := (b5.cell (p := ⟨P, 1, none⟩) (World.block_lt_of_cell? _ _ c1)).trans c1; have f2 := (b5.cell (p := ⟨P, 2, none⟩) (World.block_lt_of_cell? _ _ c2)).trans c2; have f3 := (b5.cell (p := ⟨P, 3, none⟩) (World.block_lt_of_cell? _ _ c3)).trans c3; have f4 := (b5.cell (p := ⟨P, 4, none⟩) (World.block_lt_of_cell? _ _ c4)).trans c4; have f5 := (b5.cell (p := ⟨P, 5, none⟩) (World.block_lt_of_cell? _ _ c5)).trans c5; have f6 := (b5.cell (p := ⟨P, 6, none⟩) (World.block_lt_of_cell? _ _ c6)).trans c6; have f7 := (b5.cell (p := ⟨P, 7, none⟩) (World.block_lt_of_cell? _ _ c7)).trans c7; have f8 := (b5.cell (p := ⟨P, 8, none⟩) (World.block_lt_of_cell? _ _ c8)).trans c8; have f9 := (b5.cell (p := ⟨P, 9, none⟩) (World.block_lt_of_cell? _ _ c9)).trans c9; have f10 := (b5.cell (p := ⟨P, 10, none⟩) (World.block_lt_of_cell? _ _ c10)).trans c10; have f11 := (b5.cell (p := ⟨P, 11, none⟩) (World.block_lt_of_cell? _ _ c11)).trans c11; have f12 := (b5.cell (p := ⟨P, 12, none⟩) (World.block_lt_of_cell? _ _ c12)).trans c12; have f13 := (b5.cell (p := ⟨P, 13, none⟩) (World.block_lt_of_cell? _ _ c13)).trans c13; have f14 := (b5.cell (p := ⟨P, 14, none⟩) (World.block_lt_of_cell? _ _ c14)).trans c14; have f15 := (b5.cell (p := ⟨P, 15, none⟩) (World.block_lt_of_cell? _ _ c15)).trans c15))
  go_wp2_with fail
  go_ret2
  exact ⟨rfl, b5⟩
set_option maxHeartbeats 4000000 in
theorem goal_yes {w : World} {B P : Nat} {v : Value} {x : Sl} (K : SlAt w B P v x) (nw vol d lot : Int) (l1 : lot ≤ 9223372036854775807) : Calls Tryz.prog 13 #[.pointer (some ⟨P, 0, none⟩), .int .i64 nw, .int .i64 vol, .int .i64 d, .int .i64 lot] w fun e w' => e = .returned (.tuple #[.int .i64 (glN x nw vol d lot), .int .i64 (glE x nw vol d lot)]) ∧ Below w.heap.size w w' := by
  have F := target_yes K nw vol d
  have c6 : w.cell? ⟨P, 6, none⟩ = some (.int .i64 x.q) := K.cell 6 (by omega)
  unfold glN glE
  cases ha : askB x nw vol d
  · obtain ⟨e1, e2⟩ := tg_wrong ha
    rw [e1, e2] at F
    simp only [Bool.false_eq_true, if_false]
    clear e1 e2 K ha
    go_enter Tryz.func13, Tryz.ntmps13
    go_wp2_with fail
    refine F.mono ?_
    rintro e w1 ⟨rfl, b1⟩
    go_wp2_with fail
    go_ret2
    exact ⟨rfl, b1⟩
  · have e2 : tgE x nw vol d = 0 := by unfold tgE; rw [ha]; rfl
    rw [e2] at F
    simp only [if_true]
    have F2 := fun w => PA.goal_any (tgN x nw vol d) lot x.q w l1
    clear e2 K ha
    generalize tgN x nw vol d = n at *
    go_enter Tryz.func13, Tryz.ntmps13
    go_wp2_with fail
    refine F.mono ?_
    rintro e w1 ⟨rfl, b1⟩
    have d6 := (b1.cell (p := ⟨P, 6, none⟩) (World.block_lt_of_cell? _ _ c6)).trans c6
    go_wp2_with fail
    refine (F2 _).mono ?_
    rintro e w2 ⟨rfl, b2⟩
    go_wp2_with fail
    go_ret2
    exact ⟨rfl, b1.trans (b2.mono b1.size)⟩
theorem SlAt.amended {w : World} {B P : Nat} {v : Value} {x : Sl} (K : SlAt w B P v x) {q p en : Int} (he : amE x q p en = 0) :
    SlAt (((w.setCell ⟨P, 6, none⟩ (.int .i64 q)).setCell ⟨P, 7, none⟩ (.int .i64 p)).setCell ⟨P, 10, none⟩ (.int .i64 en)) B P v (amX x q p en) ∧ But (fun k => k = P) w (((w.setCell ⟨P, 6, none⟩ (.int .i64 q)).setCell ⟨P, 7, none⟩ (.int .i64 p)).setCell ⟨P, 10, none⟩ (.int .i64 en)) := by
  have k : But (fun k => k = P) w (((w.setCell ⟨P, 6, none⟩ (.int .i64 q)).setCell ⟨P, 7, none⟩ (.int .i64 p)).setCell ⟨P, 10, none⟩ (.int .i64 en)) :=
    (((But.refl (fun k => k = P) w).setCell _ _ _ (fun _ => rfl)).setCell _ _ _ (fun _ => rfl)).setCell _ _ _ (fun _ => rfl)
  have G := K.good.amend q p en
  rw [amX_yes he] at G ⊢
  refine ⟨⟨fun j hj => ?_, fun j => by rw [World.frozen?_setCell, World.frozen?_setCell, World.frozen?_setCell]; exact K.fz j, K.lP, fun a => own_kept (K.own a) k (fun g hg e => K.apart a g hg e), K.apart, G⟩, k⟩
  have other : ∀ (w : World) (i : Nat) (u : Value), j ≠ i → (w.setCell ⟨P, i, none⟩ u).cell? ⟨P, j, none⟩ = w.cell? ⟨P, j, none⟩ := fun w i u h => World.cell?_setCell_other _ _ _ _ (fun e => h (by injection e with _ e; exact e.symm))
  have c := K.cell j hj
  by_cases j6 : j = 6
  · subst j6
    rw [World.cell?_setCell_other _ _ _ _ (by simp), World.cell?_setCell_other _ _ _ _ (by simp), World.cell?_setCell_same' _ _ _ (by rw [c]; rfl)]
    rfl
  by_cases j7 : j = 7
  · subst j7
    rw [World.cell?_setCell_other _ _ _ _ (by simp), World.cell?_setCell_same' _ _ _ (by rw [World.cell?_setCell_other _ _ _ _ (by simp), c]; rfl)]
    rfl
  by_cases j10 : j = 10
  · subst j10
    rw [World.cell?_setCell_same' _ _ _ (by rw [World.cell?_setCell_other _ _ _ _ (by simp), World.cell?_setCell_other _ _ _ _ (by simp), c]; rfl)]
    rfl
  rw [other _ 10 _ j10, other _ 7 _ j7, other _ 6 _ j6, c]
  rcases (show j = 0 ∨ j = 1 ∨ j = 2 ∨ j = 3 ∨ j = 4 ∨ j = 5 ∨ j = 8 ∨ j = 9 ∨ j = 11 ∨ j = 12 ∨ j = 13 ∨ j = 14 ∨ j = 15 by omega) with rfl | rfl | rfl | rfl | rfl | rfl | rfl | rfl | rfl | rfl | rfl | rfl | rfl <;> rfl
set_option maxHeartbeats 4000000 in
theorem amend_yes {w : World} {B P : Nat} {v : Value} {x : Sl} (K : SlAt w B P v x) (q p en : Int) : Calls Tryz.prog 9 #[.pointer (some ⟨P, 0, none⟩), .int .i64 q, .int .i64 p, .int .i64 en] w fun e w' => e = .returned (.int .i64 (amE x q p en)) ∧ SlAt w' B P v (amX x q p en) ∧ But (fun k => k = P) w w' := by
  have F := made_yes K
  have F1 := fun w => within_any q 1 1099511627776 w
  have F2 := fun w => within_any p 1 1099511627776 w
  have F3 := fun w => within_any en 0 1099511627776 w
  have F4 := fun w => within_any (en - x.st) 1 1073741824 w
  have c9 : w.cell? ⟨P, 9, none⟩ = some (.int .i64 x.st) := K.cell 9 (by omega)
  cases hc : chgB q p en
  · have eE : amE x q p en = 2 := by unfold amE; rw [hc]; rfl
    have eX : amX x q p en = x := amX_no (by rw [eE]; decide)
    rw [eE, eX]
    have R : Hid (SlAt w B P v x ∧ But (fun k => k = P) w w) := ⟨K, But.refl _ _⟩
    clear eE eX K F4 c9
    unfold chgB at hc
    cases h1 : inB q 1 1099511627776
    · rw [h1] at F1
      clear hc h1
      go_enter Tryz.func9, Tryz.ntmps9
      go_wp2_with fail
      refine F.mono ?_
      rintro e w1 ⟨rfl, rfl⟩
      go_wp2_with fail
      refine (F1 _).mono ?_
      rintro e w1 ⟨rfl, rfl⟩
      go_wp2_with fail
      go_ret
      exact ⟨rfl, R.out⟩
    rw [h1] at F1 hc
    rw [Bool.true_and] at hc
    cases h2 : inB p 1 1099511627776
    · rw [h2] at F2
      clear hc h1 h2
      go_enter Tryz.func9, Tryz.ntmps9
      go_wp2_with fail
      refine F.mono ?_
      rintro e w1 ⟨rfl, rfl⟩
      go_wp2_with fail
      refine (F1 _).mono ?_
      rintro e w1 ⟨rfl, rfl⟩
      go_wp2_with fail
      refine (F2 _).mono ?_
      rintro e w1 ⟨rfl, rfl⟩
      go_wp2_with fail
      go_ret
      exact ⟨rfl, R.out⟩
    rw [h2] at F2 hc
    rw [Bool.true_and] at hc
    rw [hc] at F3
    clear hc h1 h2
    go_enter Tryz.func9, Tryz.ntmps9
    go_wp2_with fail
    refine F.mono ?_
    rintro e w1 ⟨rfl, rfl⟩
    go_wp2_with fail
    refine (F1 _).mono ?_
    rintro e w1 ⟨rfl, rfl⟩
    go_wp2_with fail
    refine (F2 _).mono ?_
    rintro e w1 ⟨rfl, rfl⟩
    go_wp2_with fail
    refine (F3 _).mono ?_
    rintro e w1 ⟨rfl, rfl⟩
    go_wp2_with fail
    go_ret
    exact ⟨rfl, R.out⟩
  have hc' := hc
  unfold chgB at hc'
  simp only [Bool.and_eq_true] at hc'
  obtain ⟨⟨h1, h2⟩, h3⟩ := hc'
  rw [h1] at F1
  rw [h2] at F2
  rw [h3] at F3
  have hw : wrap64 (en - x.st) = en - x.st := by
    have := inB_true.1 h3
    exact FL.wrap_in _ (by have := K.good.st1; omega) (by have := K.good.st0; omega)
  clear h1 h2 h3
  cases hs : inB (en - x.st) 1 1073741824
  · have eE : amE x q p en = 282 := by unfold amE; rw [hc, hs]; rfl
    have eX : amX x q p en = x := amX_no (by rw [eE]; decide)
    rw [eE, eX]
    rw [hs] at F4
    have R : Hid (SlAt w B P v x ∧ But (fun k => k = P) w w) := ⟨K, But.refl _ _⟩
    clear eE eX K hc hs
    go_enter Tryz.func9, Tryz.ntmps9
    go_wp2_with fail
    refine F.mono ?_
    rintro e w1 ⟨rfl, rfl⟩
    go_wp2_with fail
    refine (F1 _).mono ?_
    rintro e w1 ⟨rfl, rfl⟩
    go_wp2_with fail
    refine (F2 _).mono ?_
    rintro e w1 ⟨rfl, rfl⟩
    go_wp2_with fail
    refine (F3 _).mono ?_
    rintro e w1 ⟨rfl, rfl⟩
    go_wp2_with fail
    refine (F4 _).mono ?_
    rintro e w1 ⟨rfl, rfl⟩
    go_wp2_with fail
    go_ret
    exact ⟨rfl, R.out⟩
  · have eE : amE x q p en = 0 := by unfold amE; rw [hc, hs]; rfl
    have R : Hid (SlAt (((w.setCell ⟨P, 6, none⟩ (.int .i64 q)).setCell ⟨P, 7, none⟩ (.int .i64 p)).setCell ⟨P, 10, none⟩ (.int .i64 en)) B P v (amX x q p en) ∧ But (fun k => k = P) w (((w.setCell ⟨P, 6, none⟩ (.int .i64 q)).setCell ⟨P, 7, none⟩ (.int .i64 p)).setCell ⟨P, 10, none⟩ (.int .i64 en))) := K.amended eE
    have d6 : w.cell? ⟨P, 6, none⟩ = some (.int .i64 x.q) := K.cell 6 (by omega)
    have d7 : w.cell? ⟨P, 7, none⟩ = some (.int .i64 x.p) := K.cell 7 (by omega)
    have d10 : w.cell? ⟨P, 10, none⟩ = some (.int .i64 x.en) := K.cell 10 (by omega)
    have z6 := K.fz 6
    have z7 := K.fz 7
    have z10 := K.fz 10
    rw [eE]
    rw [hs] at F4
    clear eE K hc hs
    go_enter Tryz.func9, Tryz.ntmps9
    go_wp2_with fail
    refine F.mono ?_
    rintro e w1 ⟨rfl, rfl⟩
    go_wp2_with fail
    refine (F1 _).mono ?_
    rintro e w1 ⟨rfl, rfl⟩
    go_wp2_with fail
    refine (F2 _).mono ?_
    rintro e w1 ⟨rfl, rfl⟩
    go_wp2_with fail
    refine (F3 _).mono ?_
    rintro e w1 ⟨rfl, rfl⟩
    go_wp2_with fail
    refine (F4 _).mono ?_
    rintro e w1 ⟨rfl, rfl⟩
    go_wp2_with fail
    go_ret
    exact ⟨rfl, R.out⟩
end Go.Proofs.YtdacfnodihannaaGreat.SL
