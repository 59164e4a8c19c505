/-
  Contracts of slicer's New and Ask.
-/
import Derived.Test.YtdacfnodihannaaGreatSlSlice
namespace Go.Proofs.YtdacfnodihannaaGreat.SL
open Go.ChangeShapes Go.WideShapes Go.ChangeAt Go.RowKit Go.Lib

set_option maxHeartbeats 4000000 in
theorem new_bad (x : Sl) (a : Option Addr) (cap : Nat) (w : World) (h : Row w (.slice a x.z.length cap) x.z.length fun i => .int .i64 (x.z.getD i 0)) (hn : newB x = false) :
    Calls Tryz.prog 6 #[.agg #[.int .i64 x.k, .string x.i, .string x.t, .string x.c, .string x.s, .int .i64 x.sd, .int .i64 x.q, .int .i64 x.p, .int .i64 x.al, .int .i64 x.st, .int .i64 x.en, .int .i64 x.ra, .int .i64 x.sh, .slice a x.z.length cap], .int .i64 x.fr] w fun e w' => e = .returned (.tuple #[.pointer none, .int .i64 2]) ∧ Below w.heap.size w w' := by
  have B0 := (Below.refl _ w).alloc (Nat.le_refl _) (.cells #[.int .i64 x.k, .string x.i, .string x.t, .string x.c, .string x.s, .int .i64 x.sd, .int .i64 x.q, .int .i64 x.p, .int .i64 x.al, .int .i64 x.st, .int .i64 x.en, .int .i64 x.ra, .int .i64 x.sh, .slice a x.z.length cap] 24)
  have F1 := right_any x.k x.i x.t x.c x.s x.sd x.q x.p x.al x.st x.en x.ra x.sh a cap x.z _ (h.below B0)
  have F2 := fun w => within_any x.fr 0 4611686018427387904 w
  unfold newB at hn
  cases hk : (x.k == 1)
  · have hk' : ¬ x.k = 1 := by simpa using hk
    clear hn F1 F2 h hk
    go_enter Tryz.func6, Tryz.ntmps6
    go_wp2_with fail
    go_ret2
    exact ⟨rfl, B0⟩
  rw [hk, Bool.true_and] at hn
  have hk2 : (x.k != 1) = false := by unfold bne; rw [hk]; rfl
  clear hk
  cases hr : rightB x.k x.i x.t x.c x.s x.sd x.q x.p x.al x.st x.en x.ra x.sh x.z.length (curB x.z)
  · rw [hr] at F1
    clear hn F2 h hr
    go_enter Tryz.func6, Tryz.ntmps6
    go_wp2_with fail
    refine F1.mono ?_
    rintro e w1 ⟨rfl, b1⟩
    have b2 := B0.trans (b1.mono B0.size)
    go_wp2_with fail
    go_ret2
    exact ⟨rfl, b2⟩
  rw [hr] at F1 hn
  rw [Bool.true_and] at hn
  rw [hn] at F2
  clear hn h hr
  go_enter Tryz.func6, Tryz.ntmps6
  go_wp2_with fail
  refine F1.mono ?_
  rintro e w1 ⟨rfl, b1⟩
  have b2 := B0.trans (b1.mono B0.size)
  go_wp2_with fail
  refine (F2 _).mono ?_
  rintro e w2 ⟨rfl, rfl⟩
  go_wp2_with fail
  go_ret2
  exact ⟨rfl, b2⟩
theorem own_base {w : World} {base : Nat} {e : TypeId} {size : Nat} {v : Value} {n : Nat} {xs : List Value} (h : w.ownsRow base e size v n xs) {g : Nat} (hg : v.ownBlock = some g) : base ≤ g ∧ g < w.heap.size := by
  rcases h.2 with h2 | ⟨g', cap, cur, e1, hb, hs', _⟩
  · rw [h2.1] at hg
    exact absurd hg (by simp [Value.ownBlock])
  · rw [e1] at hg
    have e2 : g = g' := by simpa [Value.ownBlock] using hg.symm
    subst e2
    refine ⟨hb, ?_⟩
    rcases Nat.lt_or_ge g w.heap.size with h | h
    · exact h
    · rw [Array.getElem?_eq_none h] at hs'
      exact absurd hs' (by simp)
/-- What New makes, in a world that has grown since w. -/
theorem new_at {w1 : World} {B : Nat} {x : Sl} {v : Value} (G : Good x) (hB : B ≤ w1.heap.size) (ho : x.al = 2 → w1.ownsRow B 3 1 v x.z.length (valsZ x.z)) (T : TypeId) :
    SlAt (w1.alloc (.cells #[.int .i64 x.k, .string x.i, .string x.t, .string x.c, .string x.s, .int .i64 x.sd, .int .i64 x.q, .int .i64 x.p, .int .i64 x.al, .int .i64 x.st, .int .i64 x.en, .int .i64 0, .int .i64 0, .slice none 0 0, alV x v, .int .i64 x.fr] T)) B w1.heap.size v x := by
  refine ⟨fun j hj => ?_, fun j => by simp, hB, fun e => own_kept (ho e) (But.refl (fun _ => False) w1 |>.alloc _) (fun _ _ => id), fun e g hg => ?_, G⟩
  · rcases (show j = 0 ∨ j = 1 ∨ j = 2 ∨ j = 3 ∨ j = 4 ∨ j = 5 ∨ j = 6 ∨ j = 7 ∨ j = 8 ∨ j = 9 ∨ j = 10 ∨ j = 11 ∨ j = 12 ∨ j = 13 ∨ j = 14 ∨ j = 15 by omega) with rfl | rfl | rfl | rfl | rfl | rfl | rfl | rfl | rfl | rfl | rfl | rfl | rfl | rfl | rfl | rfl <;> simp [slF]
  · have := (own_base (ho e) hg).2
    omega
set_option maxRecDepth 100000 in
set_option maxHeartbeats 8000000 in
theorem new_good (x : Sl) (a : Option Addr) (cap : Nat) (w : World) (h : Row w (.slice a x.z.length cap) x.z.length fun i => .int .i64 (x.z.getD i 0)) (hn : newB x = true) :
    Calls Tryz.prog 6 #[.agg #[.int .i64 x.k, .string x.i, .string x.t, .string x.c, .string x.s, .int .i64 x.sd, .int .i64 x.q, .int .i64 x.p, .int .i64 x.al, .int .i64 x.st, .int .i64 x.en, .int .i64 x.ra, .int .i64 x.sh, .slice a x.z.length cap], .int .i64 x.fr] w fun e w' => ∃ P v, e = .returned (.tuple #[.pointer (some ⟨P, 0, none⟩), .int .i64 0]) ∧ SlAt w' w.heap.size P v x ∧ Below w.heap.size w w' := by
  have G := good_of hn
  have B0 := (Below.refl _ w).alloc (Nat.le_refl _) (.cells #[.int .i64 x.k, .string x.i, .string x.t, .string x.c, .string x.s, .int .i64 x.sd, .int .i64 x.q, .int .i64 x.p, .int .i64 x.al, .int .i64 x.st, .int .i64 x.en, .int .i64 x.ra, .int .i64 x.sh, .slice a x.z.length cap] 24)
  have Q0 : Hid (Box (w.alloc (.cells #[.int .i64 x.k, .string x.i, .string x.t, .string x.c, .string x.s, .int .i64 x.sd, .int .i64 x.q, .int .i64 x.p, .int .i64 x.al, .int .i64 x.st, .int .i64 x.en, .int .i64 x.ra, .int .i64 x.sh, .slice a x.z.length cap] 24)) w.heap.size (oF x (.slice a x.z.length cap))) := box_new w x _ _
  have F1 := right_any x.k x.i x.t x.c x.s x.sd x.q x.p x.al x.st x.en x.ra x.sh a cap x.z _ (h.below B0)
  have F2 := fun w => within_any x.fr 0 4611686018427387904 w
  have W0 := fun w => without_any x a x.z.length cap w
  have A0 : ∀ w1, Below w.heap.size w w1 → Calls Tryz.prog 21 #[.agg #[.int .i64 x.k, .string x.i, .string x.t, .string x.c, .string x.s, .int .i64 x.sd, .int .i64 x.q, .int .i64 x.p, .int .i64 x.al, .int .i64 x.st, .int .i64 x.en, .int .i64 x.ra, .int .i64 x.sh, .slice a x.z.length cap]] w1 fun e w' => ∃ v T u, e = .returned (.iface T u) ∧ Hid (alV x v = .iface T u ∧ (x.al = 2 → w'.ownsRow w1.heap.size 3 1 v x.z.length (valsZ x.z))) ∧ Below w1.heap.size w1 w' := fun w1 b =>
    (algorithm_any x G a x.z.length cap w1 (fun _ => ⟨rfl, h.below b⟩)).mono fun e w' ⟨v, he, ho, hb⟩ => by
      obtain ⟨T, u, hT⟩ := alV_some x v
      exact ⟨v, T, u, by rw [he, hT], ⟨hT, ho⟩, hb⟩
  unfold newB at hn
  simp only [Bool.and_eq_true, beq_iff_eq] at hn
  obtain ⟨hk, hr, hf⟩ := hn
  rw [hr] at F1
  rw [hf] at F2
  have hk2 : (x.k != 1) = false := by unfold bne; rw [hk]; rfl
  clear hr hf h hk
  go_enter Tryz.func6, Tryz.ntmps6
  go_wp2_with fail
  refine F1.mono ?_
  rintro e w1 ⟨rfl, b1⟩
  have b2 : Hid (Below w.heap.size w w1) := B0.trans (b1.mono B0.size)
  have Q1 : Box w1 w.heap.size (oF x (.slice a x.z.length cap)) := Q0.out.below b1
  have c0 := Q1.cell 0 (by decide)
  have c1 := Q1.cell 1 (by decide)
  have c2 := Q1.cell 2 (by decide)
  have c3 := Q1.cell 3 (by decide)
  have c4 := Q1.cell 4 (by decide)
  have c5 := Q1.cell 5 (by decide)
  have c6 := Q1.cell 6 (by decide)
  have c7 := Q1.cell 7 (by decide)
  have c8 := Q1.cell 8 (by decide)
  have c9 := Q1.cell 9 (by decide)
  have c10 := Q1.cell 10 (by decide)
  have c11 := Q1.cell 11 (by decide)
  have c12 := Q1.cell 12 (by decide)
  have c13 := Q1.cell 13 (by decide)
  simp only [oF] at c0 c1 c2 c3 c4 c5 c6 c7 c8 c9 c10 c11 c12 c13
  go_wp2_with fail
  refine (F2 _).mono ?_
  rintro e w2 ⟨rfl, rfl⟩
  go_wp2_with fail
  go_region_held3 (fun w' => w'.cell? ⟨w.heap.size, 0, none⟩ = some (.int .i64 x.k) ∧ w'.cell? ⟨w.heap.size, 1, none⟩ = some (.string x.i) ∧ w'.cell? ⟨w.heap.size, 2, none⟩ = some (.string x.t) ∧ w'.cell? ⟨w.heap.size, 3, none⟩ = some (.string x.c) ∧ w'.cell? ⟨w.heap.size, 4, none⟩ = some (.string x.s) ∧ w'.cell? ⟨w.heap.size, 5, none⟩ = some (.int .i64 x.sd) ∧ w'.cell? ⟨w.heap.size, 6, none⟩ = some (.int .i64 x.q) ∧ w'.cell? ⟨w.heap.size, 7, none⟩ = some (.int .i64 x.p) ∧ w'.cell? ⟨w.heap.size, 8, none⟩ = some (.int .i64 x.al) ∧ w'.cell? ⟨w.heap.size, 9, none⟩ = some (.int .i64 x.st) ∧ w'.cell? ⟨w.heap.size, 10, none⟩ = some (.int .i64 x.en) ∧ w'.cell? ⟨w.heap.size, 11, none⟩ = some (.int .i64 x.ra) ∧ w'.cell? ⟨w.heap.size, 12, none⟩ = some (.int .i64 x.sh) ∧ w'.cell? ⟨w.heap.size, 13, none⟩ = some (.slice a x.z.length cap)) (go_keep) (first
    | (go_at_call 20; refine (W0 _).mono ?_; rintro e w5 ⟨rfl, k5⟩; have b5 : Below w1.heap.size w1 w5 := below_of_drew k5; have Q5 : Box w5 w.heap.size (oF x (.slice a x.z.length cap)) := Q1.below b5; have d0 := Q5.cell 0 (by decide); have d1 := Q5.cell 1 (by decide); have d2 := Q5.cell 2 (by decide); have d3 := Q5.cell 3 (by decide); have d4 := Q5.cell 4 (by decide); have d5 := Q5.cell 5 (by decide); have d6 := Q5.cell 6 (by decide); have d7 := Q5.cell 7 (by decide); have d8 := Q5.cell 8 (by decide); have d9 := Q5.cell 9 (by decide); have d10 := Q5.cell 10 (by decide); have d11 := Q5.cell 11 (by decide); have d12 := Q5.cell 12 (by decide); have d13 := Q5.cell 13 (by decide); simp only [oF] at d0 d1 d2 d3 d4 d5 d6 d7 d8 d9 d10 d11 d12 d13)
    | (go_at_call 21; refine (A0 _ (b2.out.trans (b5.mono b2.out.size))).mono ?_; rintro e w6 ⟨v, T, u, rfl, ho, k6⟩; have Q6 : Box w6 w.heap.size (oF x (.slice a x.z.length cap)) := Q5.below k6; have d0 := Q6.cell 0 (by decide); have d1 := Q6.cell 1 (by decide); have d2 := Q6.cell 2 (by decide); have d3 := Q6.cell 3 (by decide); have d4 := Q6.cell 4 (by decide); have d5 := Q6.cell 5 (by decide); have d6 := Q6.cell 6 (by decide); have d7 := Q6.cell 7 (by decide); have d8 := Q6.cell 8 (by decide); have d9 := Q6.cell 9 (by decide); have d10 := Q6.cell 10 (by decide); have d11 := Q6.cell 11 (by decide); have d12 := Q6.cell 12 (by decide); have d13 := Q6.cell 13 (by decide); simp only [oF] at d0 d1 d2 d3 d4 d5 d6 d7 d8 d9 d10 d11 d12 d13))
  have b6 : Below w.heap.size w w6 := (b2.out.trans (b5.mono b2.out.size)).trans (k6.mono (Nat.le_trans b2.out.size b5.size))
  have hT := ho.out.1
  have hS := new_at G b6.size (fun e => own_less (ho.out.2 e) (Nat.le_trans b2.out.size b5.size)) 56
  rw [hT] at hS
  clear ho hT
  go_wp2_with fail
  go_ret2
  exact ⟨_, v, rfl, hS, b6.alloc b6.size _⟩
theorem ask_no {w : World} {r : Value} (h : NoSl w r) : Calls Tryz.prog 16 #[r] w fun e w' => e = .returned (.agg #[.int .i64 0, .string ⟨#[]⟩, .string ⟨#[]⟩, .string ⟨#[]⟩, .string ⟨#[]⟩, .int .i64 0, .int .i64 0, .int .i64 0, .int .i64 0, .int .i64 0, .int .i64 0, .int .i64 0, .int .i64 0, .slice none 0 0]) ∧ Below w.heap.size w w' := by
  have F : ∀ o, Calls Tryz.prog 24 #[r] (w.alloc o) fun e w' => e = .returned (.bool false) ∧ w.alloc o = w' := fun o => made_no (h.below ((Below.refl _ w).alloc (Nat.le_refl _) o))
  obtain ⟨a, rfl⟩ : ∃ a, r = .pointer a := by rcases h with rfl | ⟨q, rfl, _⟩ <;> exact ⟨_, rfl⟩
  clear h
  go_enter Tryz.func16, Tryz.ntmps16
  go_wp2_with fail
  refine (F _).mono ?_
  rintro e w1 ⟨rfl, rfl⟩
  go_wp2_with fail
  refine bodyPost_ret (v := .agg #[.int .i64 0, .string ⟨#[]⟩, .string ⟨#[]⟩, .string ⟨#[]⟩, .string ⟨#[]⟩, .int .i64 0, .int .i64 0, .int .i64 0, .int .i64 0, .int .i64 0, .int .i64 0, .int .i64 0, .int .i64 0, .slice none 0 0]) (by simp [results, Tryz.results16, go_sem]) rfl ⟨rfl, ?_⟩
  exact (Below.refl _ w).alloc (Nat.le_refl _) _
set_option maxRecDepth 100000 in
set_option maxHeartbeats 8000000 in
theorem ask_yes {w : World} {B P : Nat} {v : Value} {x : Sl} (K : SlAt w B P v x) : Calls Tryz.prog 16 #[.pointer (some ⟨P, 0, none⟩)] w fun e w' => ∃ a cap, e = .returned (oV x (.slice a x.z.length cap)) ∧ w'.ownsRow w.heap.size 3 1 (.slice a x.z.length cap) x.z.length (valsZ x.z) ∧ Below w.heap.size w w' := by
  have hP := K.pt
  have ne1 : ¬ P = w.heap.size := by omega
  have ne2 : ¬ w.heap.size = P := by omega
  obtain ⟨W, hW⟩ : ∃ W, w.alloc (.cells #[.int .i64 0, .string ⟨#[]⟩, .string ⟨#[]⟩, .string ⟨#[]⟩, .string ⟨#[]⟩, .int .i64 0, .int .i64 0, .int .i64 0, .int .i64 0, .int .i64 0, .int .i64 0, .int .i64 0, .int .i64 0, .slice none 0 0] 24) = W := ⟨_, rfl⟩
  have B0 : Below w.heap.size w W := hW ▸ (Below.refl _ w).alloc (Nat.le_refl _) _
  have sW : W.heap.size = w.heap.size + 1 := by rw [← hW]; simp
  have X0 : Hid (Box W w.heap.size none14) := by rw [← hW]; exact box_none w _
  have K1 := K.below B0
  have F := made_yes K1
  have F4 := with_any x K.good v W.drew (fun a => (K1.row a).below (below_drewN _ 1 W))
  have c0 : W.cell? ⟨P, 0, none⟩ = some (.int .i64 x.k) := K1.cell 0 (by omega)
  have c1 : W.cell? ⟨P, 1, none⟩ = some (.string x.i) := K1.cell 1 (by omega)
  have c2 : W.cell? ⟨P, 2, none⟩ = some (.string x.t) := K1.cell 2 (by omega)
  have c3 : W.cell? ⟨P, 3, none⟩ = some (.string x.c) := K1.cell 3 (by omega)
  have c4 : W.cell? ⟨P, 4, none⟩ = some (.string x.s) := K1.cell 4 (by omega)
  have c5 : W.cell? ⟨P, 5, none⟩ = some (.int .i64 x.sd) := K1.cell 5 (by omega)
  have c6 : W.cell? ⟨P, 6, none⟩ = some (.int .i64 x.q) := K1.cell 6 (by omega)
  have c7 : W.cell? ⟨P, 7, none⟩ = some (.int .i64 x.p) := K1.cell 7 (by omega)
  have c8 : W.cell? ⟨P, 8, none⟩ = some (.int .i64 x.al) := K1.cell 8 (by omega)
  have c9 : W.cell? ⟨P, 9, none⟩ = some (.int .i64 x.st) := K1.cell 9 (by omega)
  have c10 : W.cell? ⟨P, 10, none⟩ = some (.int .i64 x.en) := K1.cell 10 (by omega)
  have c11 : W.cell? ⟨P, 11, none⟩ = some (.int .i64 0) := K1.cell 11 (by omega)
  have c12 : W.cell? ⟨P, 12, none⟩ = some (.int .i64 0) := K1.cell 12 (by omega)
  have c13 : W.cell? ⟨P, 13, none⟩ = some (.slice none 0 0) := K1.cell 13 (by omega)
  have c14 : W.cell? ⟨P, 14, none⟩ = some (alV x v) := K1.cell 14 (by omega)
  generalize alV x v = m at *
  clear K K1
  go_enter Tryz.func16, Tryz.ntmps16
  go_wp2_with fail
  refine F.mono ?_
  rintro e w1 ⟨rfl, rfl⟩
  go_wp2_with fail
  go_region_held3 (fun w' => w'.cell? ⟨P, 0, none⟩ = some (.int .i64 x.k) ∧ w'.cell? ⟨P, 1, none⟩ = some (.string x.i) ∧ w'.cell? ⟨P, 2, none⟩ = some (.string x.t) ∧ w'.cell? ⟨P, 3, none⟩ = some (.string x.c) ∧ w'.cell? ⟨P, 4, none⟩ = some (.string x.s) ∧ w'.cell? ⟨P, 5, none⟩ = some (.int .i64 x.sd) ∧ w'.cell? ⟨P, 6, none⟩ = some (.int .i64 x.q) ∧ w'.cell? ⟨P, 7, none⟩ = some (.int .i64 x.p) ∧ w'.cell? ⟨P, 8, none⟩ = some (.int .i64 x.al) ∧ w'.cell? ⟨P, 9, none⟩ = some (.int .i64 x.st) ∧ w'.cell? ⟨P, 10, none⟩ = some (.int .i64 x.en) ∧ w'.cell? ⟨P, 11, none⟩ = some (.int .i64 0) ∧ w'.cell? ⟨P, 12, none⟩ = some (.int .i64 0) ∧ w'.cell? ⟨P, 13, none⟩ = some (.slice none 0 0) ∧ w'.cell? ⟨P, 14, none⟩ = some (m)) (go_keep) (first
    | (go_at_call 33; refine F4.mono ?_; rintro e w5 ⟨a, cap, rfl, hr, k5⟩; have b5 : Below W.heap.size W w5 := below_of_drew k5; have Y1 : Hid (Box w5 w.heap.size none14) := X0.out.below b5; have hr := (show Hid (w5.ownsRow W.drew.heap.size 3 1 (.slice a x.z.length cap) x.z.length (valsZ x.z)) from hr); have f0 := (b5.cell (p := ⟨P, 0, none⟩) (World.block_lt_of_cell? _ _ c0)).trans c0; have f1 := (b5.cell (p := ⟨P, 1, none⟩) (World.block_lt_of_cell? _ _ c1)).trans c1; have f2 := (b5.cell (p := ⟨P, 2, none⟩) (World.block_lt_of_cell? _ _ c2)).trans c2; have f3 := (b5.cell (p := ⟨P, 3, none⟩) (World.block_lt_of_cell? _ _ c3)).trans c3; have f4 := (b5.cell (p := ⟨P, 4, none⟩) (World.block_lt_of_cell? _ _ c4)).trans c4; have f5 := (b5.cell (p := ⟨P, 5, none⟩) (World.block_lt_of_cell? _ _ c5)).trans c5; have f6 := (b5.cell (p := ⟨P, 6, none⟩) (World.block_lt_of_cell? _ _ c6)).trans c6; have f7 := (b5.cell (p := ⟨P, 7, none⟩) (World.block_lt_of_cell? _ _ c7)).trans c7; have f8 := (b5.cell (p := ⟨P, 8, none⟩) (World.block_lt_of_cell? _ _ c8)).trans c8; have f9 := (b5.cell (p := ⟨P, 9, none⟩) (World.block_lt_of_cell? _ _ c9)).trans c9; have f10 := (b5.cell (p := ⟨P, 10, none⟩) (World.block_lt_of_cell? _ _ c10)).trans c10; have f11 := (b5.cell (p := ⟨P, 11, none⟩) (World.block_lt_of_cell? _ _ c11)).trans c11; have f12 := (b5.cell (p := ⟨P, 12, none⟩) (World.block_lt_of_cell? _ _ c12)).trans c12; have f13 := (b5.cell (p := ⟨P, 13, none⟩) (World.block_lt_of_cell? _ _ c13)).trans c13; have f14 := (b5.cell (p := ⟨P, 14, none⟩) (World.block_lt_of_cell? _ _ c14)).trans c14; have r0 := Y1.out.cell 0 (by decide); have r1 := Y1.out.cell 1 (by decide); have r2 := Y1.out.cell 2 (by decide); have r3 := Y1.out.cell 3 (by decide); have r4 := Y1.out.cell 4 (by decide); have r5 := Y1.out.cell 5 (by decide); have r6 := Y1.out.cell 6 (by decide); have r7 := Y1.out.cell 7 (by decide); have r8 := Y1.out.cell 8 (by decide); have r9 := Y1.out.cell 9 (by decide); have r10 := Y1.out.cell 10 (by decide); have r11 := Y1.out.cell 11 (by decide); have r12 := Y1.out.cell 12 (by decide); have r13 := Y1.out.cell 13 (by decide); simp only [none14] at r0 r1 r2 r3 r4 r5 r6 r7 r8 r9 r10 r11 r12 r13; have z1 := Y1.out.fz))
  have PP : Hid (Box (put14 w5 w.heap.size (oF x (.slice a x.z.length cap))) w.heap.size (oF x (.slice a x.z.length cap)) ∧ But (fun k => k = w.heap.size) w5 (put14 w5 w.heap.size (oF x (.slice a x.z.length cap)))) := Y1.out.put _
  unfold put14 at PP
  simp only [oF] at PP
  generalize hV : World.setCell _ ⟨w.heap.size, 13, none⟩ _ = V
  rw [hV] at PP
  have BV : Below w.heap.size w V := (B0.trans (b5.mono B0.size)).trans (PP.out.2.below (by have := b5.size; omega) (fun i e => by omega))
  have p0 : V.cell? ⟨w.heap.size, 0, none⟩ = some (.int .i64 x.k) := PP.out.1.cell 0 (by omega)
  have p1 : V.cell? ⟨w.heap.size, 1, none⟩ = some (.string x.i) := PP.out.1.cell 1 (by omega)
  have p2 : V.cell? ⟨w.heap.size, 2, none⟩ = some (.string x.t) := PP.out.1.cell 2 (by omega)
  have p3 : V.cell? ⟨w.heap.size, 3, none⟩ = some (.string x.c) := PP.out.1.cell 3 (by omega)
  have p4 : V.cell? ⟨w.heap.size, 4, none⟩ = some (.string x.s) := PP.out.1.cell 4 (by omega)
  have p5 : V.cell? ⟨w.heap.size, 5, none⟩ = some (.int .i64 x.sd) := PP.out.1.cell 5 (by omega)
  have p6 : V.cell? ⟨w.heap.size, 6, none⟩ = some (.int .i64 x.q) := PP.out.1.cell 6 (by omega)
  have p7 : V.cell? ⟨w.heap.size, 7, none⟩ = some (.int .i64 x.p) := PP.out.1.cell 7 (by omega)
  have p8 : V.cell? ⟨w.heap.size, 8, none⟩ = some (.int .i64 x.al) := PP.out.1.cell 8 (by omega)
  have p9 : V.cell? ⟨w.heap.size, 9, none⟩ = some (.int .i64 x.st) := PP.out.1.cell 9 (by omega)
  have p10 : V.cell? ⟨w.heap.size, 10, none⟩ = some (.int .i64 x.en) := PP.out.1.cell 10 (by omega)
  have p11 : V.cell? ⟨w.heap.size, 11, none⟩ = some (.int .i64 x.ra) := PP.out.1.cell 11 (by omega)
  have p12 : V.cell? ⟨w.heap.size, 12, none⟩ = some (.int .i64 x.sh) := PP.out.1.cell 12 (by omega)
  have p13 : V.cell? ⟨w.heap.size, 13, none⟩ = some (.slice a x.z.length cap) := PP.out.1.cell 13 (by omega)
  go_wp2_with fail
  refine bodyPost_ret (v := .agg #[.int .i64 x.k, .string x.i, .string x.t, .string x.c, .string x.s, .int .i64 x.sd, .int .i64 x.q, .int .i64 x.p, .int .i64 x.al, .int .i64 x.st, .int .i64 x.en, .int .i64 x.ra, .int .i64 x.sh, .slice a x.z.length cap]) (by simp [results, Tryz.results16, go_sem, p0, p1, p2, p3, p4, p5, p6, p7, p8, p9, p10, p11, p12, p13]) rfl ⟨a, cap, rfl, ?_, BV⟩
  exact own_less (own_kept hr.out PP.out.2 (fun g hg e => by
    have := own_base hr.out hg
    have s2 : W.drew.heap.size = W.heap.size := rfl
    omega)) (by have s2 : W.drew.heap.size = W.heap.size := rfl; omega)
end Go.Proofs.YtdacfnodihannaaGreat.SL
