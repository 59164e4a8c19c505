/-
  Contract of child's happen, and of the calls that tell it an event: the answer, the child behind it.
-/
import Derived.Test.YtkkimkhkoiempaaChMove
namespace Go.Proofs.Ytkkimkhkoiempaa.CH
open Go.ChangeShapes Go.WideShapes Go.ChangeAt Go.RowKit Go.Lib MA

theorem box9_new (w : World) (x : Ch) (t : TypeId) : Box 9 (w.alloc (.cells #[.string x.id, .string x.ve, .int .i64 x.sd, .int .i64 x.st, .int .i64 x.q, .int .i64 x.p, .int .i64 x.nq, .int .i64 x.np, .int .i64 x.c] t)) w.heap.size (chF x) := by
  refine ⟨fun j hj => ?_, fun j => by simp, by simp⟩
  rcases (show j = 0 ∨ j = 1 ∨ j = 2 ∨ j = 3 ∨ j = 4 ∨ j = 5 ∨ j = 6 ∨ j = 7 ∨ j = 8 by omega) with rfl | rfl | rfl | rfl | rfl | rfl | rfl | rfl | rfl <;> simp [chF]
set_option maxRecDepth 100000 in
set_option maxHeartbeats 8000000 in
theorem happen_of {w : World} {n : Nat} {x y z : Ch} {v a b E s : Int} (K : ChAt w n x) (F2 : Calls Try.prog 40 #[tV x, .int .i64 v, .int .i64 a, .int .i64 b] w fun e w' => e = .returned (tV y) ∧ Below w.heap.size w w')
    (F3 : ∀ W, Calls Try.prog 41 #[.int .i64 x.st, .int .i64 v, .int .i64 y.c] W fun e w' => e = .returned (.tuple #[.int .i64 s, .int .i64 E]) ∧ Below W.heap.size W w')
    (F4 : ∀ W, Calls Try.prog 42 #[tV y, .int .i64 s, .int .i64 v] W fun e w' => e = .returned (tV z) ∧ Below W.heap.size W w') (hz : E = 0 → Good z) :
    Calls Try.prog 36 #[.pointer (some ⟨n, 0, none⟩), .int .i64 v, .int .i64 a, .int .i64 b] w fun e w' => e = .returned (.int .i64 E) ∧ ChAt w' n (if E = 0 then z else x) ∧ But (fun k => k = n) w w' := by
  have F1 := made_yes K
  have HK : Hid (ChAt w n x) := K
  have HZ : Hid (E = 0 → Good z) := hz
  have ln : n < w.heap.size := K.lt
  obtain ⟨r, hr⟩ : ∃ r, Hid ((if E = 0 then z else x) = r) := ⟨_, rfl⟩
  rw [hr.out]
  obtain ⟨x', hx'⟩ : ∃ x', x' = x := ⟨_, rfl⟩
  have HK' : Hid (ChAt w n x') := by rw [hx']; exact HK.out
  have hr' : Hid ((if E = 0 then z else x') = r) := by rw [hx']; exact hr
  obtain ⟨z', hz'⟩ : ∃ z', z' = z := ⟨_, rfl⟩
  have eZ : Hid (z' = z) := hz'
  have HZ' : Hid (E = 0 → Good z') := by rw [hz']; exact HZ.out
  rw [← hz'] at hr'
  clear hr HK HZ hx' hz' hz
  have h0 : w.cell? ⟨n, 0, none⟩ = some (.string x.id) := K.box.cell 0 (by omega)
  have h1 : w.cell? ⟨n, 1, none⟩ = some (.string x.ve) := K.box.cell 1 (by omega)
  have h2 : w.cell? ⟨n, 2, none⟩ = some (.int .i64 x.sd) := K.box.cell 2 (by omega)
  have h3 : w.cell? ⟨n, 3, none⟩ = some (.int .i64 x.st) := K.box.cell 3 (by omega)
  have h4 : w.cell? ⟨n, 4, none⟩ = some (.int .i64 x.q) := K.box.cell 4 (by omega)
  have h5 : w.cell? ⟨n, 5, none⟩ = some (.int .i64 x.p) := K.box.cell 5 (by omega)
  have h6 : w.cell? ⟨n, 6, none⟩ = some (.int .i64 x.nq) := K.box.cell 6 (by omega)
  have h7 : w.cell? ⟨n, 7, none⟩ = some (.int .i64 x.np) := K.box.cell 7 (by omega)
  have h8 : w.cell? ⟨n, 8, none⟩ = some (.int .i64 x.c) := K.box.cell 8 (by omega)
  clear K
  obtain ⟨id, ve, sd, st, q, p, nq, np, c⟩ := x
  obtain ⟨yi, yv, yd, ys, yq, yp, yn, ym, yc⟩ := y
  obtain ⟨zi, zv, zd, zs, zq, zp, zn, zm, zc⟩ := z
  simp only at *
  go_enter Try.func36, Try.ntmps36
  go_wp2_with fail
  refine F1.mono ?_
  rintro e w ⟨rfl, rfl⟩
  go_wp2_with fail
  refine F2.mono ?_
  rintro e w1 ⟨rfl, hb1⟩
  have B2 : Below w.heap.size w (w1.alloc (.cells #[.string yi, .string yv, .int .i64 yd, .int .i64 ys, .int .i64 yq, .int .i64 yp, .int .i64 yn, .int .i64 ym, .int .i64 yc] 45)) := hb1.alloc hb1.size _
  have HB2 : Hid (Below w.heap.size w (w1.alloc (.cells #[.string yi, .string yv, .int .i64 yd, .int .i64 ys, .int .i64 yq, .int .i64 yp, .int .i64 yn, .int .i64 ym, .int .i64 yc] 45))) := B2
  have X2 : Hid (Box 9 (w1.alloc (.cells #[.string yi, .string yv, .int .i64 yd, .int .i64 ys, .int .i64 yq, .int .i64 yp, .int .i64 yn, .int .i64 ym, .int .i64 yc] 45)) w1.heap.size (chF ⟨yi, yv, yd, ys, yq, yp, yn, ym, yc⟩)) := box9_new w1 ⟨yi, yv, yd, ys, yq, yp, yn, ym, yc⟩ _
  have e3 := (B2.cell (p := ⟨n, 3, none⟩) ln).trans h3
  have d8 : (w1.alloc (.cells #[.string yi, .string yv, .int .i64 yd, .int .i64 ys, .int .i64 yq, .int .i64 yp, .int .i64 yn, .int .i64 ym, .int .i64 yc] 45)).cell? ⟨w1.heap.size, 8, none⟩ = some (.int .i64 yc) := X2.out.cell 8 (by omega)
  have lg : w1.heap.size < (w1.alloc (.cells #[.string yi, .string yv, .int .i64 yd, .int .i64 ys, .int .i64 yq, .int .i64 yp, .int .i64 yn, .int .i64 ym, .int .i64 yc] 45)).heap.size := by simp
  have ln2 : n < (w1.alloc (.cells #[.string yi, .string yv, .int .i64 yd, .int .i64 ys, .int .i64 yq, .int .i64 yp, .int .i64 yn, .int .i64 ym, .int .i64 yc] 45)).heap.size := Nat.lt_of_lt_of_le ln B2.size
  have NG : Hid (w.heap.size ≤ w1.heap.size) := hb1.size
  clear F1 F2 hb1 B2 h0 h1 h2 h3 h4 h5 h6 h7 h8
  go_upto_region 4 with fail
  generalize w1.alloc (.cells #[.string yi, .string yv, .int .i64 yd, .int .i64 ys, .int .i64 yq, .int .i64 yp, .int .i64 yn, .int .i64 ym, .int .i64 yc] 45) = W at *
  generalize w1.heap.size = g at *
  have F3' := fun m => F3 (W.drewN m)
  go_region_held3 (fun w' => w'.cell? ⟨n, 3, none⟩ = some (.int .i64 st) ∧ w'.cell? ⟨g, 8, none⟩ = some (.int .i64 yc)) (go_keep) (first
    | (go_at_call 41; refine (F3' _).mono ?_; rintro e w2 ⟨rfl, hb2⟩; have hb2 : Below W.heap.size W w2 := (below_drewN _ _ W).trans hb2; have k3 := (hb2.cell (p := ⟨n, 3, none⟩) ln2).trans e3; have k8 := (hb2.cell (p := ⟨g, 8, none⟩) lg).trans d8))
  have HB3 : Hid (Below w.heap.size w w2) := HB2.out.trans (hb2.mono HB2.out.size)
  have X3 : Hid (Box 9 w2 g (chF ⟨yi, yv, yd, ys, yq, yp, yn, ym, yc⟩)) := X2.out.below hb2
  have HK3 : Hid (ChAt w2 n x') := HK'.out.below HB3.out
  clear F3 F3' hb2 k3 k8 e3 d8 lg ln2 X2 HB2 HK'
  by_cases hE : E = 0
  · have hr2 : Hid (z' = r) := by have := hr'.out; rw [if_pos hE] at this; exact this
    clear hr'
    subst hE
    have d0 : w2.cell? ⟨g, 0, none⟩ = some (.string yi) := X3.out.cell 0 (by omega)
    have d1 : w2.cell? ⟨g, 1, none⟩ = some (.string yv) := X3.out.cell 1 (by omega)
    have d2 : w2.cell? ⟨g, 2, none⟩ = some (.int .i64 yd) := X3.out.cell 2 (by omega)
    have d3 : w2.cell? ⟨g, 3, none⟩ = some (.int .i64 ys) := X3.out.cell 3 (by omega)
    have d4 : w2.cell? ⟨g, 4, none⟩ = some (.int .i64 yq) := X3.out.cell 4 (by omega)
    have d5 : w2.cell? ⟨g, 5, none⟩ = some (.int .i64 yp) := X3.out.cell 5 (by omega)
    have d6 : w2.cell? ⟨g, 6, none⟩ = some (.int .i64 yn) := X3.out.cell 6 (by omega)
    have d7 : w2.cell? ⟨g, 7, none⟩ = some (.int .i64 ym) := X3.out.cell 7 (by omega)
    have d8 : w2.cell? ⟨g, 8, none⟩ = some (.int .i64 yc) := X3.out.cell 8 (by omega)
    have F4' := F4 w2
    go_wp2_with fail
    refine F4'.mono ?_
    rintro e w3 ⟨rfl, hb3⟩
    have HB4 : Hid (Below w.heap.size w w3) := HB3.out.trans (hb3.mono HB3.out.size)
    have K4 := HK3.out.below hb3
    obtain ⟨P1, P2⟩ := K4.box.put9 ⟨zi, zv, zd, zs, zq, zp, zn, zm, zc⟩
    have R : Hid (ChAt (put9 w3 n ⟨zi, zv, zd, zs, zq, zp, zn, zm, zc⟩) n r ∧ But (fun k => k = n) w (put9 w3 n ⟨zi, zv, zd, zs, zq, zp, zn, zm, zc⟩)) := by
      rw [← hr2.out]
      exact ⟨⟨by rw [eZ.out]; exact P1, (by first | exact HZ'.out rfl | exact HZ'.out trivial)⟩, (But.of_below HB4.out).trans P2 (fun i _ h => h)⟩
    have eW : put9 w3 n ⟨zi, zv, zd, zs, zq, zp, zn, zm, zc⟩ = (((((((((w3.setCell ⟨n, 0, none⟩ (.string zi)).setCell ⟨n, 1, none⟩ (.string zv)).setCell ⟨n, 2, none⟩ (.int .i64 zd)).setCell ⟨n, 3, none⟩ (.int .i64 zs)).setCell ⟨n, 4, none⟩ (.int .i64 zq)).setCell ⟨n, 5, none⟩ (.int .i64 zp)).setCell ⟨n, 6, none⟩ (.int .i64 zn)).setCell ⟨n, 7, none⟩ (.int .i64 zm)).setCell ⟨n, 8, none⟩ (.int .i64 zc)) := rfl
    have c0 := K4.box.cell 0 (by omega)
    have f0 := K4.box.fz 0
    have c1 := K4.box.cell 1 (by omega)
    have f1 := K4.box.fz 1
    have c2 := K4.box.cell 2 (by omega)
    have f2 := K4.box.fz 2
    have c3 := K4.box.cell 3 (by omega)
    have f3 := K4.box.fz 3
    have c4 := K4.box.cell 4 (by omega)
    have f4 := K4.box.fz 4
    have c5 := K4.box.cell 5 (by omega)
    have f5 := K4.box.fz 5
    have c6 := K4.box.cell 6 (by omega)
    have f6 := K4.box.fz 6
    have c7 := K4.box.cell 7 (by omega)
    have f7 := K4.box.fz 7
    have c8 := K4.box.cell 8 (by omega)
    have f8 := K4.box.fz 8
    simp only [chF] at c0 c1 c2 c3 c4 c5 c6 c7 c8
    clear F4 F4' hb3 d0 d1 d2 d3 d4 d5 d6 d7 d8 X3 HK3 P1 P2 K4
    go_wp2_with fail
    go_ret
    rw [← eW]
    exact ⟨rfl, R.out⟩
  · have hr2 : Hid (x' = r) := by have := hr'.out; rw [if_neg hE] at this; exact this
    have hE1 : (E == 0) = false := beq_false_of_ne hE
    have hE2 : (E != 0) = true := by simp [bne, hE1]
    clear hr' F4 X3
    go_wp2_with fail
    go_ret
    exact ⟨rfl, by rw [← hr2.out]; exact HK3.out, But.of_below HB3.out⟩
theorem happen_yes {w : World} {n : Nat} {x : Ch} (K : ChAt w n x) {v a b : Int} (hv : Ev x v a) : Calls Try.prog 36 #[.pointer (some ⟨n, 0, none⟩), .int .i64 v, .int .i64 a, .int .i64 b] w fun e w' => e = .returned (.int .i64 (hpE x v a b)) ∧ ChAt w' n (hpC x v a b) ∧ But (fun k => k = n) w w' :=
  happen_of K (behind_any x v a b w (ev_range hv) (fit_of K.good hv)) (fun W => next_any x.st v (bhd x v a b).c W) (fun W => in_any _ _ _ W) (fun e => K.good.next hv e)
theorem happenN {w : World} {r : Value} (h : NoCh w r) (v a b : Int) : Calls Try.prog 36 #[r, .int .i64 v, .int .i64 a, .int .i64 b] w fun e w' => e = .returned (.int .i64 1) ∧ Below w.heap.size w w' := by
  have F := made_no h
  clear h
  go_enter Try.func36, Try.ntmps36
  go_wp2_with fail
  refine F.mono ?_
  rintro e w ⟨rfl, rfl⟩
  go_wp2_with fail
  go_ret
  exact ⟨rfl, Below.refl _ _⟩
theorem ack_yes {w : World} {n : Nat} {x : Ch} (K : ChAt w n x) : Calls Try.prog 18 #[.pointer (some ⟨n, 0, none⟩)] w fun e w' => e = .returned (.int .i64 (hpE x 1 0 0)) ∧ ChAt w' n (hpC x 1 0 0) ∧ But (fun k => k = n) w w' := by
  have F := happen_yes K (v := 1) (a := 0) (b := 0) (.inl (by decide))
  generalize hpE x 1 0 0 = E at *
  generalize hpC x 1 0 0 = y at *
  go_enter Try.func18, Try.ntmps18
  go_wp2_with fail
  refine F.mono ?_
  rintro e w1 ⟨rfl, h1, h2⟩
  have R : Hid (ChAt w1 n y ∧ But (fun k => k = n) w w1) := ⟨h1, h2⟩
  clear h1 h2 F K
  go_wp2_with fail
  go_ret
  exact ⟨rfl, R.out⟩
theorem ackN {w : World} {r : Value} (h : NoCh w r) : Calls Try.prog 18 #[r] w fun e w' => e = .returned (.int .i64 1) ∧ Below w.heap.size w w' := by
  have F := happenN h 1 0 0
  go_enter Try.func18, Try.ntmps18
  go_wp2_with fail
  refine F.mono ?_
  rintro e w1 ⟨rfl, h1⟩
  have R : Hid (Below w.heap.size w w1) := h1
  clear h h1 F
  go_wp2_with fail
  go_ret
  exact ⟨rfl, R.out⟩
theorem canceled_yes {w : World} {n : Nat} {x : Ch} (K : ChAt w n x) : Calls Try.prog 25 #[.pointer (some ⟨n, 0, none⟩)] w fun e w' => e = .returned (.int .i64 (hpE x 2 0 0)) ∧ ChAt w' n (hpC x 2 0 0) ∧ But (fun k => k = n) w w' := by
  have F := happen_yes K (v := 2) (a := 0) (b := 0) (.inl (by decide))
  generalize hpE x 2 0 0 = E at *
  generalize hpC x 2 0 0 = y at *
  go_enter Try.func25, Try.ntmps25
  go_wp2_with fail
  refine F.mono ?_
  rintro e w1 ⟨rfl, h1, h2⟩
  have R : Hid (ChAt w1 n y ∧ But (fun k => k = n) w w1) := ⟨h1, h2⟩
  clear h1 h2 F K
  go_wp2_with fail
  go_ret
  exact ⟨rfl, R.out⟩
theorem canceledN {w : World} {r : Value} (h : NoCh w r) : Calls Try.prog 25 #[r] w fun e w' => e = .returned (.int .i64 1) ∧ Below w.heap.size w w' := by
  have F := happenN h 2 0 0
  go_enter Try.func25, Try.ntmps25
  go_wp2_with fail
  refine F.mono ?_
  rintro e w1 ⟨rfl, h1⟩
  have R : Hid (Below w.heap.size w w1) := h1
  clear h h1 F
  go_wp2_with fail
  go_ret
  exact ⟨rfl, R.out⟩
theorem replaced_yes {w : World} {n : Nat} {x : Ch} (K : ChAt w n x) : Calls Try.prog 26 #[.pointer (some ⟨n, 0, none⟩)] w fun e w' => e = .returned (.int .i64 (hpE x 3 0 0)) ∧ ChAt w' n (hpC x 3 0 0) ∧ But (fun k => k = n) w w' := by
  have F := happen_yes K (v := 3) (a := 0) (b := 0) (.inl (by decide))
  generalize hpE x 3 0 0 = E at *
  generalize hpC x 3 0 0 = y at *
  go_enter Try.func26, Try.ntmps26
  go_wp2_with fail
  refine F.mono ?_
  rintro e w1 ⟨rfl, h1, h2⟩
  have R : Hid (ChAt w1 n y ∧ But (fun k => k = n) w w1) := ⟨h1, h2⟩
  clear h1 h2 F K
  go_wp2_with fail
  go_ret
  exact ⟨rfl, R.out⟩
theorem replacedN {w : World} {r : Value} (h : NoCh w r) : Calls Try.prog 26 #[r] w fun e w' => e = .returned (.int .i64 1) ∧ Below w.heap.size w w' := by
  have F := happenN h 3 0 0
  go_enter Try.func26, Try.ntmps26
  go_wp2_with fail
  refine F.mono ?_
  rintro e w1 ⟨rfl, h1⟩
  have R : Hid (Below w.heap.size w w1) := h1
  clear h h1 F
  go_wp2_with fail
  go_ret
  exact ⟨rfl, R.out⟩
theorem rejected_yes {w : World} {n : Nat} {x : Ch} (K : ChAt w n x) : Calls Try.prog 27 #[.pointer (some ⟨n, 0, none⟩)] w fun e w' => e = .returned (.int .i64 (hpE x 4 0 0)) ∧ ChAt w' n (hpC x 4 0 0) ∧ But (fun k => k = n) w w' := by
  have F := happen_yes K (v := 4) (a := 0) (b := 0) (.inl (by decide))
  generalize hpE x 4 0 0 = E at *
  generalize hpC x 4 0 0 = y at *
  go_enter Try.func27, Try.ntmps27
  go_wp2_with fail
  refine F.mono ?_
  rintro e w1 ⟨rfl, h1, h2⟩
  have R : Hid (ChAt w1 n y ∧ But (fun k => k = n) w w1) := ⟨h1, h2⟩
  clear h1 h2 F K
  go_wp2_with fail
  go_ret
  exact ⟨rfl, R.out⟩
theorem rejectedN {w : World} {r : Value} (h : NoCh w r) : Calls Try.prog 27 #[r] w fun e w' => e = .returned (.int .i64 1) ∧ Below w.heap.size w w' := by
  have F := happenN h 4 0 0
  go_enter Try.func27, Try.ntmps27
  go_wp2_with fail
  refine F.mono ?_
  rintro e w1 ⟨rfl, h1⟩
  have R : Hid (Below w.heap.size w w1) := h1
  clear h h1 F
  go_wp2_with fail
  go_ret
  exact ⟨rfl, R.out⟩
theorem refused_yes {w : World} {n : Nat} {x : Ch} (K : ChAt w n x) : Calls Try.prog 20 #[.pointer (some ⟨n, 0, none⟩)] w fun e w' => e = .returned (.int .i64 (hpE x 8 0 0)) ∧ ChAt w' n (hpC x 8 0 0) ∧ But (fun k => k = n) w w' := by
  have F := happen_yes K (v := 8) (a := 0) (b := 0) (.inl (by decide))
  generalize hpE x 8 0 0 = E at *
  generalize hpC x 8 0 0 = y at *
  go_enter Try.func20, Try.ntmps20
  go_wp2_with fail
  refine F.mono ?_
  rintro e w1 ⟨rfl, h1, h2⟩
  have R : Hid (ChAt w1 n y ∧ But (fun k => k = n) w w1) := ⟨h1, h2⟩
  clear h1 h2 F K
  go_wp2_with fail
  go_ret
  exact ⟨rfl, R.out⟩
theorem refusedN {w : World} {r : Value} (h : NoCh w r) : Calls Try.prog 20 #[r] w fun e w' => e = .returned (.int .i64 1) ∧ Below w.heap.size w w' := by
  have F := happenN h 8 0 0
  go_enter Try.func20, Try.ntmps20
  go_wp2_with fail
  refine F.mono ?_
  rintro e w1 ⟨rfl, h1⟩
  have R : Hid (Below w.heap.size w w1) := h1
  clear h h1 F
  go_wp2_with fail
  go_ret
  exact ⟨rfl, R.out⟩
theorem cancel_yes {w : World} {n : Nat} {x : Ch} (K : ChAt w n x) : Calls Try.prog 29 #[.pointer (some ⟨n, 0, none⟩)] w fun e w' => e = .returned (.int .i64 (hpE x 9 0 0)) ∧ ChAt w' n (hpC x 9 0 0) ∧ But (fun k => k = n) w w' := by
  have F := happen_yes K (v := 9) (a := 0) (b := 0) (.inl (by decide))
  generalize hpE x 9 0 0 = E at *
  generalize hpC x 9 0 0 = y at *
  go_enter Try.func29, Try.ntmps29
  go_wp2_with fail
  refine F.mono ?_
  rintro e w1 ⟨rfl, h1, h2⟩
  have R : Hid (ChAt w1 n y ∧ But (fun k => k = n) w w1) := ⟨h1, h2⟩
  clear h1 h2 F K
  go_wp2_with fail
  go_ret
  exact ⟨rfl, R.out⟩
theorem cancelN {w : World} {r : Value} (h : NoCh w r) : Calls Try.prog 29 #[r] w fun e w' => e = .returned (.int .i64 1) ∧ Below w.heap.size w w' := by
  have F := happenN h 9 0 0
  go_enter Try.func29, Try.ntmps29
  go_wp2_with fail
  refine F.mono ?_
  rintro e w1 ⟨rfl, h1⟩
  have R : Hid (Below w.heap.size w w1) := h1
  clear h h1 F
  go_wp2_with fail
  go_ret
  exact ⟨rfl, R.out⟩
theorem bustN {w : World} {r : Value} (h : NoCh w r) (a : Int) : Calls Try.prog 28 #[r, .int .i64 a] w fun e w' => e = .returned (.int .i64 1) ∧ Below w.heap.size w w' := by
  have F := made_no h
  clear h
  go_enter Try.func28, Try.ntmps28
  go_wp2_with fail
  refine F.mono ?_
  rintro e w ⟨rfl, rfl⟩
  go_wp2_with fail
  go_ret
  exact ⟨rfl, Below.refl _ _⟩
theorem replaceN {w : World} {r : Value} (h : NoCh w r) (a b : Int) : Calls Try.prog 19 #[r, .int .i64 a, .int .i64 b] w fun e w' => e = .returned (.int .i64 1) ∧ Below w.heap.size w w' := by
  have F := made_no h
  clear h
  go_enter Try.func19, Try.ntmps19
  go_wp2_with fail
  refine F.mono ?_
  rintro e w ⟨rfl, rfl⟩
  go_wp2_with fail
  go_ret
  exact ⟨rfl, Below.refl _ _⟩
theorem tradeN {w : World} {r : Value} (h : NoCh w r) (a : Int) : Calls Try.prog 17 #[r, .int .i64 a] w fun e w' => e = .returned (.int .i64 1) ∧ Below w.heap.size w w' := by
  have F := made_no h
  clear h
  go_enter Try.func17, Try.ntmps17
  go_wp2_with fail
  refine F.mono ?_
  rintro e w ⟨rfl, rfl⟩
  go_wp2_with fail
  go_ret
  exact ⟨rfl, Below.refl _ _⟩
set_option maxRecDepth 100000 in
set_option maxHeartbeats 8000000 in
theorem bust_yes {w : World} {n : Nat} {x : Ch} (K : ChAt w n x) (a : Int) : Calls Try.prog 28 #[.pointer (some ⟨n, 0, none⟩), .int .i64 a] w fun e w' => e = .returned (.int .i64 (buE x a)) ∧ ChAt w' n (buC x a) ∧ But (fun k => k = n) w w' := by
  have F := made_yes K
  have h8 : w.cell? ⟨n, 8, none⟩ = some (.int .i64 x.c) := K.box.cell 8 (by omega)
  have U := upTo_any a x.c w
  have HK : Hid (ChAt w n x) := K
  unfold buE buC
  by_cases h : 1 ≤ a ∧ a ≤ x.c
  · rw [if_pos h, if_pos h]
    have H := happen_yes K (v := 7) (a := a) (b := 0) (.inr (.inr (.inr (.inl ⟨rfl, h⟩))))
    rw [(up_iff _ _).2 h] at U
    generalize hpE x 7 a 0 = E at *
    generalize hpC x 7 a 0 = y at *
    clear h HK K
    go_enter Try.func28, Try.ntmps28
    go_wp2_with fail
    refine F.mono ?_
    rintro e w ⟨rfl, rfl⟩
    clear F
    go_wp2_with fail
    refine U.mono ?_
    rintro e w ⟨rfl, rfl⟩
    clear U
    go_wp2_with fail
    refine H.mono ?_
    rintro e w1 ⟨rfl, h1, h2⟩
    have R : Hid (ChAt w1 n y ∧ But (fun k => k = n) w w1) := ⟨h1, h2⟩
    clear h1 h2 H
    go_wp2_with fail
    go_ret
    exact ⟨rfl, R.out⟩
  · rw [if_neg h, if_neg h]
    rw [Bool.eq_false_iff.2 (fun e => h ((up_iff _ _).1 e))] at U
    clear h K
    go_enter Try.func28, Try.ntmps28
    go_wp2_with fail
    refine F.mono ?_
    rintro e w ⟨rfl, rfl⟩
    clear F
    go_wp2_with fail
    refine U.mono ?_
    rintro e w ⟨rfl, rfl⟩
    clear U
    go_wp2_with fail
    go_ret
    exact ⟨rfl, HK.out, But.refl _ _⟩
set_option maxRecDepth 100000 in
set_option maxHeartbeats 8000000 in
theorem replace_yes {w : World} {n : Nat} {x : Ch} (K : ChAt w n x) (a b : Int) : Calls Try.prog 19 #[.pointer (some ⟨n, 0, none⟩), .int .i64 a, .int .i64 b] w fun e w' => e = .returned (.int .i64 (rpE x a b)) ∧ ChAt w' n (rpC x a b) ∧ But (fun k => k = n) w w' := by
  have F := made_yes K
  have h8 : w.cell? ⟨n, 8, none⟩ = some (.int .i64 x.c) := K.box.cell 8 (by omega)
  have U := upTo_any b 1099511627776 w
  have HK : Hid (ChAt w n x) := K
  unfold rpE rpC
  by_cases h : rpB x a b = true
  · rw [if_pos h, if_pos h]
    have h := (rp_iff x a b).1 h
    have H := happen_yes K (v := 10) (a := a) (b := b) (.inr (.inr (.inr (.inr ⟨rfl, h.1⟩))))
    rw [(up_iff _ _).2 h.2] at U
    have t1 : ¬ a ≤ x.c := by omega
    have t2 : ¬ 1099511627776 < a := by omega
    generalize hpE x 10 a b = E at *
    generalize hpC x 10 a b = y at *
    clear h HK K
    go_enter Try.func19, Try.ntmps19
    go_wp2_with fail
    refine F.mono ?_
    rintro e w ⟨rfl, rfl⟩
    clear F
    go_wp2_with fail
    refine U.mono ?_
    rintro e w ⟨rfl, rfl⟩
    clear U
    go_wp2_with fail
    refine H.mono ?_
    rintro e w1 ⟨rfl, h1, h2⟩
    have R : Hid (ChAt w1 n y ∧ But (fun k => k = n) w w1) := ⟨h1, h2⟩
    clear h1 h2 H
    go_wp2_with fail
    go_ret
    exact ⟨rfl, R.out⟩
  · rw [if_neg h, if_neg h]
    have h : ¬ ((x.c < a ∧ a ≤ 1099511627776) ∧ 1 ≤ b ∧ b ≤ 1099511627776) := fun e => h ((rp_iff x a b).2 e)
    by_cases t1 : a ≤ x.c
    · clear h K U
      go_enter Try.func19, Try.ntmps19
      go_wp2_with fail
      refine F.mono ?_
      rintro e w ⟨rfl, rfl⟩
      clear F
      go_wp2_with fail
      go_ret
      exact ⟨rfl, HK.out, But.refl _ _⟩
    by_cases t2 : 1099511627776 < a
    · clear h K U
      go_enter Try.func19, Try.ntmps19
      go_wp2_with fail
      refine F.mono ?_
      rintro e w ⟨rfl, rfl⟩
      clear F
      go_wp2_with fail
      go_ret
      exact ⟨rfl, HK.out, But.refl _ _⟩
    · rw [Bool.eq_false_iff.2 (fun e => h ⟨by omega, (up_iff _ _).1 e⟩)] at U
      clear h K
      go_enter Try.func19, Try.ntmps19
      go_wp2_with fail
      refine F.mono ?_
      rintro e w ⟨rfl, rfl⟩
      clear F
      go_wp2_with fail
      refine U.mono ?_
      rintro e w ⟨rfl, rfl⟩
      clear U
      go_wp2_with fail
      go_ret
      exact ⟨rfl, HK.out, But.refl _ _⟩
set_option maxRecDepth 100000 in
set_option maxHeartbeats 8000000 in
theorem trade_yes {w : World} {n : Nat} {x : Ch} (K : ChAt w n x) (a : Int) : Calls Try.prog 17 #[.pointer (some ⟨n, 0, none⟩), .int .i64 a] w fun e w' => e = .returned (.int .i64 (trE x a)) ∧ ChAt w' n (trC x a) ∧ But (fun k => k = n) w w' := by
  have F := made_yes K
  have O := open_yes K
  have C : ∀ W, Below w.heap.size w W → Calls Try.prog 12 #[.pointer (some ⟨n, 0, none⟩)] W fun e w' => e = .returned (.int .i64 (clm x)) ∧ Below w.heap.size w w' := fun W hW =>
    (claim_yes (K.below hW)).mono fun _ _ ⟨h1, m, h2⟩ => ⟨h1, by rw [h2]; exact below_more hW m⟩
  have HK : Hid (ChAt w n x) := K
  unfold trE trC
  by_cases t1 : a < 1
  · rw [if_pos t1, if_pos t1]
    clear K C O
    go_enter Try.func17, Try.ntmps17
    go_wp2_with fail
    refine F.mono ?_
    rintro e w ⟨rfl, rfl⟩
    clear F
    go_wp2_with fail
    go_ret
    exact ⟨rfl, HK.out, But.refl _ _⟩
  rw [if_neg t1, if_neg t1]
  cases ho : opB x.st
  · rw [if_pos rfl, if_pos rfl]
    rw [ho] at O
    clear K C ho
    go_enter Try.func17, Try.ntmps17
    go_wp2_with fail
    refine F.mono ?_
    rintro e w ⟨rfl, rfl⟩
    clear F
    go_wp2_with fail
    refine O.mono ?_
    rintro e w ⟨rfl, rfl⟩
    clear O
    go_wp2_with fail
    go_ret
    exact ⟨rfl, HK.out, But.refl _ _⟩
  rw [if_neg (show ¬ (true = false) from Bool.noConfusion), if_neg (show ¬ (true = false) from Bool.noConfusion)]
  rw [ho] at O
  by_cases t2 : clm x < a
  · rw [if_pos t2, if_pos t2]
    clear K ho
    generalize clm x = m at *
    go_enter Try.func17, Try.ntmps17
    go_wp2_with fail
    refine F.mono ?_
    rintro e w ⟨rfl, rfl⟩
    clear F
    go_wp2_with fail
    refine O.mono ?_
    rintro e w ⟨rfl, rfl⟩
    clear O
    go_wp2_with fail
    refine (C _ (Below.refl _ _)).mono ?_
    rintro e w1 ⟨rfl, hb⟩
    have hb1 : Hid (Below w.heap.size w w1) := hb
    clear hb
    go_wp2_with fail
    go_ret
    exact ⟨rfl, HK.out.below hb1.out, But.of_below hb1.out⟩
  rw [if_neg t2, if_neg t2]
  have H : ∀ W, Below w.heap.size w W → Calls Try.prog 36 #[.pointer (some ⟨n, 0, none⟩), .int .i64 (trV x a), .int .i64 a, .int .i64 0] W fun e w' => e = .returned (.int .i64 (hpE x (trV x a) a 0)) ∧ ChAt w' n (hpC x (trV x a) a 0) ∧ But (fun k => k = n) w w' := fun W hW =>
    (happen_yes (K.below hW) (tr_ev t1 t2)).mono fun _ _ ⟨h1, h2, h3⟩ => ⟨h1, h2, (But.of_below hW).trans h3 (fun _ _ h => h)⟩
  generalize hpE x (trV x a) a 0 = E at *
  generalize hpC x (trV x a) a 0 = y at *
  unfold trV at H
  by_cases t3 : a = clm x
  · rw [if_pos t3] at H
    have t4 : (a == clm x) = true := by simp [t3]
    have t5 : a = clm x := t3
    clear K ho HK
    generalize clm x = m at *
    subst t3
    go_enter Try.func17, Try.ntmps17
    go_wp2_with fail
    refine F.mono ?_
    rintro e w ⟨rfl, rfl⟩
    clear F
    go_wp2_with fail
    refine O.mono ?_
    rintro e w ⟨rfl, rfl⟩
    clear O
    go_wp2_with fail
    refine (C _ (Below.refl _ _)).mono ?_
    rintro e w1 ⟨rfl, hb⟩
    have hb1 : Hid (Below w.heap.size w w1) := hb
    clear hb
    go_wp2_with fail
    refine (C _ hb1.out).mono ?_
    rintro e w2 ⟨rfl, hb⟩
    have hb2 : Hid (Below w.heap.size w w2) := hb
    clear hb hb1 C
    go_wp2_with fail
    refine (H _ hb2.out).mono ?_
    rintro e w3 ⟨rfl, h1, h2⟩
    have R : Hid (ChAt w3 n y ∧ But (fun k => k = n) w w3) := ⟨h1, h2⟩
    clear h1 h2 H
    go_wp2_with fail
    go_ret
    exact ⟨rfl, R.out⟩
  · rw [if_neg t3] at H
    have t4 : (a == clm x) = false := beq_false_of_ne t3
    clear K ho HK
    generalize clm x = m at *
    go_enter Try.func17, Try.ntmps17
    go_wp2_with fail
    refine F.mono ?_
    rintro e w ⟨rfl, rfl⟩
    clear F
    go_wp2_with fail
    refine O.mono ?_
    rintro e w ⟨rfl, rfl⟩
    clear O
    go_wp2_with fail
    refine (C _ (Below.refl _ _)).mono ?_
    rintro e w1 ⟨rfl, hb⟩
    have hb1 : Hid (Below w.heap.size w w1) := hb
    clear hb
    go_wp2_with fail
    refine (C _ hb1.out).mono ?_
    rintro e w2 ⟨rfl, hb⟩
    have hb2 : Hid (Below w.heap.size w w2) := hb
    clear hb hb1 C
    go_wp2_with fail
    refine (H _ hb2.out).mono ?_
    rintro e w3 ⟨rfl, h1, h2⟩
    have R : Hid (ChAt w3 n y ∧ But (fun k => k = n) w w3) := ⟨h1, h2⟩
    clear h1 h2 H
    go_wp2_with fail
    go_ret
    exact ⟨rfl, R.out⟩
end Go.Proofs.Ytkkimkhkoiempaa.CH
