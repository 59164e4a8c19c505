/-
  Contract of child's Status: all of a child, by value.
-/
import Derived.Test.YtkkimkhkoiempaaChBook
namespace Go.Proofs.Ytkkimkhkoiempaa.CH
open Go.ChangeShapes Go.WideShapes Go.ChangeAt Go.RowKit Go.Lib MA

abbrev stZ : Obj := .cells #[.string ⟨#[]⟩, .string ⟨#[]⟩, .int .i64 0, .int .i64 0, .int .i64 0, .int .i64 0, .int .i64 0, .int .i64 0, .int .i64 0, .int .i64 0] 39
set_option maxRecDepth 100000 in
set_option maxHeartbeats 4000000 in
theorem statusN {w : World} {r : Value} (h : NoCh w r) : Calls Try.prog 11 #[r] w fun e w' => e = .returned (sV ch0 0) ∧ Below w.heap.size w w' := by
  have F := made_no (h.below ((Below.refl _ _).alloc (Nat.le_refl _) stZ))
  clear h
  go_enter Try.func11, Try.ntmps11
  go_wp2_with fail
  refine F.mono ?_
  rintro e w1 ⟨rfl, rfl⟩
  go_wp2_with fail
  refine bodyPost_ret (v := sV ch0 0) (by simp [results, Try.results11, go_sem, ch0]) rfl ⟨rfl, ?_⟩
  exact (Below.refl _ _).alloc (Nat.le_refl _) _
/-- Ten zero values. -/
def z10 : Nat → Value
  | 0 => .string ⟨#[]⟩
  | 1 => .string ⟨#[]⟩
  | _ => .int .i64 0
theorem box10_zero (w : World) : Box 10 (w.alloc stZ) w.heap.size z10 := by
  refine ⟨fun j hj => ?_, fun j => by simp, by simp⟩
  rcases (show j = 0 ∨ j = 1 ∨ j = 2 ∨ j = 3 ∨ j = 4 ∨ j = 5 ∨ j = 6 ∨ j = 7 ∨ j = 8 ∨ j = 9 by omega) with rfl | rfl | rfl | rfl | rfl | rfl | rfl | rfl | rfl | rfl <;> simp [z10]
set_option maxRecDepth 100000 in
set_option maxHeartbeats 8000000 in
theorem status_yes {w : World} {n : Nat} {x : Ch} (K : ChAt w n x) : Calls Try.prog 11 #[.pointer (some ⟨n, 0, none⟩)] w fun e w' => e = .returned (sV x (clm x)) ∧ Below w.heap.size w w' := by
  have B0 : Below w.heap.size w (w.alloc stZ) := (Below.refl _ _).alloc (Nat.le_refl _) _
  have HB0 : Hid (Below w.heap.size w (w.alloc stZ)) := B0
  have K1 : ChAt (w.alloc stZ) n x := K.below B0
  have X1 : Hid (Box 10 (w.alloc stZ) w.heap.size z10) := box10_zero w
  have LN : Hid (n < w.heap.size) := K.lt
  have F := made_yes K1
  clear K B0
  obtain ⟨W, hW⟩ : ∃ W, W = w.alloc stZ := ⟨_, rfl⟩
  rw [← hW] at HB0 X1 K1 F
  have G : ∀ m, Calls Try.prog 12 #[.pointer (some ⟨n, 0, none⟩)] (W.drewN m) fun e w' => e = .returned (.int .i64 (clm x)) ∧ Below W.heap.size W w' := fun m =>
    (claim_yes (K1.below (below_drewN _ m W))).mono fun _ _ ⟨h1, m', h2⟩ => ⟨h1, by rw [h2]; exact below_more (below_drewN _ m W) m'⟩
  obtain ⟨m, hm⟩ : ∃ m, clm x = m := ⟨_, rfl⟩
  rw [hm] at G ⊢
  obtain ⟨id, ve, sd, st, q, p, nq, np, c⟩ := x
  have h0 : W.cell? ⟨n, 0, none⟩ = some (.string id) := K1.box.cell 0 (by omega)
  have h1 : W.cell? ⟨n, 1, none⟩ = some (.string ve) := K1.box.cell 1 (by omega)
  have h2 : W.cell? ⟨n, 2, none⟩ = some (.int .i64 sd) := K1.box.cell 2 (by omega)
  have h3 : W.cell? ⟨n, 3, none⟩ = some (.int .i64 st) := K1.box.cell 3 (by omega)
  have h4 : W.cell? ⟨n, 4, none⟩ = some (.int .i64 q) := K1.box.cell 4 (by omega)
  have h5 : W.cell? ⟨n, 5, none⟩ = some (.int .i64 p) := K1.box.cell 5 (by omega)
  have h6 : W.cell? ⟨n, 6, none⟩ = some (.int .i64 nq) := K1.box.cell 6 (by omega)
  have h7 : W.cell? ⟨n, 7, none⟩ = some (.int .i64 np) := K1.box.cell 7 (by omega)
  have h8 : W.cell? ⟨n, 8, none⟩ = some (.int .i64 c) := K1.box.cell 8 (by omega)
  have ln : n < W.heap.size := K1.lt
  have HX : Hid (Box 10 W w.heap.size z10) := X1.out
  clear K1 hm X1
  go_enter Try.func11, Try.ntmps11
  go_wp2_with fail
  rw [← hW]
  refine F.mono ?_
  rintro e w1 ⟨rfl, rfl⟩
  clear F
  clear hW
  go_upto_region 3 with fail
  obtain ⟨gx, hgx⟩ : ∃ gx, Hid (w.heap.size = gx) := ⟨_, rfl⟩
  have hne : ¬ gx = n := by rw [← hgx.out]; have := LN.out; omega
  rw [hgx.out] at HX
  rw [hgx.out]
  go_region_held3 (fun w' => w'.cell? ⟨n, 0, none⟩ = some (.string id) ∧ w'.cell? ⟨n, 1, none⟩ = some (.string ve) ∧ w'.cell? ⟨n, 2, none⟩ = some (.int .i64 sd) ∧ w'.cell? ⟨n, 3, none⟩ = some (.int .i64 st) ∧ w'.cell? ⟨n, 4, none⟩ = some (.int .i64 q) ∧ w'.cell? ⟨n, 5, none⟩ = some (.int .i64 p) ∧ w'.cell? ⟨n, 6, none⟩ = some (.int .i64 nq) ∧ w'.cell? ⟨n, 7, none⟩ = some (.int .i64 np) ∧ w'.cell? ⟨n, 8, none⟩ = some (.int .i64 c)) (go_keep) (first
    | (go_at_call 12; refine (G _).mono ?_; rintro e w2 ⟨rfl, hb2⟩; have X2 := HX.out.below hb2; have f0 := (hb2.cell (p := ⟨n, 0, none⟩) ln).trans h0; have f1 := (hb2.cell (p := ⟨n, 1, none⟩) ln).trans h1; have f2 := (hb2.cell (p := ⟨n, 2, none⟩) ln).trans h2; have f3 := (hb2.cell (p := ⟨n, 3, none⟩) ln).trans h3; have f4 := (hb2.cell (p := ⟨n, 4, none⟩) ln).trans h4; have f5 := (hb2.cell (p := ⟨n, 5, none⟩) ln).trans h5; have f6 := (hb2.cell (p := ⟨n, 6, none⟩) ln).trans h6; have f7 := (hb2.cell (p := ⟨n, 7, none⟩) ln).trans h7; have f8 := (hb2.cell (p := ⟨n, 8, none⟩) ln).trans h8; have z0 := X2.cell 0 (by omega); have y0 := X2.fz 0; have z1 := X2.cell 1 (by omega); have y1 := X2.fz 1; have z2 := X2.cell 2 (by omega); have y2 := X2.fz 2; have z3 := X2.cell 3 (by omega); have y3 := X2.fz 3; have z4 := X2.cell 4 (by omega); have y4 := X2.fz 4; have z5 := X2.cell 5 (by omega); have y5 := X2.fz 5; have z6 := X2.cell 6 (by omega); have y6 := X2.fz 6; have z7 := X2.cell 7 (by omega); have y7 := X2.fz 7; have z8 := X2.cell 8 (by omega); have y8 := X2.fz 8; have z9 := X2.cell 9 (by omega); have y9 := X2.fz 9))
  have HB2 : Hid (Below w.heap.size w w2) := HB0.out.trans (hb2.mono HB0.out.size)
  obtain ⟨Y, Z⟩ := (HX.out.below hb2).put10 ⟨id, ve, sd, st, q, p, nq, np, c⟩ m
  have eW : put10 w2 gx ⟨id, ve, sd, st, q, p, nq, np, c⟩ m = (((((((((w2.setCell ⟨gx, 0, none⟩ (.string id)).setCell ⟨gx, 1, none⟩ (.string ve)).setCell ⟨gx, 2, none⟩ (.int .i64 sd)).setCell ⟨gx, 3, none⟩ (.int .i64 st)).setCell ⟨gx, 4, none⟩ (.int .i64 q)).setCell ⟨gx, 5, none⟩ (.int .i64 p)).setCell ⟨gx, 6, none⟩ (.int .i64 nq)).setCell ⟨gx, 7, none⟩ (.int .i64 np)).setCell ⟨gx, 8, none⟩ (.int .i64 c)).setCell ⟨gx, 9, none⟩ (.int .i64 m) := rfl
  rw [← eW]
  have HB3 : Hid (Below w.heap.size w (put10 w2 gx ⟨id, ve, sd, st, q, p, nq, np, c⟩ m)) := HB2.out.trans (Z.below HB2.out.size (fun i hi => by have : i = gx := hi; have := hgx.out; omega))
  clear Z eW HB2 HB0 HX X2
  generalize put10 w2 gx ⟨id, ve, sd, st, q, p, nq, np, c⟩ m = W3 at *
  have g0 : W3.cell? ⟨gx, 0, none⟩ = some (.string id) := Y.cell 0 (by omega)
  have g1 : W3.cell? ⟨gx, 1, none⟩ = some (.string ve) := Y.cell 1 (by omega)
  have g2 : W3.cell? ⟨gx, 2, none⟩ = some (.int .i64 sd) := Y.cell 2 (by omega)
  have g3 : W3.cell? ⟨gx, 3, none⟩ = some (.int .i64 st) := Y.cell 3 (by omega)
  have g4 : W3.cell? ⟨gx, 4, none⟩ = some (.int .i64 q) := Y.cell 4 (by omega)
  have g5 : W3.cell? ⟨gx, 5, none⟩ = some (.int .i64 p) := Y.cell 5 (by omega)
  have g6 : W3.cell? ⟨gx, 6, none⟩ = some (.int .i64 nq) := Y.cell 6 (by omega)
  have g7 : W3.cell? ⟨gx, 7, none⟩ = some (.int .i64 np) := Y.cell 7 (by omega)
  have g8 : W3.cell? ⟨gx, 8, none⟩ = some (.int .i64 c) := Y.cell 8 (by omega)
  have g9 : W3.cell? ⟨gx, 9, none⟩ = some (.int .i64 m) := Y.cell 9 (by omega)
  clear Y
  go_wp2_with fail
  refine bodyPost_ret (v := sV ⟨id, ve, sd, st, q, p, nq, np, c⟩ m) (by simp [results, Try.results11, go_sem, g0, g1, g2, g3, g4, g5, g6, g7, g8, g9]) rfl ⟨rfl, ?_⟩
  exact HB3.out
end Go.Proofs.Ytkkimkhkoiempaa.CH
