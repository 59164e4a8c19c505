/-
  Contracts of the functions that right hands on (Order): each looks at a field and empties it.
-/
import Derived.Deep.RegionHeld3
import Derived.Test.YtdbkoflejimibaaGreatDoorJB
namespace Go.Proofs.YtdbkoflejimibaaGreatDoor.PP.O
open Go.ChangeShapes Go.WideShapes Go.ChangeAt Go.RowKit Go.Lib

/-- One in block b beside a bool in block cb. -/
structure RT (w : World) (b cb : Nat) (r : Bool) (t : ThP) : Prop where
  at_ : ThAt nm w b t
  cell : w.cell? ⟨cb, 0, none⟩ = some (.bool r)
  fz : w.frozen? ⟨cb, 0, none⟩ = false
  ne : b ≠ cb
theorem RT.still {w w' : World} {b cb : Nat} {r : Bool} {t : ThP} (h : RT w b cb r t) (k : Below w.heap.size w w') : RT w' b cb r t :=
  ⟨h.at_.still k, (k.cell (p := ⟨cb, 0, none⟩) (World.block_lt_of_cell? _ _ h.cell)).trans h.cell, (k.frozen (p := ⟨cb, 0, none⟩) (World.block_lt_of_cell? _ _ h.cell)).trans h.fz, h.ne⟩
def TwoB (b cb j : Nat) : Prop := j = b ∨ j = cb
theorem RT.setBool {w : World} {b cb : Nat} {r : Bool} {t : ThP} (h : RT w b cb r t) (x : Bool) : RT (w.setCell ⟨cb, 0, none⟩ (.bool x)) b cb x t ∧ But (TwoB b cb) w (w.setCell ⟨cb, 0, none⟩ (.bool x)) := by
  have hB : But (fun j => j = cb) w (w.setCell ⟨cb, 0, none⟩ (.bool x)) := (But.refl _ w).setCell cb 0 _ (fun _ => rfl)
  exact ⟨⟨h.at_.but hB h.ne, World.cell?_setCell_same _ _ _ h.cell, by rw [World.frozen?_setCell]; exact h.fz, h.ne⟩, hB.mono (fun i _ e => .inr e)⟩
theorem RT.setText {w : World} {b cb : Nat} {r : Bool} {t : ThP} (h : RT w b cb r t) {p : Pl} (h7 : p.off < 7) (hn : nm p.off = true) (hp : p.isName = true) : RT (w.setCell ⟨b, p.off, none⟩ (.string ⟨#[]⟩)) b cb r (p.clr t) ∧ But (TwoB b cb) w (w.setCell ⟨b, p.off, none⟩ (.string ⟨#[]⟩)) := by
  have hB : But (fun j => j = b) w (w.setCell ⟨b, p.off, none⟩ (.string ⟨#[]⟩)) := (But.refl _ w).setCell b p.off _ (fun _ => rfl)
  have lc := World.block_lt_of_cell? _ _ h.cell
  refine ⟨⟨?_, (hB.cell lc (fun e => h.ne e.symm)).trans h.cell, (hB.frozen lc (fun e => h.ne e.symm)).trans h.fz, h.ne⟩, hB.mono (fun i _ e => .inl e)⟩
  unfold Pl.clr
  rw [if_pos hp]
  exact h.at_.setText h7 hn _
theorem RT.setNum {w : World} {b cb : Nat} {r : Bool} {t : ThP} (h : RT w b cb r t) {p : Pl} (h7 : p.off < 7) (hn : nm p.off = false) (hp : p.isName = false) : RT (w.setCell ⟨b, p.off, none⟩ (.int .i64 0)) b cb r (p.clr t) ∧ But (TwoB b cb) w (w.setCell ⟨b, p.off, none⟩ (.int .i64 0)) := by
  have hB : But (fun j => j = b) w (w.setCell ⟨b, p.off, none⟩ (.int .i64 0)) := (But.refl _ w).setCell b p.off _ (fun _ => rfl)
  have lc := World.block_lt_of_cell? _ _ h.cell
  refine ⟨⟨?_, (hB.cell lc (fun e => h.ne e.symm)).trans h.cell, (hB.frozen lc (fun e => h.ne e.symm)).trans h.fz, h.ne⟩, hB.mono (fun i _ e => .inl e)⟩
  unfold Pl.clr
  rw [if_neg (by rw [hp]; decide)]
  exact h.at_.setNum h7 hn _
set_option maxHeartbeats 4000000 in
theorem right1_any {w : World} {b cb : Nat} {r : Bool} {t : ThP} (h : RT w b cb r t) (p : Pl) (h7 : p.off < 7) (hn : nm p.off = true) (hp : p.isName = true) :
    Calls Tryz.prog 67 #[.int .i64 p.tag, .pointer (some ⟨b, p.off, none⟩), .pointer (some ⟨cb, 0, none⟩)] w fun e w' => e = .returned (.tuple #[]) ∧ RT w' b cb (r && p.okB t) (p.clr t) ∧ But (TwoB b cb) w w' := by
  have c0 := h.cell
  have c1 := h.at_.text h7 hn
  have ok : p.okB t = vldB (t.1 p.off) := by unfold Pl.okB; rw [if_pos hp]
  rw [ok]
  cases r with
  | true =>
    have F := valid_any (t.1 p.off) w
    have HH : Hid (RT w b cb true t) := h
    rw [Bool.true_and]
    clear h ok
    generalize vldB (t.1 p.off) = V at *
    go_enter Tryz.func67, Tryz.ntmps67
    go_wp2_with fail
    refine F.mono ?_
    rintro e w1 ⟨rfl, b1⟩
    have h1 := HH.out.still b1
    have d0 := h1.cell
    have f0 := h1.fz
    obtain ⟨R1, B1⟩ := h1.setBool V
    have c2 := R1.at_.text h7 hn
    have f2 := R1.at_.fz p.off
    obtain ⟨R2, B2⟩ := R1.setText h7 hn hp
    have HR : Hid (RT ((w1.setCell ⟨cb, 0, none⟩ (.bool V)).setCell ⟨b, p.off, none⟩ (.string ⟨#[]⟩)) b cb V (p.clr t) ∧ But (TwoB b cb) w ((w1.setCell ⟨cb, 0, none⟩ (.bool V)).setCell ⟨b, p.off, none⟩ (.string ⟨#[]⟩))) := ⟨R2, (But.of_below b1).trans (B1.trans B2 (fun _ _ e => e)) (fun _ _ e => e)⟩
    clear h1 R1 B1 R2 B2 c0 c1 F b1 HH
    go_wp2_with fail
    go_end0
    exact ⟨rfl, HR.out⟩
  | false =>
    have f0 := h.fz
    obtain ⟨R1, B1⟩ := h.setBool false
    have c2 := R1.at_.text h7 hn
    have f2 := R1.at_.fz p.off
    obtain ⟨R2, B2⟩ := R1.setText h7 hn hp
    have HR : Hid (RT ((w.setCell ⟨cb, 0, none⟩ (.bool false)).setCell ⟨b, p.off, none⟩ (.string ⟨#[]⟩)) b cb false (p.clr t) ∧ But (TwoB b cb) w ((w.setCell ⟨cb, 0, none⟩ (.bool false)).setCell ⟨b, p.off, none⟩ (.string ⟨#[]⟩))) := ⟨R2, B1.trans B2 (fun _ _ e => e)⟩
    clear h R1 B1 R2 B2 ok
    rw [Bool.false_and]
    go_enter Tryz.func67, Tryz.ntmps67
    go_wp2_with fail
    go_end0
    exact ⟨rfl, HR.out⟩
set_option maxHeartbeats 4000000 in
theorem right2_any {w : World} {b cb : Nat} {r : Bool} {t : ThP} (h : RT w b cb r t) (p : Pl) (h7 : p.off < 7) (hn : nm p.off = false) (hp : p.isName = false) :
    Calls Tryz.prog 69 #[.int .i64 p.tag, .pointer (some ⟨b, p.off, none⟩), .int .i64 p.low, .int .i64 p.high, .pointer (some ⟨cb, 0, none⟩)] w fun e w' => e = .returned (.tuple #[]) ∧ RT w' b cb (r && p.okB t) (p.clr t) ∧ But (TwoB b cb) w w' := by
  have c0 := h.cell
  have f0 := h.fz
  have c1 := h.at_.num h7 hn
  have ok : p.okB t = decide (p.low ≤ t.2 p.off ∧ t.2 p.off ≤ p.high) := by unfold Pl.okB; rw [if_neg (by rw [hp]; decide)]
  have fb := h.at_.fz p.off
  obtain ⟨R1, B1⟩ := h.setBool (r && p.okB t)
  have c2 := R1.at_.num h7 hn
  obtain ⟨R2, B2⟩ := R1.setNum h7 hn hp
  have HR : Hid (RT ((w.setCell ⟨cb, 0, none⟩ (.bool (r && p.okB t))).setCell ⟨b, p.off, none⟩ (.int .i64 0)) b cb (r && p.okB t) (p.clr t) ∧ But (TwoB b cb) w ((w.setCell ⟨cb, 0, none⟩ (.bool (r && p.okB t))).setCell ⟨b, p.off, none⟩ (.int .i64 0))) := ⟨R2, B1.trans B2 (fun _ _ e => e)⟩
  clear h R1 B1 R2 B2
  generalize p.okB t = V at *
  generalize t.2 p.off = n at *
  generalize p.low = lo at *
  generalize p.high = hi at *
  cases r with
  | true =>
    rw [Bool.true_and] at HR c2 ⊢
    by_cases h1 : lo ≤ n
    · by_cases h2 : n ≤ hi
      · rw [decide_eq_true ⟨h1, h2⟩] at ok
        subst ok
        go_enter Tryz.func69, Tryz.ntmps69
        go_wp2_with fail
        go_end0
        exact ⟨rfl, HR.out⟩
      · rw [decide_eq_false (fun e => h2 e.2)] at ok
        subst ok
        go_enter Tryz.func69, Tryz.ntmps69
        go_wp2_with fail
        go_end0
        exact ⟨rfl, HR.out⟩
    · rw [decide_eq_false (fun e => h1 e.1)] at ok
      subst ok
      go_enter Tryz.func69, Tryz.ntmps69
      go_wp2_with fail
      go_end0
      exact ⟨rfl, HR.out⟩
  | false =>
    clear ok
    rw [Bool.false_and] at HR c2 ⊢
    go_enter Tryz.func69, Tryz.ntmps69
    go_wp2_with fail
    go_end0
    exact ⟨rfl, HR.out⟩
theorem clr_kind {p : Pl} (h : p.off ≠ 0) (t : ThP) : (p.clr t).2 0 = t.2 0 := by
  unfold Pl.clr
  split
  · rfl
  · exact upd_other _ _ (fun e => h e.symm)
/-- The functions that right hands on, in block vb, beside what they write; k: the kind. -/
structure RV (W w : World) (b cb vb : Nat) (k : Int) (r : Bool) (t : ThP) : Prop where
  rt : RT w b cb r t
  v0 : w.cell? ⟨vb, 0, none⟩ = some (.func (.func 67) #[] #[.pointer (some ⟨cb, 0, none⟩)])
  v1 : w.cell? ⟨vb, 1, none⟩ = some (.func (.func 69) #[] #[.pointer (some ⟨cb, 0, none⟩)])
  v2 : w.cell? ⟨vb, 2, none⟩ = some (.func (.func 70) #[] #[])
  kd : t.2 0 = k
  nb : vb ≠ b
  nc : vb ≠ cb
  fr : But (TwoB b cb) W w
theorem RV.lt {W w : World} {b cb vb : Nat} {k : Int} {r : Bool} {t : ThP} (h : RV W w b cb vb k r t) : vb < w.heap.size := World.block_lt_of_cell? _ _ h.v0
theorem RV.kind {W w : World} {b cb vb : Nat} {k : Int} {r : Bool} {t : ThP} (h : RV W w b cb vb k r t) : w.cell? ⟨b, 0, none⟩ = some (.int .i64 k) := by
  rw [← h.kd]
  exact h.rt.at_.num (j := 0) (by omega) rfl
theorem RV.drew {W w : World} {b cb vb : Nat} {k : Int} {r : Bool} {t : ThP} (h : RV W w b cb vb k r t) : RV W w.drew b cb vb k r t :=
  ⟨h.rt.still (below_drewN _ 1 _), h.v0, h.v1, h.v2, h.kd, h.nb, h.nc, h.fr.drew⟩
theorem RV.next {W w w' : World} {b cb vb : Nat} {k : Int} {r r' : Bool} {t t' : ThP} (h : RV W w b cb vb k r t) (R : RT w' b cb r' t') (B : But (TwoB b cb) w w') (hk : t'.2 0 = k) : RV W w' b cb vb k r' t' :=
  ⟨R, (B.cell h.lt (fun e => e.elim h.nb h.nc)).trans h.v0, (B.cell h.lt (fun e => e.elim h.nb h.nc)).trans h.v1, (B.cell h.lt (fun e => e.elim h.nb h.nc)).trans h.v2, hk, h.nb, h.nc, h.fr.trans B (fun _ _ e => e)⟩
theorem RV.name {W w : World} {b cb vb : Nat} {k : Int} {r : Bool} {t : ThP} (h : RV W w b cb vb k r t) (p : Pl) (h7 : p.off < 7) (h0 : p.off ≠ 0) (hn : nm p.off = true) (hp : p.isName = true) :
    Calls Tryz.prog 67 #[.int .i64 p.tag, .pointer (some ⟨b, p.off, none⟩), .pointer (some ⟨cb, 0, none⟩)] w.drew fun e w' => e = .returned (.tuple #[]) ∧ RV W w' b cb vb k (r && p.okB t) (p.clr t) :=
  (right1_any h.drew.rt p h7 hn hp).mono fun _ _ ⟨he, R, B⟩ => ⟨he, h.drew.next R B ((clr_kind h0 t).trans h.kd)⟩
theorem RV.num {W w : World} {b cb vb : Nat} {k : Int} {r : Bool} {t : ThP} (h : RV W w b cb vb k r t) (p : Pl) (h7 : p.off < 7) (h0 : p.off ≠ 0) (hn : nm p.off = false) (hp : p.isName = false) :
    Calls Tryz.prog 69 #[.int .i64 p.tag, .pointer (some ⟨b, p.off, none⟩), .int .i64 p.low, .int .i64 p.high, .pointer (some ⟨cb, 0, none⟩)] w.drew fun e w' => e = .returned (.tuple #[]) ∧ RV W w' b cb vb k (r && p.okB t) (p.clr t) :=
  (right2_any h.drew.rt p h7 hn hp).mono fun _ _ ⟨he, R, B⟩ => ⟨he, h.drew.next R B ((clr_kind h0 t).trans h.kd)⟩
end Go.Proofs.YtdbkoflejimibaaGreatDoor.PP.O
/-
  The walk of post's throughOrder with the functions that right hands on, a theorem a kind.
-/
namespace Go.Proofs.YtdbkoflejimibaaGreatDoor.PP.O
open Go.ChangeShapes Go.WideShapes Go.ChangeAt Go.RowKit Go.Lib

set_option maxRecDepth 100000 in
set_option maxHeartbeats 4000000 in
theorem thrRight_1 {W w : World} {b cb : Nat} {r : Bool} {t : ThP} (H0 : Hid (RV W (w.alloc (.cells #[.func (.func 67) #[] #[.pointer (some ⟨cb, 0, none⟩)], .func (.func 69) #[] #[.pointer (some ⟨cb, 0, none⟩)], .func (.func 70) #[] #[]] 79)) b cb w.heap.size 1 r t)) :
    Calls Tryz.prog 16 #[.pointer (some ⟨b, 0, none⟩), .agg #[.func (.func 67) #[] #[.pointer (some ⟨cb, 0, none⟩)], .func (.func 69) #[] #[.pointer (some ⟨cb, 0, none⟩)], .func (.func 70) #[] #[]]] w fun e w' => e = .returned (.tuple #[]) ∧ RV W w' b cb w.heap.size 1 (rgt (rlist 1) r t).1 (rgt (rlist 1) r t).2 := by
  go_enter Tryz.func16, Tryz.ntmps16
  have c0 := H0.out.kind
  have F1 := H0.out.num ⟨34, false, 1, 1, 1099511627776⟩ (by decide) (by decide) rfl rfl
  dsimp only at F1
  go_wp2_with fail
  go_region_held3 (fun w' => w'.cell? ⟨w.heap.size, 0, none⟩ = some (.func (.func 67) #[] #[.pointer (some ⟨cb, 0, none⟩)]) ∧ w'.cell? ⟨w.heap.size, 1, none⟩ = some (.func (.func 69) #[] #[.pointer (some ⟨cb, 0, none⟩)]) ∧ w'.cell? ⟨w.heap.size, 2, none⟩ = some (.func (.func 70) #[] #[])) (go_keep) ((go_at_call 69; refine F1.mono ?_; rintro e w1 ⟨rfl, h1⟩; have H1 : Hid (RV W w1 b cb w.heap.size _ _ _ ) := h1; have c1 := h1.kind; have x1 := h1.v0; have y1 := h1.v1; have z1 := h1.v2; clear h1 F1))
  have F2 := H1.out.name ⟨11, true, 2, 0, 0⟩ (by decide) (by decide) rfl rfl
  dsimp only at F2
  go_wp2_with fail
  go_region_held3 (fun w' => w'.cell? ⟨w.heap.size, 0, none⟩ = some (.func (.func 67) #[] #[.pointer (some ⟨cb, 0, none⟩)]) ∧ w'.cell? ⟨w.heap.size, 1, none⟩ = some (.func (.func 69) #[] #[.pointer (some ⟨cb, 0, none⟩)]) ∧ w'.cell? ⟨w.heap.size, 2, none⟩ = some (.func (.func 70) #[] #[])) (go_keep) ((go_at_call 67; refine F2.mono ?_; rintro e w2 ⟨rfl, h2⟩; have H2 : Hid (RV W w2 b cb w.heap.size _ _ _ ) := h2; have c2 := h2.kind; have x2 := h2.v0; have y2 := h2.v1; have z2 := h2.v2; clear h2 F2))
  have F3 := H2.out.name ⟨55, true, 3, 0, 0⟩ (by decide) (by decide) rfl rfl
  dsimp only at F3
  go_wp2_with fail
  go_region_held3 (fun w' => w'.cell? ⟨w.heap.size, 0, none⟩ = some (.func (.func 67) #[] #[.pointer (some ⟨cb, 0, none⟩)]) ∧ w'.cell? ⟨w.heap.size, 1, none⟩ = some (.func (.func 69) #[] #[.pointer (some ⟨cb, 0, none⟩)]) ∧ w'.cell? ⟨w.heap.size, 2, none⟩ = some (.func (.func 70) #[] #[])) (go_keep) ((go_at_call 67; refine F3.mono ?_; rintro e w3 ⟨rfl, h3⟩; have H3 : Hid (RV W w3 b cb w.heap.size _ _ _ ) := h3; have c3 := h3.kind; have x3 := h3.v0; have y3 := h3.v1; have z3 := h3.v2; clear h3 F3))
  have F4 := H3.out.num ⟨54, false, 4, 1, 2⟩ (by decide) (by decide) rfl rfl
  dsimp only at F4
  go_wp2_with fail
  go_region_held3 (fun w' => w'.cell? ⟨w.heap.size, 0, none⟩ = some (.func (.func 67) #[] #[.pointer (some ⟨cb, 0, none⟩)]) ∧ w'.cell? ⟨w.heap.size, 1, none⟩ = some (.func (.func 69) #[] #[.pointer (some ⟨cb, 0, none⟩)]) ∧ w'.cell? ⟨w.heap.size, 2, none⟩ = some (.func (.func 70) #[] #[])) (go_keep) ((go_at_call 69; refine F4.mono ?_; rintro e w4 ⟨rfl, h4⟩; have H4 : Hid (RV W w4 b cb w.heap.size _ _ _ ) := h4; have c4 := h4.kind; have x4 := h4.v0; have y4 := h4.v1; have z4 := h4.v2; clear h4 F4))
  have F5 := H4.out.num ⟨38, false, 5, 1, 1099511627776⟩ (by decide) (by decide) rfl rfl
  dsimp only at F5
  go_wp2_with fail
  go_region_held3 (fun w' => w'.cell? ⟨w.heap.size, 0, none⟩ = some (.func (.func 67) #[] #[.pointer (some ⟨cb, 0, none⟩)]) ∧ w'.cell? ⟨w.heap.size, 1, none⟩ = some (.func (.func 69) #[] #[.pointer (some ⟨cb, 0, none⟩)]) ∧ w'.cell? ⟨w.heap.size, 2, none⟩ = some (.func (.func 70) #[] #[])) (go_keep) ((go_at_call 69; refine F5.mono ?_; rintro e w5 ⟨rfl, h5⟩; have H5 : Hid (RV W w5 b cb w.heap.size _ _ _ ) := h5; have c5 := h5.kind; have x5 := h5.v0; have y5 := h5.v1; have z5 := h5.v2; clear h5 F5))
  have F6 := H5.out.num ⟨44, false, 6, 1, 1099511627776⟩ (by decide) (by decide) rfl rfl
  dsimp only at F6
  go_wp2_with fail
  go_region_held3 (fun w' => w'.cell? ⟨w.heap.size, 0, none⟩ = some (.func (.func 67) #[] #[.pointer (some ⟨cb, 0, none⟩)]) ∧ w'.cell? ⟨w.heap.size, 1, none⟩ = some (.func (.func 69) #[] #[.pointer (some ⟨cb, 0, none⟩)]) ∧ w'.cell? ⟨w.heap.size, 2, none⟩ = some (.func (.func 70) #[] #[])) (go_keep) ((go_at_call 69; refine F6.mono ?_; rintro e w6 ⟨rfl, h6⟩; have H6 : Hid (RV W w6 b cb w.heap.size _ _ _ ) := h6; have c6 := h6.kind; have x6 := h6.v0; have y6 := h6.v1; have z6 := h6.v2; clear h6 F6))
  go_wp2_with fail
  go_end0
  exact ⟨rfl, H6.out⟩
set_option maxRecDepth 100000 in
set_option maxHeartbeats 4000000 in
theorem thrRight_2 {W w : World} {b cb : Nat} {r : Bool} {t : ThP} (H0 : Hid (RV W (w.alloc (.cells #[.func (.func 67) #[] #[.pointer (some ⟨cb, 0, none⟩)], .func (.func 69) #[] #[.pointer (some ⟨cb, 0, none⟩)], .func (.func 70) #[] #[]] 79)) b cb w.heap.size 2 r t)) :
    Calls Tryz.prog 16 #[.pointer (some ⟨b, 0, none⟩), .agg #[.func (.func 67) #[] #[.pointer (some ⟨cb, 0, none⟩)], .func (.func 69) #[] #[.pointer (some ⟨cb, 0, none⟩)], .func (.func 70) #[] #[]]] w fun e w' => e = .returned (.tuple #[]) ∧ RV W w' b cb w.heap.size 2 (rgt (rlist 2) r t).1 (rgt (rlist 2) r t).2 := by
  go_enter Tryz.func16, Tryz.ntmps16
  have c0 := H0.out.kind
  have F1 := H0.out.num ⟨34, false, 1, 1, 1099511627776⟩ (by decide) (by decide) rfl rfl
  dsimp only at F1
  go_wp2_with fail
  go_region_held3 (fun w' => w'.cell? ⟨w.heap.size, 0, none⟩ = some (.func (.func 67) #[] #[.pointer (some ⟨cb, 0, none⟩)]) ∧ w'.cell? ⟨w.heap.size, 1, none⟩ = some (.func (.func 69) #[] #[.pointer (some ⟨cb, 0, none⟩)]) ∧ w'.cell? ⟨w.heap.size, 2, none⟩ = some (.func (.func 70) #[] #[])) (go_keep) ((go_at_call 69; refine F1.mono ?_; rintro e w1 ⟨rfl, h1⟩; have H1 : Hid (RV W w1 b cb w.heap.size _ _ _ ) := h1; have c1 := h1.kind; have x1 := h1.v0; have y1 := h1.v1; have z1 := h1.v2; clear h1 F1))
  have F2 := H1.out.name ⟨11, true, 2, 0, 0⟩ (by decide) (by decide) rfl rfl
  dsimp only at F2
  go_wp2_with fail
  go_region_held3 (fun w' => w'.cell? ⟨w.heap.size, 0, none⟩ = some (.func (.func 67) #[] #[.pointer (some ⟨cb, 0, none⟩)]) ∧ w'.cell? ⟨w.heap.size, 1, none⟩ = some (.func (.func 69) #[] #[.pointer (some ⟨cb, 0, none⟩)]) ∧ w'.cell? ⟨w.heap.size, 2, none⟩ = some (.func (.func 70) #[] #[])) (go_keep) ((go_at_call 67; refine F2.mono ?_; rintro e w2 ⟨rfl, h2⟩; have H2 : Hid (RV W w2 b cb w.heap.size _ _ _ ) := h2; have c2 := h2.kind; have x2 := h2.v0; have y2 := h2.v1; have z2 := h2.v2; clear h2 F2))
  go_wp2_with fail
  go_end0
  exact ⟨rfl, H2.out⟩
set_option maxRecDepth 100000 in
set_option maxHeartbeats 4000000 in
theorem thrRight_3 {W w : World} {b cb : Nat} {r : Bool} {t : ThP} (H0 : Hid (RV W (w.alloc (.cells #[.func (.func 67) #[] #[.pointer (some ⟨cb, 0, none⟩)], .func (.func 69) #[] #[.pointer (some ⟨cb, 0, none⟩)], .func (.func 70) #[] #[]] 79)) b cb w.heap.size 3 r t)) :
    Calls Tryz.prog 16 #[.pointer (some ⟨b, 0, none⟩), .agg #[.func (.func 67) #[] #[.pointer (some ⟨cb, 0, none⟩)], .func (.func 69) #[] #[.pointer (some ⟨cb, 0, none⟩)], .func (.func 70) #[] #[]]] w fun e w' => e = .returned (.tuple #[]) ∧ RV W w' b cb w.heap.size 3 (rgt (rlist 3) r t).1 (rgt (rlist 3) r t).2 := by
  go_enter Tryz.func16, Tryz.ntmps16
  have c0 := H0.out.kind
  have F1 := H0.out.num ⟨34, false, 1, 1, 1099511627776⟩ (by decide) (by decide) rfl rfl
  dsimp only at F1
  go_wp2_with fail
  go_region_held3 (fun w' => w'.cell? ⟨w.heap.size, 0, none⟩ = some (.func (.func 67) #[] #[.pointer (some ⟨cb, 0, none⟩)]) ∧ w'.cell? ⟨w.heap.size, 1, none⟩ = some (.func (.func 69) #[] #[.pointer (some ⟨cb, 0, none⟩)]) ∧ w'.cell? ⟨w.heap.size, 2, none⟩ = some (.func (.func 70) #[] #[])) (go_keep) ((go_at_call 69; refine F1.mono ?_; rintro e w1 ⟨rfl, h1⟩; have H1 : Hid (RV W w1 b cb w.heap.size _ _ _ ) := h1; have c1 := h1.kind; have x1 := h1.v0; have y1 := h1.v1; have z1 := h1.v2; clear h1 F1))
  have F2 := H1.out.name ⟨11, true, 2, 0, 0⟩ (by decide) (by decide) rfl rfl
  dsimp only at F2
  go_wp2_with fail
  go_region_held3 (fun w' => w'.cell? ⟨w.heap.size, 0, none⟩ = some (.func (.func 67) #[] #[.pointer (some ⟨cb, 0, none⟩)]) ∧ w'.cell? ⟨w.heap.size, 1, none⟩ = some (.func (.func 69) #[] #[.pointer (some ⟨cb, 0, none⟩)]) ∧ w'.cell? ⟨w.heap.size, 2, none⟩ = some (.func (.func 70) #[] #[])) (go_keep) ((go_at_call 67; refine F2.mono ?_; rintro e w2 ⟨rfl, h2⟩; have H2 : Hid (RV W w2 b cb w.heap.size _ _ _ ) := h2; have c2 := h2.kind; have x2 := h2.v0; have y2 := h2.v1; have z2 := h2.v2; clear h2 F2))
  have F3 := H2.out.num ⟨38, false, 5, 1, 1099511627776⟩ (by decide) (by decide) rfl rfl
  dsimp only at F3
  go_wp2_with fail
  go_region_held3 (fun w' => w'.cell? ⟨w.heap.size, 0, none⟩ = some (.func (.func 67) #[] #[.pointer (some ⟨cb, 0, none⟩)]) ∧ w'.cell? ⟨w.heap.size, 1, none⟩ = some (.func (.func 69) #[] #[.pointer (some ⟨cb, 0, none⟩)]) ∧ w'.cell? ⟨w.heap.size, 2, none⟩ = some (.func (.func 70) #[] #[])) (go_keep) ((go_at_call 69; refine F3.mono ?_; rintro e w3 ⟨rfl, h3⟩; have H3 : Hid (RV W w3 b cb w.heap.size _ _ _ ) := h3; have c3 := h3.kind; have x3 := h3.v0; have y3 := h3.v1; have z3 := h3.v2; clear h3 F3))
  have F4 := H3.out.num ⟨44, false, 6, 1, 1099511627776⟩ (by decide) (by decide) rfl rfl
  dsimp only at F4
  go_wp2_with fail
  go_region_held3 (fun w' => w'.cell? ⟨w.heap.size, 0, none⟩ = some (.func (.func 67) #[] #[.pointer (some ⟨cb, 0, none⟩)]) ∧ w'.cell? ⟨w.heap.size, 1, none⟩ = some (.func (.func 69) #[] #[.pointer (some ⟨cb, 0, none⟩)]) ∧ w'.cell? ⟨w.heap.size, 2, none⟩ = some (.func (.func 70) #[] #[])) (go_keep) ((go_at_call 69; refine F4.mono ?_; rintro e w4 ⟨rfl, h4⟩; have H4 : Hid (RV W w4 b cb w.heap.size _ _ _ ) := h4; have c4 := h4.kind; have x4 := h4.v0; have y4 := h4.v1; have z4 := h4.v2; clear h4 F4))
  go_wp2_with fail
  go_end0
  exact ⟨rfl, H4.out⟩
end Go.Proofs.YtdbkoflejimibaaGreatDoor.PP.O
/-
  The contracts of post's right and RightOrder, for every Order.
-/
namespace Go.Proofs.YtdbkoflejimibaaGreatDoor.PP.O
open Go.ChangeShapes Go.WideShapes Go.ChangeAt Go.RowKit Go.Lib

/-- The blocks that right makes: the thing, what has the kind alone, a bool. -/
abbrev boxes (w : World) (t : ThP) : World := ((w.alloc (.cells #[.int .i64 (t.2 0), .int .i64 (t.2 1), .string (t.1 2), .string (t.1 3), .int .i64 (t.2 4), .int .i64 (t.2 5), .int .i64 (t.2 6)] 24)).alloc (.cells #[.int .i64 (t.2 0), .int .i64 0, .string ⟨#[]⟩, .string ⟨#[]⟩, .int .i64 0, .int .i64 0, .int .i64 0] 24)).alloc (.cells #[.bool true] 4)
theorem boxes_size (w : World) (t : ThP) : (boxes w t).heap.size = w.heap.size + 3 := by simp
theorem boxes_below (w : World) (t : ThP) : Below w.heap.size w (boxes w t) := (((Below.refl _ w).alloc (Nat.le_refl _) _).alloc (by simp) _).alloc (by simp; omega) _
theorem boxes_rt (w : World) (t : ThP) : RT (boxes w t) w.heap.size (w.heap.size + 2) true t := by
  have z1 : (boxT w t).heap.size = w.heap.size + 1 := by simp
  have z2 : ((w.alloc (.cells #[.int .i64 (t.2 0), .int .i64 (t.2 1), .string (t.1 2), .string (t.1 3), .int .i64 (t.2 4), .int .i64 (t.2 5), .int .i64 (t.2 6)] 24)).alloc (.cells #[.int .i64 (t.2 0), .int .i64 0, .string ⟨#[]⟩, .string ⟨#[]⟩, .int .i64 0, .int .i64 0, .int .i64 0] 24)).heap.size = w.heap.size + 2 := by simp
  have b1 : Below (boxT w t).heap.size (boxT w t) (boxes w t) := ((Below.refl _ _).alloc (Nat.le_refl _) _).alloc (by simp) _
  refine ⟨(box_at w t).still b1, ?_, ?_, by omega⟩
  · exact (fun (W2 : World) (h : W2.heap.size = w.heap.size + 2) => show (W2.alloc (.cells #[.bool true] 4)).cell? ⟨w.heap.size + 2, 0, none⟩ = some (.bool true) by rw [← h]; simp) _ z2
  · exact (fun (W2 : World) (h : W2.heap.size = w.heap.size + 2) => show (W2.alloc (.cells #[.bool true] 4)).frozen? ⟨w.heap.size + 2, 0, none⟩ = false by rw [← h]; simp) _ z2
theorem boxes_bare (w : World) (t : ThP) : ThAt nm (boxes w t) (w.heap.size + 1) (zeroT (t.2 0)) := by
  have z1 : (boxT w t).heap.size = w.heap.size + 1 := by simp
  have b2 : Below (boxT (boxT w t) (zeroT (t.2 0))).heap.size (boxT (boxT w t) (zeroT (t.2 0))) (boxes w t) := (Below.refl _ _).alloc (Nat.le_refl _) _
  have := (box_at (boxT w t) (zeroT (t.2 0))).still b2
  rw [z1] at this
  exact this
theorem rgt_kind : ∀ (L : List Pl) (r : Bool) (t : ThP), (∀ p ∈ L, p.off ≠ 0) → (rgt L r t).2.2 0 = t.2 0
  | [], _, _, _ => rfl
  | p :: q, r, t, h => by rw [rgt, rgt_kind q _ _ (fun p hp => h p (by simp [hp])), clr_kind (h p (by simp))]
theorem rlist_off (k : Int) : ∀ p ∈ rlist k, p.off ≠ 0 := by
  unfold rlist listK
  repeat' split
  all_goals decide
theorem thr_right {w : World} {b cb : Nat} {t : ThP} (h : RT w b cb true t) (hk : 1 ≤ t.2 0 ∧ t.2 0 ≤ 3) :
    Calls Tryz.prog 16 #[.pointer (some ⟨b, 0, none⟩), .agg #[.func (.func 67) #[] #[.pointer (some ⟨cb, 0, none⟩)], .func (.func 69) #[] #[.pointer (some ⟨cb, 0, none⟩)], .func (.func 70) #[] #[]]] w fun e w' => e = .returned (.tuple #[]) ∧ RV w w' b cb w.heap.size (t.2 0) (rgt (rlist (t.2 0)) true t).1 (rgt (rlist (t.2 0)) true t).2 := by
  have hb := h.at_.lt
  have hc : cb < w.heap.size := World.block_lt_of_cell? _ _ h.cell
  have BL : Below w.heap.size w (w.alloc (.cells #[.func (.func 67) #[] #[.pointer (some ⟨cb, 0, none⟩)], .func (.func 69) #[] #[.pointer (some ⟨cb, 0, none⟩)], .func (.func 70) #[] #[]] 79)) := (Below.refl _ w).alloc (Nat.le_refl _) _
  have V : ∀ k, t.2 0 = k → Hid (RV w (w.alloc (.cells #[.func (.func 67) #[] #[.pointer (some ⟨cb, 0, none⟩)], .func (.func 69) #[] #[.pointer (some ⟨cb, 0, none⟩)], .func (.func 70) #[] #[]] 79)) b cb w.heap.size k true t) := fun k hk => ⟨h.still BL, by simp, by simp, by simp, hk, by omega, by omega, But.of_below BL⟩
  rcases kinds hk with e | e | e
  · have := thrRight_1 (V _ e)
    rw [e]
    exact this
  · have := thrRight_2 (V _ e)
    rw [e]
    exact this
  · have := thrRight_3 (V _ e)
    rw [e]
    exact this
set_option maxRecDepth 100000 in
set_option maxHeartbeats 4000000 in
theorem rgt_any (t : ThP) (w : World) (hk : 1 ≤ t.2 0 ∧ t.2 0 ≤ 3) :
    Calls Tryz.prog 38 #[.agg #[.int .i64 (t.2 0), .int .i64 (t.2 1), .string (t.1 2), .string (t.1 3), .int .i64 (t.2 4), .int .i64 (t.2 5), .int .i64 (t.2 6)], .agg #[.int .i64 (t.2 0), .int .i64 0, .string ⟨#[]⟩, .string ⟨#[]⟩, .int .i64 0, .int .i64 0, .int .i64 0], .func (.func 16) #[] #[]] w fun e w' => e = .returned (.bool (rgtB t)) ∧ Below w.heap.size w w' := by
  have E := thr_right (boxes_rt w t) hk
  have HB : Hid (ThAt nm (boxes w t) (w.heap.size + 1) (zeroT (t.2 0))) := boxes_bare w t
  have HB0 : Hid (Below w.heap.size w (boxes w t)) := boxes_below w t
  have HN : Hid (¬ TwoB w.heap.size (w.heap.size + 2) (w.heap.size + 1)) := fun e => by rcases e with e | e <;> omega
  unfold rgtB
  obtain ⟨r0, u0, hg0⟩ : ∃ r0 u0, rgt (rlist (t.2 0)) true t = (r0, u0) := ⟨_, _, rfl⟩
  have hkd : u0.2 0 = t.2 0 := by
    have := rgt_kind (rlist (t.2 0)) true t (rlist_off _)
    rw [hg0] at this
    exact this
  rw [hg0] at E ⊢
  dsimp only at E ⊢
  unfold boxes at E
  clear hg0
  cases r0 with
  | false =>
    rw [Bool.false_and]
    go_enter Tryz.func38, Tryz.ntmps38
    go_wp2_with fail
    refine E.mono ?_
    rintro e w2 ⟨rfl, V2⟩
    have c0 := V2.rt.cell
    obtain ⟨d0, d1, d2, d3, d4, d5, d6⟩ := ThAt.all V2.rt.at_
    obtain ⟨g0, g1, g2, g3, g4, g5, g6⟩ := ThAt.all (HB.out.but V2.fr HN.out)
    have HB2 : Hid (Below w.heap.size w w2) := HB0.out.trans (V2.fr.below HB0.out.size (fun i e => by rcases e with rfl | rfl <;> omega))
    clear E V2
    go_wp2_with fail
    go_ret
    exact ⟨rfl, HB2.out⟩
  | true =>
    rw [Bool.true_and]
    have kd : u0.2 0 = t.2 0 := hkd
    have Q := fun w => th_eq u0 (zeroT (t.2 0)) w
    have ez : sameB u0 (zeroT (t.2 0)) = zeroB u0 := by unfold zeroB; rw [kd]
    rw [ez] at Q
    clear kd ez hkd
    generalize zeroB u0 = z at *
    go_enter Tryz.func38, Tryz.ntmps38
    go_wp2_with fail
    refine E.mono ?_
    rintro e w2 ⟨rfl, V2⟩
    have c0 := V2.rt.cell
    obtain ⟨d0, d1, d2, d3, d4, d5, d6⟩ := ThAt.all V2.rt.at_
    obtain ⟨g0, g1, g2, g3, g4, g5, g6⟩ := ThAt.all (HB.out.but V2.fr HN.out)
    have HB2 : Hid (Below w.heap.size w w2) := HB0.out.trans (V2.fr.below HB0.out.size (fun i e => by rcases e with rfl | rfl <;> omega))
    clear E V2
    go_wp2_with fail
    go_ret
    exact ⟨rfl, HB2.out⟩
set_option maxHeartbeats 4000000 in
theorem right_any (t : ThP) (w : World) :
    Calls Tryz.prog 26 #[.agg #[.int .i64 (t.2 0), .int .i64 (t.2 1), .string (t.1 2), .string (t.1 3), .int .i64 (t.2 4), .int .i64 (t.2 5), .int .i64 (t.2 6)]] w fun e w' => e = .returned (.bool (rightB t)) ∧ Below w.heap.size w w' := by
  have HB0 : Hid (Below w.heap.size w (boxT w t)) := box_below w t
  have K := isKind_any (t.2 0) (boxT w t)
  unfold rightB
  by_cases hk : 1 ≤ t.2 0 ∧ t.2 0 ≤ 3
  case neg =>
    rw [decide_eq_false hk, Bool.false_and]
    rw [decide_eq_false hk] at K
    clear hk
    go_enter Tryz.func26, Tryz.ntmps26
    go_wp2_with fail
    refine K.mono ?_
    rintro e w1 ⟨rfl, rfl⟩
    go_wp2_with fail
    go_ret
    exact ⟨rfl, HB0.out⟩
  case pos =>
    rw [decide_eq_true hk, Bool.true_and]
    rw [decide_eq_true hk] at K
    have E := rgt_any t (boxT w t) hk
    generalize rgtB t = z at *
    clear hk
    go_enter Tryz.func26, Tryz.ntmps26
    go_wp2_with fail
    refine K.mono ?_
    rintro e w1 ⟨rfl, rfl⟩
    clear K
    go_wp2_with fail
    refine E.mono ?_
    rintro e w2 ⟨rfl, b2⟩
    have HB2 : Hid (Below w.heap.size w w2) := HB0.out.trans (b2.mono HB0.out.size)
    clear E b2
    go_wp2_with fail
    go_ret
    exact ⟨rfl, HB2.out⟩
end Go.Proofs.YtdbkoflejimibaaGreatDoor.PP.O
