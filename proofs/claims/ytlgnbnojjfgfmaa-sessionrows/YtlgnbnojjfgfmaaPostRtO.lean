/-
  Contracts of the functions that right hands on (Order): each looks at a field and empties it.
-/
import Derived.Test.YtlgnbnojjfgfmaaPostListO
namespace Go.Proofs.Ytlgnbnojjfgfmaa.PP.O
open Go.ChangeShapes Go.WideShapes Go.ChangeAt Go.RowKit Go.Lib

/-- One in block b beside a bool in block cb. -/
structure RT (w : World) (b cb : Nat) (r : Bool) (t : ThP) : Prop where
  at_ : ThAt nm w b t
  cell : w.cell? ⟨cb, 0, none⟩ = some (.bool r)
  fz : w.frozen? ⟨cb, 0, none⟩ = false
  ne : b ≠ cb
theorem RT.still {w w' : World} {b cb : Nat} {r : Bool} {t : ThP} (h : RT w b cb r t) (k : Below w.heap.size w w') : RT w' b cb r t :=
  ⟨h.at_.still k, (k.cell (p := ⟨cb, 0, none⟩) (World.block_lt_of_cell? _ _ h.cell)).trans h.cell, (k.frozen (p := ⟨cb, 0, none⟩) (World.block_lt_of_cell? _ _ h.cell)).trans h.fz, h.ne⟩
def TwoB (b cb j : Nat) : Prop := j = b ∨ j = cb
theorem RT.setBool {w : World} {b cb : Nat} {r : Bool} {t : ThP} (h : RT w b cb r t) (x : Bool) : RT (w.setCell ⟨cb, 0, none⟩ (.bool x)) b cb x t ∧ But (TwoB b cb) w (w.setCell ⟨cb, 0, none⟩ (.bool x)) := by
  have hB : But (fun j => j = cb) w (w.setCell ⟨cb, 0, none⟩ (.bool x)) := (But.refl _ w).setCell cb 0 _ (fun _ => rfl)
  exact ⟨⟨h.at_.but hB h.ne, World.cell?_setCell_same _ _ _ h.cell, by rw [World.frozen?_setCell]; exact h.fz, h.ne⟩, hB.mono (fun i _ e => .inr e)⟩
theorem RT.setText {w : World} {b cb : Nat} {r : Bool} {t : ThP} (h : RT w b cb r t) {p : Pl} (h7 : p.off < 7) (hn : nm p.off = true) (hp : p.isName = true) : RT (w.setCell ⟨b, p.off, none⟩ (.string ⟨#[]⟩)) b cb r (p.clr t) ∧ But (TwoB b cb) w (w.setCell ⟨b, p.off, none⟩ (.string ⟨#[]⟩)) := by
  have hB : But (fun j => j = b) w (w.setCell ⟨b, p.off, none⟩ (.string ⟨#[]⟩)) := (But.refl _ w).setCell b p.off _ (fun _ => rfl)
  have lc := World.block_lt_of_cell? _ _ h.cell
  refine ⟨⟨?_, (hB.cell lc (fun e => h.ne e.symm)).trans h.cell, (hB.frozen lc (fun e => h.ne e.symm)).trans h.fz, h.ne⟩, hB.mono (fun i _ e => .inl e)⟩
  unfold Pl.clr
  rw [if_pos hp]
  exact h.at_.setText h7 hn _
theorem RT.setNum {w : World} {b cb : Nat} {r : Bool} {t : ThP} (h : RT w b cb r t) {p : Pl} (h7 : p.off < 7) (hn : nm p.off = false) (hp : p.isName = false) : RT (w.setCell ⟨b, p.off, none⟩ (.int .i64 0)) b cb r (p.clr t) ∧ But (TwoB b cb) w (w.setCell ⟨b, p.off, none⟩ (.int .i64 0)) := by
  have hB : But (fun j => j = b) w (w.setCell ⟨b, p.off, none⟩ (.int .i64 0)) := (But.refl _ w).setCell b p.off _ (fun _ => rfl)
  have lc := World.block_lt_of_cell? _ _ h.cell
  refine ⟨⟨?_, (hB.cell lc (fun e => h.ne e.symm)).trans h.cell, (hB.frozen lc (fun e => h.ne e.symm)).trans h.fz, h.ne⟩, hB.mono (fun i _ e => .inl e)⟩
  unfold Pl.clr
  rw [if_neg (by rw [hp]; decide)]
  exact h.at_.setNum h7 hn _
set_option maxHeartbeats 4000000 in
theorem right1_any {w : World} {b cb : Nat} {r : Bool} {t : ThP} (h : RT w b cb r t) (p : Pl) (h7 : p.off < 7) (hn : nm p.off = true) (hp : p.isName = true) :
    Calls Try.prog 41 #[.int .i64 p.tag, .pointer (some ⟨b, p.off, none⟩), .pointer (some ⟨cb, 0, none⟩)] w fun e w' => e = .returned (.tuple #[]) ∧ RT w' b cb (r && p.okB t) (p.clr t) ∧ But (TwoB b cb) w w' := by
  have c0 := h.cell
  have c1 := h.at_.text h7 hn
  have ok : p.okB t = vldB (t.1 p.off) := by unfold Pl.okB; rw [if_pos hp]
  rw [ok]
  cases r with
  | true =>
    have F := valid_any (t.1 p.off) w
    have HH : Hid (RT w b cb true t) := h
    rw [Bool.true_and]
    clear h ok
    generalize vldB (t.1 p.off) = V at *
    go_enter Try.func41, Try.ntmps41
    go_wp2_with fail
    refine F.mono ?_
    rintro e w1 ⟨rfl, b1⟩
    have h1 := HH.out.still b1
    have d0 := h1.cell
    have f0 := h1.fz
    obtain ⟨R1, B1⟩ := h1.setBool V
    have c2 := R1.at_.text h7 hn
    have f2 := R1.at_.fz p.off
    obtain ⟨R2, B2⟩ := R1.setText h7 hn hp
    have HR : Hid (RT ((w1.setCell ⟨cb, 0, none⟩ (.bool V)).setCell ⟨b, p.off, none⟩ (.string ⟨#[]⟩)) b cb V (p.clr t) ∧ But (TwoB b cb) w ((w1.setCell ⟨cb, 0, none⟩ (.bool V)).setCell ⟨b, p.off, none⟩ (.string ⟨#[]⟩))) := ⟨R2, (But.of_below b1).trans (B1.trans B2 (fun _ _ e => e)) (fun _ _ e => e)⟩
    clear h1 R1 B1 R2 B2 c0 c1 F b1 HH
    go_wp2_with fail
    go_end0
    exact ⟨rfl, HR.out⟩
  | false =>
    have f0 := h.fz
    obtain ⟨R1, B1⟩ := h.setBool false
    have c2 := R1.at_.text h7 hn
    have f2 := R1.at_.fz p.off
    obtain ⟨R2, B2⟩ := R1.setText h7 hn hp
    have HR : Hid (RT ((w.setCell ⟨cb, 0, none⟩ (.bool false)).setCell ⟨b, p.off, none⟩ (.string ⟨#[]⟩)) b cb false (p.clr t) ∧ But (TwoB b cb) w ((w.setCell ⟨cb, 0, none⟩ (.bool false)).setCell ⟨b, p.off, none⟩ (.string ⟨#[]⟩))) := ⟨R2, B1.trans B2 (fun _ _ e => e)⟩
    clear h R1 B1 R2 B2 ok
    rw [Bool.false_and]
    go_enter Try.func41, Try.ntmps41
    go_wp2_with fail
    go_end0
    exact ⟨rfl, HR.out⟩
set_option maxHeartbeats 4000000 in
theorem right2_any {w : World} {b cb : Nat} {r : Bool} {t : ThP} (h : RT w b cb r t) (p : Pl) (h7 : p.off < 7) (hn : nm p.off = false) (hp : p.isName = false) :
    Calls Try.prog 43 #[.int .i64 p.tag, .pointer (some ⟨b, p.off, none⟩), .int .i64 p.low, .int .i64 p.high, .pointer (some ⟨cb, 0, none⟩)] w fun e w' => e = .returned (.tuple #[]) ∧ RT w' b cb (r && p.okB t) (p.clr t) ∧ But (TwoB b cb) w w' := by
  have c0 := h.cell
  have f0 := h.fz
  have c1 := h.at_.num h7 hn
  have ok : p.okB t = decide (p.low ≤ t.2 p.off ∧ t.2 p.off ≤ p.high) := by unfold Pl.okB; rw [if_neg (by rw [hp]; decide)]
  have fb := h.at_.fz p.off
  obtain ⟨R1, B1⟩ := h.setBool (r && p.okB t)
  have c2 := R1.at_.num h7 hn
  obtain ⟨R2, B2⟩ := R1.setNum h7 hn hp
  have HR : Hid (RT ((w.setCell ⟨cb, 0, none⟩ (.bool (r && p.okB t))).setCell ⟨b, p.off, none⟩ (.int .i64 0)) b cb (r && p.okB t) (p.clr t) ∧ But (TwoB b cb) w ((w.setCell ⟨cb, 0, none⟩ (.bool (r && p.okB t))).setCell ⟨b, p.off, none⟩ (.int .i64 0))) := ⟨R2, B1.trans B2 (fun _ _ e => e)⟩
  clear h R1 B1 R2 B2
  generalize p.okB t = V at *
  generalize t.2 p.off = n at *
  generalize p.low = lo at *
  generalize p.high = hi at *
  cases r with
  | true =>
    rw [Bool.true_and] at HR c2 ⊢
    by_cases h1 : lo ≤ n
    · by_cases h2 : n ≤ hi
      · rw [decide_eq_true ⟨h1, h2⟩] at ok
        subst ok
        go_enter Try.func43, Try.ntmps43
        go_wp2_with fail
        go_end0
        exact ⟨rfl, HR.out⟩
      · rw [decide_eq_false (fun e => h2 e.2)] at ok
        subst ok
        go_enter Try.func43, Try.ntmps43
        go_wp2_with fail
        go_end0
        exact ⟨rfl, HR.out⟩
    · rw [decide_eq_false (fun e => h1 e.1)] at ok
      subst ok
      go_enter Try.func43, Try.ntmps43
      go_wp2_with fail
      go_end0
      exact ⟨rfl, HR.out⟩
  | false =>
    clear ok
    rw [Bool.false_and] at HR c2 ⊢
    go_enter Try.func43, Try.ntmps43
    go_wp2_with fail
    go_end0
    exact ⟨rfl, HR.out⟩
theorem clr_kind {p : Pl} (h : p.off ≠ 0) (t : ThP) : (p.clr t).2 0 = t.2 0 := by
  unfold Pl.clr
  split
  · rfl
  · exact upd_other _ _ (fun e => h e.symm)
/-- The functions that right hands on, in block vb, beside what they write; k: the kind. -/
structure RV (W w : World) (b cb vb : Nat) (k : Int) (r : Bool) (t : ThP) : Prop where
  rt : RT w b cb r t
  v0 : w.cell? ⟨vb, 0, none⟩ = some (.func (.func 41) #[] #[.pointer (some ⟨cb, 0, none⟩)])
  v1 : w.cell? ⟨vb, 1, none⟩ = some (.func (.func 43) #[] #[.pointer (some ⟨cb, 0, none⟩)])
  v2 : w.cell? ⟨vb, 2, none⟩ = some (.func (.func 44) #[] #[])
  kd : t.2 0 = k
  nb : vb ≠ b
  nc : vb ≠ cb
  fr : But (TwoB b cb) W w
theorem RV.lt {W w : World} {b cb vb : Nat} {k : Int} {r : Bool} {t : ThP} (h : RV W w b cb vb k r t) : vb < w.heap.size := World.block_lt_of_cell? _ _ h.v0
theorem RV.kind {W w : World} {b cb vb : Nat} {k : Int} {r : Bool} {t : ThP} (h : RV W w b cb vb k r t) : w.cell? ⟨b, 0, none⟩ = some (.int .i64 k) := by
  rw [← h.kd]
  exact h.rt.at_.num (j := 0) (by omega) rfl
theorem RV.drew {W w : World} {b cb vb : Nat} {k : Int} {r : Bool} {t : ThP} (h : RV W w b cb vb k r t) : RV W w.drew b cb vb k r t :=
  ⟨h.rt.still (below_drewN _ 1 _), h.v0, h.v1, h.v2, h.kd, h.nb, h.nc, h.fr.drew⟩
theorem RV.next {W w w' : World} {b cb vb : Nat} {k : Int} {r r' : Bool} {t t' : ThP} (h : RV W w b cb vb k r t) (R : RT w' b cb r' t') (B : But (TwoB b cb) w w') (hk : t'.2 0 = k) : RV W w' b cb vb k r' t' :=
  ⟨R, (B.cell h.lt (fun e => e.elim h.nb h.nc)).trans h.v0, (B.cell h.lt (fun e => e.elim h.nb h.nc)).trans h.v1, (B.cell h.lt (fun e => e.elim h.nb h.nc)).trans h.v2, hk, h.nb, h.nc, h.fr.trans B (fun _ _ e => e)⟩
theorem RV.name {W w : World} {b cb vb : Nat} {k : Int} {r : Bool} {t : ThP} (h : RV W w b cb vb k r t) (p : Pl) (h7 : p.off < 7) (h0 : p.off ≠ 0) (hn : nm p.off = true) (hp : p.isName = true) :
    Calls Try.prog 41 #[.int .i64 p.tag, .pointer (some ⟨b, p.off, none⟩), .pointer (some ⟨cb, 0, none⟩)] w.drew fun e w' => e = .returned (.tuple #[]) ∧ RV W w' b cb vb k (r && p.okB t) (p.clr t) :=
  (right1_any h.drew.rt p h7 hn hp).mono fun _ _ ⟨he, R, B⟩ => ⟨he, h.drew.next R B ((clr_kind h0 t).trans h.kd)⟩
theorem RV.num {W w : World} {b cb vb : Nat} {k : Int} {r : Bool} {t : ThP} (h : RV W w b cb vb k r t) (p : Pl) (h7 : p.off < 7) (h0 : p.off ≠ 0) (hn : nm p.off = false) (hp : p.isName = false) :
    Calls Try.prog 43 #[.int .i64 p.tag, .pointer (some ⟨b, p.off, none⟩), .int .i64 p.low, .int .i64 p.high, .pointer (some ⟨cb, 0, none⟩)] w.drew fun e w' => e = .returned (.tuple #[]) ∧ RV W w' b cb vb k (r && p.okB t) (p.clr t) :=
  (right2_any h.drew.rt p h7 hn hp).mono fun _ _ ⟨he, R, B⟩ => ⟨he, h.drew.next R B ((clr_kind h0 t).trans h.kd)⟩
end Go.Proofs.Ytlgnbnojjfgfmaa.PP.O
