/-
  The contract of tell's Right, for every tell.
-/
import Derived.Test.YtdacmhnniecmhaaDoorTellEach
import Derived.Test.YtdacmhnniecmhaaDoorTellEq
namespace Go.Proofs.YtdacmhnniecmhaaDoor
open Go.ChangeShapes Go.WideShapes Go.ChangeAt Go.RowKit Go.Lib

/-- A tell in block b beside a bool in block cb. -/
structure RT (w : World) (b cb : Nat) (r : Bool) (t : TellP) : Prop where
  at_ : TellAt w b t
  cell : w.cell? ⟨cb, 0, none⟩ = some (.bool r)
  fz : w.frozen? ⟨cb, 0, none⟩ = false
  ne : b ≠ cb
theorem RT.still {w w' : World} {b cb : Nat} {r : Bool} {t : TellP} (h : RT w b cb r t) (k : Below w.heap.size w w') : RT w' b cb r t :=
  ⟨h.at_.still k, (k.cell (p := ⟨cb, 0, none⟩) (World.block_lt_of_cell? _ _ h.cell)).trans h.cell, (k.frozen (p := ⟨cb, 0, none⟩) (World.block_lt_of_cell? _ _ h.cell)).trans h.fz, h.ne⟩
def TwoB (b cb j : Nat) : Prop := j = b ∨ j = cb
theorem RT.setBool {w : World} {b cb : Nat} {r : Bool} {t : TellP} (h : RT w b cb r t) (x : Bool) : RT (w.setCell ⟨cb, 0, none⟩ (.bool x)) b cb x t ∧ But (TwoB b cb) w (w.setCell ⟨cb, 0, none⟩ (.bool x)) := by
  have hB : But (fun j => j = cb) w (w.setCell ⟨cb, 0, none⟩ (.bool x)) := (But.refl _ w).setCell cb 0 _ (fun _ => rfl)
  exact ⟨⟨h.at_.but hB h.ne, World.cell?_setCell_same _ _ _ h.cell, by rw [World.frozen?_setCell]; exact h.fz, h.ne⟩, hB.mono (fun i _ e => .inr e)⟩
theorem RT.setText {w : World} {b cb : Nat} {r : Bool} {t : TellP} (h : RT w b cb r t) {p : Pl} (h10 : p.off < 10) (hn : p.isName = true ↔ p.off = 1 ∨ p.off = 2) (hp : p.isName = true) : RT (w.setCell ⟨b, p.off, none⟩ (.string ⟨#[]⟩)) b cb r (p.clr t) ∧ But (TwoB b cb) w (w.setCell ⟨b, p.off, none⟩ (.string ⟨#[]⟩)) := by
  have hB : But (fun j => j = b) w (w.setCell ⟨b, p.off, none⟩ (.string ⟨#[]⟩)) := (But.refl _ w).setCell b p.off _ (fun _ => rfl)
  have lc := World.block_lt_of_cell? _ _ h.cell
  refine ⟨⟨?_, (hB.cell lc (fun e => h.ne e.symm)).trans h.cell, (hB.frozen lc (fun e => h.ne e.symm)).trans h.fz, h.ne⟩, hB.mono (fun i _ e => .inl e)⟩
  unfold Pl.clr
  rw [if_pos hp]
  exact h.at_.setText h10 hn hp _
theorem RT.setNum {w : World} {b cb : Nat} {r : Bool} {t : TellP} (h : RT w b cb r t) {p : Pl} (h10 : p.off < 10) (hn : p.isName = true ↔ p.off = 1 ∨ p.off = 2) (hp : p.isName = false) : RT (w.setCell ⟨b, p.off, none⟩ (.int .i64 0)) b cb r (p.clr t) ∧ But (TwoB b cb) w (w.setCell ⟨b, p.off, none⟩ (.int .i64 0)) := by
  have hB : But (fun j => j = b) w (w.setCell ⟨b, p.off, none⟩ (.int .i64 0)) := (But.refl _ w).setCell b p.off _ (fun _ => rfl)
  have lc := World.block_lt_of_cell? _ _ h.cell
  refine ⟨⟨?_, (hB.cell lc (fun e => h.ne e.symm)).trans h.cell, (hB.frozen lc (fun e => h.ne e.symm)).trans h.fz, h.ne⟩, hB.mono (fun i _ e => .inl e)⟩
  unfold Pl.clr
  rw [if_neg (by rw [hp]; decide)]
  exact h.at_.setNum h10 hn hp _
set_option maxHeartbeats 4000000 in
theorem right1_any {w : World} {b cb : Nat} {r : Bool} {t : TellP} (h : RT w b cb r t) {p : Pl} (h10 : p.off < 10) (hn : p.isName = true ↔ p.off = 1 ∨ p.off = 2) (hp : p.isName = true) :
    Calls Tryd.prog 23 #[.int .i64 p.tag, .pointer (some ⟨b, p.off, none⟩), .pointer (some ⟨cb, 0, none⟩)] w fun e w' => e = .returned (.tuple #[]) ∧ RT w' b cb (r && p.okB t) (p.clr t) ∧ But (TwoB b cb) w w' := by
  have c0 := h.cell
  have c1 := h.at_.text h10 hn hp
  have ok : p.okB t = vldB (t.1 p.off) := by unfold Pl.okB; rw [if_pos hp]
  rw [ok]
  cases r with
  | true =>
    have F := valid_any (t.1 p.off) w
    have HH : Hid (RT w b cb true t) := h
    rw [Bool.true_and]
    clear h ok
    generalize vldB (t.1 p.off) = V at *
    go_enter Tryd.func23, Tryd.ntmps23
    go_wp2_with fail
    refine F.mono ?_
    rintro e w1 ⟨rfl, b1⟩
    have h1 := HH.out.still b1
    have d0 := h1.cell
    have f0 := h1.fz
    obtain ⟨R1, B1⟩ := h1.setBool V
    have c2 := R1.at_.text h10 hn hp
    have f2 := R1.at_.fz p.off
    obtain ⟨R2, B2⟩ := R1.setText h10 hn hp
    have HR : Hid (RT ((w1.setCell ⟨cb, 0, none⟩ (.bool V)).setCell ⟨b, p.off, none⟩ (.string ⟨#[]⟩)) b cb V (p.clr t) ∧ But (TwoB b cb) w ((w1.setCell ⟨cb, 0, none⟩ (.bool V)).setCell ⟨b, p.off, none⟩ (.string ⟨#[]⟩))) := ⟨R2, (But.of_below b1).trans (B1.trans B2 (fun _ _ e => e)) (fun _ _ e => e)⟩
    clear h1 R1 B1 R2 B2 c0 c1 F b1 HH
    go_wp2_with fail
    go_end0
    exact ⟨rfl, HR.out⟩
  | false =>
    have f0 := h.fz
    obtain ⟨R1, B1⟩ := h.setBool false
    have c2 := R1.at_.text h10 hn hp
    have f2 := R1.at_.fz p.off
    obtain ⟨R2, B2⟩ := R1.setText h10 hn hp
    have HR : Hid (RT ((w.setCell ⟨cb, 0, none⟩ (.bool false)).setCell ⟨b, p.off, none⟩ (.string ⟨#[]⟩)) b cb false (p.clr t) ∧ But (TwoB b cb) w ((w.setCell ⟨cb, 0, none⟩ (.bool false)).setCell ⟨b, p.off, none⟩ (.string ⟨#[]⟩))) := ⟨R2, B1.trans B2 (fun _ _ e => e)⟩
    clear h R1 B1 R2 B2 ok
    rw [Bool.false_and]
    go_enter Tryd.func23, Tryd.ntmps23
    go_wp2_with fail
    go_end0
    exact ⟨rfl, HR.out⟩
set_option maxHeartbeats 4000000 in
theorem right2_any {w : World} {b cb : Nat} {r : Bool} {t : TellP} (h : RT w b cb r t) {p : Pl} (h10 : p.off < 10) (hn : p.isName = true ↔ p.off = 1 ∨ p.off = 2) (hp : p.isName = false) :
    Calls Tryd.prog 25 #[.int .i64 p.tag, .pointer (some ⟨b, p.off, none⟩), .int .i64 p.low, .int .i64 p.high, .pointer (some ⟨cb, 0, none⟩)] w fun e w' => e = .returned (.tuple #[]) ∧ RT w' b cb (r && p.okB t) (p.clr t) ∧ But (TwoB b cb) w w' := by
  have c0 := h.cell
  have f0 := h.fz
  have c1 := h.at_.num h10 hn hp
  have ok : p.okB t = decide (p.low ≤ t.2 p.off ∧ t.2 p.off ≤ p.high) := by unfold Pl.okB; rw [if_neg (by rw [hp]; decide)]
  have fb := h.at_.fz p.off
  obtain ⟨R1, B1⟩ := h.setBool (r && p.okB t)
  have c2 := R1.at_.num h10 hn hp
  obtain ⟨R2, B2⟩ := R1.setNum h10 hn hp
  have HR : Hid (RT ((w.setCell ⟨cb, 0, none⟩ (.bool (r && p.okB t))).setCell ⟨b, p.off, none⟩ (.int .i64 0)) b cb (r && p.okB t) (p.clr t) ∧ But (TwoB b cb) w ((w.setCell ⟨cb, 0, none⟩ (.bool (r && p.okB t))).setCell ⟨b, p.off, none⟩ (.int .i64 0))) := ⟨R2, B1.trans B2 (fun _ _ e => e)⟩
  clear h R1 B1 R2 B2
  generalize p.okB t = V at *
  generalize t.2 p.off = n at *
  generalize p.low = lo at *
  generalize p.high = hi at *
  cases r with
  | true =>
    rw [Bool.true_and] at HR c2 ⊢
    by_cases h1 : lo ≤ n
    · by_cases h2 : n ≤ hi
      · rw [decide_eq_true ⟨h1, h2⟩] at ok
        subst ok
        go_enter Tryd.func25, Tryd.ntmps25
        go_wp2_with fail
        go_end0
        exact ⟨rfl, HR.out⟩
      · rw [decide_eq_false (fun e => h2 e.2)] at ok
        subst ok
        go_enter Tryd.func25, Tryd.ntmps25
        go_wp2_with fail
        go_end0
        exact ⟨rfl, HR.out⟩
    · rw [decide_eq_false (fun e => h1 e.1)] at ok
      subst ok
      go_enter Tryd.func25, Tryd.ntmps25
      go_wp2_with fail
      go_end0
      exact ⟨rfl, HR.out⟩
  | false =>
    clear ok
    rw [Bool.false_and] at HR c2 ⊢
    go_enter Tryd.func25, Tryd.ntmps25
    go_wp2_with fail
    go_end0
    exact ⟨rfl, HR.out⟩
theorem clr_kind {p : Pl} (h : 1 ≤ p.off) (t : TellP) : (p.clr t).2 0 = t.2 0 := by
  unfold Pl.clr
  split
  · rfl
  · exact upd_other _ _ (by omega)
/-- Where Right stands behind some fields. -/
def RJ (W : World) (b cb : Nat) (L : List Pl) (T : TellP) (i : Nat) (w : World) : Prop := ∃ r u, RT w b cb r u ∧ rgt (L.drop i) r u = rgt L true T ∧ u.2 0 = T.2 0 ∧ Below W.heap.size W w
theorem drop_pl {L : List Pl} {k : Nat} (h : k < L.length) : L.drop k = L[k] :: L.drop (k + 1) := List.drop_eq_getElem_cons h
theorem RJ.next {W wa wb : World} {b cb : Nat} {L : List Pl} {T : TellP} {i : Nat} (h : i < L.length) {r : Bool} {u : TellP} (hg : rgt (L.drop i) r u = rgt L true T) (hk : u.2 0 = T.2 0) (h1 : 1 ≤ (L[i]).off) (hB : Below W.heap.size W wa) (lb : W.heap.size ≤ b) (lc : W.heap.size ≤ cb) (R : RT wb b cb (r && (L[i]).okB u) ((L[i]).clr u)) (B : But (TwoB b cb) wa wb) : RJ W b cb L T (i + 1) wb := by
  refine ⟨_, _, R, ?_, (clr_kind h1 u).trans hk, hB.trans (B.below hB.size (fun j e => by rcases e with rfl | rfl <;> omega))⟩
  rw [drop_pl h, rgt] at hg
  exact hg
set_option maxHeartbeats 4000000 in
theorem right_each {W w : World} {b cb : Nat} {t : TellP} (h : RT w b cb true t) (h1 : 1 ≤ t.2 0) (h4 : t.2 0 ≤ 4) (hB : Below W.heap.size W w) (lb : W.heap.size ≤ b) (lc : W.heap.size ≤ cb) :
    Calls Tryd.prog 15 #[.pointer (some ⟨b, 0, none⟩), .func (.func 23) #[] #[.pointer (some ⟨cb, 0, none⟩)], .func (.func 25) #[] #[.pointer (some ⟨cb, 0, none⟩)]] w fun e w' => ∃ r u, e = .returned (.tuple #[]) ∧ RT w' b cb r u ∧ rgt (listK (t.2 0)) true t = (r, u) ∧ u.2 0 = t.2 0 ∧ Below W.heap.size W w' := by
  have nb : w.heap.size ≠ b := by have := h.at_.lt; omega
  have nc : w.heap.size ≠ cb := by have := World.block_lt_of_cell? _ _ h.cell; dsimp only at this; omega
  refine (eachRight h1 h4 h.at_.kind (RJ W b cb (listK (t.2 0)) t) (fun w' k => ⟨true, t, h.still k, by rw [List.drop_zero], rfl, hB.trans (k.mono hB.size)⟩) ?_ ?_ ?_).mono ?_
  · rintro i wa wb ⟨r, u, R, hg, hk, B⟩ k
    exact ⟨r, u, R.still k, hg, hk, B.trans (k.mono B.size)⟩
  · rintro i hi hn wa ⟨r, u, R, hg, hk, B⟩ lw
    obtain ⟨_, _, _, _, e5, e6, e7⟩ := list_ends _ _ (List.getElem_mem hi)
    refine (right1_any R e5 e7 hn).mono ?_
    rintro e wb ⟨rfl, R2, B2⟩
    exact ⟨rfl, RJ.next hi hg hk e6 B lb lc R2 B2, fun o => B2.cell lw (fun e => e.elim nb nc)⟩
  · rintro i hi hn wa ⟨r, u, R, hg, hk, B⟩ lw
    obtain ⟨_, _, _, _, e5, e6, e7⟩ := list_ends _ _ (List.getElem_mem hi)
    refine (right2_any R e5 e7 hn).mono ?_
    rintro e wb ⟨rfl, R2, B2⟩
    exact ⟨rfl, RJ.next hi hg hk e6 B lb lc R2 B2, fun o => B2.cell lw (fun e => e.elim nb nc)⟩
  · rintro e w' ⟨rfl, r, u, R, hg, hk, B⟩
    rw [List.drop_length, rgt] at hg
    exact ⟨r, u, rfl, R, hg.symm, hk, B⟩
set_option maxHeartbeats 4000000 in
theorem right_any (t : TellP) (w : World) :
    Calls Tryd.prog 11 #[.agg #[.int .i64 (t.2 0), .string (t.1 1), .string (t.1 2), .int .i64 (t.2 3), .int .i64 (t.2 4), .int .i64 (t.2 5), .int .i64 (t.2 6), .int .i64 (t.2 7), .int .i64 (t.2 8), .int .i64 (t.2 9)]] w fun e w' => e = .returned (.bool (rightB t)) ∧ Below w.heap.size w w' := by
  have HB0 : Hid (Below w.heap.size w (boxT w t)) := boxT_below w t
  have K := isKind_any (t.2 0) (boxT w t)
  by_cases hk : 1 ≤ t.2 0 ∧ t.2 0 ≤ 4
  case neg =>
    have e : rightB t = false := by unfold rightB; rw [decide_eq_false hk, Bool.false_and]
    rw [e]
    rw [decide_eq_false hk] at K
    clear hk
    go_enter Tryd.func11, Tryd.ntmps11
    go_wp2_with fail
    refine K.mono ?_
    rintro e w1 ⟨rfl, rfl⟩
    go_wp2_with fail
    go_ret
    exact ⟨rfl, HB0.out⟩
  case pos =>
    have er : rightB t = ((rgt (listK (t.2 0)) true t).1 && zeroB (rgt (listK (t.2 0)) true t).2) := by unfold rightB; rw [decide_eq_true hk, Bool.true_and]
    rw [er]
    rw [decide_eq_true hk] at K
    have hR : RT ((boxT w t).alloc (.cells #[.bool true] 4)) w.heap.size (w.heap.size + 1) true t := by
      have b1 : Below (boxT w t).heap.size (boxT w t) ((boxT w t).alloc (.cells #[.bool true] 4)) := (Below.refl _ _).alloc (Nat.le_refl _) _
      have hz : (boxT w t).heap.size = w.heap.size + 1 := by simp
      refine ⟨(TellAt.box w t).still b1, ?_, ?_, by omega⟩
      · rw [← hz]; simp
      · rw [← hz]; simp
    have E := right_each (W := w) hR hk.1 hk.2 (HB0.out.alloc HB0.out.size _) (Nat.le_refl _) (by omega)
    obtain ⟨r0, u0, hg0⟩ : ∃ r0 u0, rgt (listK (t.2 0)) true t = (r0, u0) := ⟨_, _, rfl⟩
    rw [hg0]
    dsimp only
    rw [hg0] at E
    clear hk hR er hg0
    cases r0 with
    | false =>
      rw [Bool.false_and]
      go_enter Tryd.func11, Tryd.ntmps11
      go_wp2_with fail
      refine K.mono ?_
      rintro e w1 ⟨rfl, rfl⟩
      go_wp2_with fail
      refine E.mono ?_
      rintro e w2 ⟨r, u, rfl, R2, hg, hk0, B2⟩
      clear hk0
      simp only [Prod.mk.injEq] at hg
      obtain ⟨rfl, rfl⟩ := hg
      have HB2 : Hid (Below w.heap.size w w2) := B2
      have c0 := R2.cell
      obtain ⟨d0, d1, d2, d3, d4, d5, d6, d7, d8, d9⟩ := R2.at_.all
      clear E K R2 B2
      go_wp2_with fail
      go_ret
      exact ⟨rfl, HB2.out⟩
    | true =>
      have Q := fun w => tell_eq (u0.2 0) (u0.2 0) (u0.1 1) ⟨#[]⟩ (u0.1 2) ⟨#[]⟩ (u0.2 3) 0 (u0.2 4) 0 (u0.2 5) 0 (u0.2 6) 0 (u0.2 7) 0 (u0.2 8) 0 (u0.2 9) 0 w
      have ez : decide (u0.2 0 = u0.2 0 ∧ u0.1 1 = ⟨#[]⟩ ∧ u0.1 2 = ⟨#[]⟩ ∧ u0.2 3 = 0 ∧ u0.2 4 = 0 ∧ u0.2 5 = 0 ∧ u0.2 6 = 0 ∧ u0.2 7 = 0 ∧ u0.2 8 = 0 ∧ u0.2 9 = 0) = zeroB u0 := by
        unfold zeroB
        simp only [true_and]
      rw [ez] at Q
      rw [Bool.true_and]
      generalize zeroB u0 = z at *
      clear ez
      go_enter Tryd.func11, Tryd.ntmps11
      go_wp2_with fail
      refine K.mono ?_
      rintro e w1 ⟨rfl, rfl⟩
      go_wp2_with fail
      refine E.mono ?_
      rintro e w2 ⟨r, u, rfl, R2, hg, hk0, B2⟩
      clear hk0
      simp only [Prod.mk.injEq] at hg
      obtain ⟨rfl, rfl⟩ := hg
      have HB2 : Hid (Below w.heap.size w w2) := B2
      have c0 := R2.cell
      obtain ⟨d0, d1, d2, d3, d4, d5, d6, d7, d8, d9⟩ := R2.at_.all
      clear E K R2 B2
      go_wp2_with fail
      go_ret
      exact ⟨rfl, HB2.out⟩
end Go.Proofs.YtdacmhnniecmhaaDoor
