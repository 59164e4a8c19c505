/-
  What the reference makes of a child, in plain words, is what the program makes of it.
-/
import Derived.Test.YtkkimkhkoiempaaChRef
namespace Go.Proofs.Ytkkimkhkoiempaa.CH
open Go.ChangeShapes Go.WideShapes Go.ChangeAt Go.RowKit Go.Lib MA

theorem dn_iff (s : Int) : dnB s = true ↔ 6 ≤ s ∧ s ≤ 8 := by
  unfold dnB
  rw [Bool.and_eq_true, decide_eq_true_eq, decide_eq_true_eq]
theorem rk_dn {y : Ch} (h : 6 ≤ y.st ∧ y.st ≤ 8) : rkC y = ⟨y.id, y.ve, y.sd, y.st, y.q, y.p, 0, 0, y.c⟩ ∧ rkM y = 0 := by
  have h := (dn_iff y.st).2 h
  unfold rkC rkM
  rw [if_pos h, if_pos h]
  exact ⟨rfl, rfl⟩
theorem rk_op {y : Ch} (h : y.st ≤ 5) : rkC y = y ∧ rkM y = if y.st = 5 ∧ y.q < y.nq then y.nq - y.c else y.q - y.c := by
  have h : ¬ dnB y.st = true := fun e => by have := (dn_iff y.st).1 e; omega
  unfold rkC rkM
  rw [if_neg h, if_neg h]
  exact ⟨rfl, rfl⟩
/-- Of a child that keeps to it nothing is changed, and the claim is the claim. -/
theorem rk_good {y : Ch} (g : Good y) : rkC y = y ∧ rkM y = clm y := by
  have hs := g.s
  by_cases h : y.st ≤ 5
  · refine ⟨(rk_op h).1, ?_⟩
    rw [(rk_op h).2, clm_op h g]
    by_cases h5 : y.st = 5
    · by_cases hq : y.q < y.nq
      · rw [if_pos ⟨h5, hq⟩]; omega
      · rw [if_neg (fun e => hq e.2)]; omega
    · rw [if_neg (fun e => h5 e.1)]
      have := g.n0 h5
      have := g.o (by omega)
      have := g.c
      omega
  · have h0 := g.n0 (by omega)
    refine ⟨?_, by rw [(rk_dn (by omega)).2, clm_dn (by omega)]⟩
    rw [(rk_dn (by omega)).1, ← h0.1]
    obtain ⟨id, ve, sd, st, q, p, nq, np, c⟩ := y
    simp only at h0 ⊢
    rw [h0.1, h0.2]
/-- What is left out of the table is 200. -/
theorem hp_200 {x : Ch} {v a b : Int} (g : Good x) (h : Ev x v a) (e : ¬ hpE x v a b = 0) : hpE x v a b = 200 := by
  have h2 := (n_ok g.s (ev_range h) (bhd_c (b := b) g h)).2
  unfold hpE at e ⊢
  rw [h2] at e ⊢
  unfold pe at e ⊢
  by_cases t : tb x.st v = 0
  · rw [if_pos t]
  · rw [if_neg t] at e; exact absurd rfl e
theorem hpC_ok {x : Ch} {v a b : Int} (e : hpE x v a b = 0) : hpC x v a b = inn (bhd x v a b) (nS x.st v (bhd x v a b).c) v := if_pos e
theorem hpC_no {x : Ch} {v a b : Int} (e : ¬ hpE x v a b = 0) : hpC x v a b = x := if_neg e
/-- With a state. -/
def wS (x : Ch) (s : Int) : Ch := ⟨x.id, x.ve, x.sd, s, x.q, x.p, x.nq, x.np, x.c⟩
/-- With a state, and with no replace. -/
def wZ (x : Ch) (s : Int) : Ch := ⟨x.id, x.ve, x.sd, s, x.q, x.p, 0, 0, x.c⟩
/-- What an event that executes nothing makes of a child: 1, 2, 4, 9. -/
theorem ev_plain {x : Ch} {v : Int} (g : Good x) (hv : v = 1 ∨ v = 2 ∨ v = 4 ∨ v = 9) (e : hpE x v 0 0 = 0) : rkC (wS x (nS x.st v x.c)) = hpC x v 0 0 ∧ rkM (wS x (nS x.st v x.c)) = clm (hpC x v 0 0) := by
  have hE : Ev x v 0 := .inl (by rcases hv with rfl | rfl | rfl | rfl <;> rfl)
  have f := hp_from g hE e
  have gn := g.next hE e
  rw [hpC_ok e]
  rw [bhd_ev (by omega)] at f gn ⊢
  generalize nS x.st v x.c = t at *
  have hst : sta x t v = t := sta_no (by omega)
  obtain ⟨f1, f2, f3, f4, f5, f6, f7, f8, f9, f10⟩ := f
  have h5 : ¬ t = 5 := by rcases hv with rfl | rfl | rfl | rfl <;> simp at * <;> omega
  rw [inn_n hst h5] at gn ⊢
  by_cases d : 6 ≤ t
  · have r := rk_dn (y := wS x t) ⟨d, gn.s.2⟩
    exact ⟨r.1, by rw [r.2, clm_dn d]⟩
  · have hx : ¬ x.st = 5 := by rcases hv with rfl | rfl | rfl | rfl <;> simp at * <;> omega
    have h0 := g.n0 hx
    have e1 : wS x t = ⟨x.id, x.ve, x.sd, t, x.q, x.p, 0, 0, x.c⟩ := by unfold wS; rw [h0.1, h0.2]
    rw [e1]
    exact rk_good gn
/-- 8: an answer that was refused. -/
theorem ev_8 {x : Ch} (g : Good x) (e : hpE x 8 0 0 = 0) : rkC (wZ x (sta x (nS x.st 8 x.c) 8)) = hpC x 8 0 0 ∧ rkM (wZ x (sta x (nS x.st 8 x.c) 8)) = clm (hpC x 8 0 0) := by
  have hE : Ev x 8 0 := .inl rfl
  have f := (hp_from g hE e).2.2.2.2.2.2.2.1 rfl
  have gn := g.next hE e
  rw [hpC_ok e]
  rw [bhd_ev (by omega)] at f gn ⊢
  generalize nS x.st 8 x.c = t at *
  have h5 : ¬ sta x t 8 = 5 := by have := sta_yes (x := x) (s := t) (v := 8) (by omega); omega
  rw [inn_n rfl h5] at gn ⊢
  exact rk_good gn
/-- 3: a replace that was made. -/
theorem ev_3 {x : Ch} (g : Good x) (e : hpE x 3 0 0 = 0) : rkC (wZ (bhd x 3 0 0) (sta (bhd x 3 0 0) (nS x.st 3 x.c) 3)) = hpC x 3 0 0 ∧ rkM (wZ (bhd x 3 0 0) (sta (bhd x 3 0 0) (nS x.st 3 x.c) 3)) = clm (hpC x 3 0 0) := by
  have hE : Ev x 3 0 := .inl rfl
  have f := (hp_from g hE e).2.2.1 rfl
  have gn := g.next hE e
  rw [hpC_ok e]
  have hc : (bhd x 3 0 0).c = x.c := by rw [bhd_3]
  rw [hc] at f gn ⊢
  generalize nS x.st 3 x.c = t at *
  have h5 : ¬ sta (bhd x 3 0 0) t 3 = 5 := by have := sta_yes (x := bhd x 3 0 0) (s := t) (v := 3) (by omega); omega
  rw [inn_n rfl h5] at gn ⊢
  exact rk_good gn
/-- 10: a replace that is sent: nothing of it is known yet; then it is. -/
theorem ev_10 {x : Ch} {a b : Int} (g : Good x) (h : x.c < a ∧ a ≤ 1099511627776) (e : hpE x 10 a b = 0) : nS x.st 10 x.c = 5 ∧ rkC (wS x 5) = wS x 5 ∧ rkC ⟨x.id, x.ve, x.sd, 5, x.q, x.p, a, b, x.c⟩ = hpC x 10 a b ∧ rkM ⟨x.id, x.ve, x.sd, 5, x.q, x.p, a, b, x.c⟩ = clm (hpC x 10 a b) := by
  have hE : Ev x 10 a := .inr (.inr (.inr (.inr ⟨rfl, h⟩)))
  have f := (hp_from g hE e).2.2.2.2.2.2.2.2.2 rfl
  have gn := g.next hE e
  rw [hpC_ok e]
  have hc : (bhd x 10 a b).c = x.c := by rw [bhd_10]
  rw [hc] at f gn ⊢
  rw [f.2] at gn ⊢
  have hst : sta (bhd x 10 a b) 5 10 = 5 := sta_no (by omega)
  rw [inn_5 hst, bhd_10] at gn ⊢
  exact ⟨rfl, (rk_op (by show (5 : Int) ≤ 5; omega)).1, rk_good gn⟩
/-- An execution. -/
theorem tr_zero {x : Ch} {a : Int} (g : Good x) (ho : opB x.st = true) (h1 : ¬ a < 1) (h2 : ¬ clm x < a) : hpE x (trV x a) a 0 = 0 := by
  have hs := (op_iff g).1 ho
  have hE := tr_ev h1 h2
  have hc := bhd_c (b := 0) g hE
  unfold hpE
  rw [(n_ok g.s (ev_range hE) hc).2]
  have hv : trV x a = 5 ∨ trV x a = 6 := by
    unfold trV
    by_cases e : a = clm x
    · rw [if_pos e]; exact .inr rfl
    · rw [if_neg e]; exact .inl rfl
  have hs1 := g.s.1
  rcases hv with e | e <;> rw [e] <;> rcases (show x.st = 1 ∨ x.st = 2 ∨ x.st = 3 ∨ x.st = 4 ∨ x.st = 5 by omega) with h | h | h | h | h <;> rw [h] <;> rfl
theorem tr_ref {x : Ch} {a : Int} (g : Good x) (ho : opB x.st = true) (h1 : ¬ a < 1) (h2 : ¬ clm x < a) (y : Ch) (hy : y = ⟨x.id, x.ve, x.sd, nS x.st (trV x a) (x.c + a), x.q, x.p, x.nq, x.np, x.c + a⟩) : rkC y = hpC x (trV x a) a 0 ∧ rkM y = clm (hpC x (trV x a) a 0) := by
  have e := tr_zero g ho h1 h2
  have hE := tr_ev h1 h2
  have f := hp_from g hE e
  have gn := g.next hE e
  rw [hpC_ok e]
  have hv : trV x a = 5 ∨ trV x a = 6 := by
    unfold trV
    by_cases e : a = clm x
    · rw [if_pos e]; exact .inr rfl
    · rw [if_neg e]; exact .inl rfl
  have hc : (bhd x (trV x a) a 0).c = x.c + a := by rw [bhd_tr hv]
  rw [hc] at f gn ⊢
  rw [bhd_tr hv] at gn ⊢
  generalize trV x a = v at *
  generalize nS x.st v (x.c + a) = t at *
  obtain ⟨f1, f2, f3, f4, f5, f6, f7, f8, f9, f10⟩ := f
  subst hy
  have hst : sta ⟨x.id, x.ve, x.sd, x.st, x.q, x.p, x.nq, x.np, x.c + a⟩ t v = t := sta_no (by omega)
  by_cases h5 : t = 5
  · subst h5
    rw [inn_5 hst] at gn ⊢
    exact rk_good gn
  · rw [inn_n hst h5] at gn ⊢
    by_cases d : 6 ≤ t
    · have r := rk_dn (y := ⟨x.id, x.ve, x.sd, t, x.q, x.p, x.nq, x.np, x.c + a⟩) ⟨d, gn.s.2⟩
      exact ⟨r.1, by rw [r.2, clm_dn d]⟩
    · have hx : ¬ x.st = 5 := by rcases hv with rfl | rfl <;> simp at * <;> omega
      have h0 := g.n0 hx
      rw [h0.1, h0.2]
      exact rk_good gn
/-- One that is taken back. -/
theorem bu_ref {x : Ch} {a : Int} (g : Good x) (h : 1 ≤ a ∧ a ≤ x.c) (e : hpE x 7 a 0 = 0) (y : Ch) (hy : y = ⟨x.id, x.ve, x.sd, nS x.st 7 (x.c - a), x.q - a, x.p, if nS x.st 7 (x.c - a) = 5 then x.nq - a else x.nq, x.np, x.c - a⟩) : rkC y = hpC x 7 a 0 ∧ rkM y = clm (hpC x 7 a 0) := by
  have hE : Ev x 7 a := .inr (.inr (.inr (.inl ⟨rfl, h⟩)))
  have f := (hp_from g hE e).2.2.2.2.2.2.1 rfl
  have gn := g.next hE e
  rw [hpC_ok e]
  have hc : (bhd x 7 a 0).c = x.c - a := by rw [bhd_7]
  rw [hc] at f gn ⊢
  rw [bhd_7] at gn ⊢
  generalize nS x.st 7 (x.c - a) = t at *
  subst hy
  have hst : sta ⟨x.id, x.ve, x.sd, x.st, x.q - a, x.p, x.nq - a, x.np, x.c - a⟩ t 7 = t := sta_no (by omega)
  by_cases h5 : t = 5
  · subst h5
    rw [inn_5 hst] at gn ⊢
    rw [if_pos rfl]
    exact rk_good gn
  · rw [inn_n hst h5] at gn ⊢
    have h0 := g.n0 (by omega)
    rw [if_neg h5, h0.1, h0.2]
    exact rk_good gn
end Go.Proofs.Ytkkimkhkoiempaa.CH
