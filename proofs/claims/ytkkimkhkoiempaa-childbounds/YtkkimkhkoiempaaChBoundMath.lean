/-
  What is executed and what may still be: together never more than before but by a replace, and never more than the greatest quantity that was asked for.
-/
import Derived.Test.YtkkimkhkoiempaaChHap
namespace Go.Proofs.Ytkkimkhkoiempaa.CH
open Go.ChangeShapes Go.WideShapes Go.ChangeAt Go.RowKit Go.Lib MA

def sum (x : Ch) : Int := x.c + clm x
theorem clm_ge {x : Ch} (g : Good x) : 0 ≤ clm x := by
  by_cases h : x.st ≤ 5
  · rw [clm_op h g]
    by_cases e : x.st = 5
    · have := g.n5 e; omega
    · have := g.o (by omega); omega
  · rw [clm_dn (by omega)]; omega
theorem sum_op {x : Ch} (g : Good x) (h : x.st ≤ 5) : sum x = max x.q x.nq := by
  unfold sum
  rw [clm_op h g]
  omega
theorem sum_dn {x : Ch} (h : 6 ≤ x.st) : sum x = x.c := by
  unfold sum
  rw [clm_dn h]
  omega
theorem sum_le {x : Ch} (g : Good x) : sum x ≤ 1099511627776 ∧ 0 ≤ sum x := by
  have hc := g.c
  have hq := g.q
  have := clm_ge g
  by_cases h : x.st ≤ 5
  · have e := sum_op g h
    unfold sum at *
    by_cases k : x.st = 5
    · have := g.n5 k; omega
    · have := g.n0 k; omega
  · have e := sum_dn (x := x) (by omega)
    omega
theorem shut_zero {x : Ch} (h : opB x.st = false) : clm x = 0 := by
  unfold clm
  rw [h]
  rfl
theorem in_cases (x : Ch) (s v : Int) : (inn x s v).c = x.c ∧ (inn x s v).q = x.q ∧ (inn x s v).st = sta x s v ∧ ((sta x s v = 5 ∧ (inn x s v).nq = x.nq) ∨ (¬ sta x s v = 5 ∧ (inn x s v).nq = 0)) := by
  by_cases h : sta x s v = 5
  · rw [inn_5 h]; exact ⟨rfl, rfl, h.symm, .inl ⟨h, rfl⟩⟩
  · rw [inn_n rfl h]; exact ⟨rfl, rfl, rfl, .inr ⟨h, rfl⟩⟩
/-- It never grows but by a replace; by one it is the old one or what is asked for. -/
theorem sum_next {x : Ch} {v a b : Int} (g : Good x) (hv : Ev x v a) (e : hpE x v a b = 0) : (¬ v = 10 → sum (inn (bhd x v a b) (nS x.st v (bhd x v a b).c) v) ≤ sum x) ∧ (v = 10 → sum (inn (bhd x v a b) (nS x.st v (bhd x v a b).c) v) ≤ max (sum x) a) := by
  have gn := g.next hv e
  have f := hp_from g hv e
  generalize nS x.st v (bhd x v a b).c = t at *
  obtain ⟨c1, c2, c3, c4⟩ := in_cases (bhd x v a b) t v
  generalize inn (bhd x v a b) t v = y at *
  obtain ⟨f1, f2, f3, f4, f5, f6, f7, f8, f9, f10⟩ := f
  have hs := g.s
  have hc := g.c
  have hq := g.q
  have hx : (x.st ≤ 5 ∧ sum x = max x.q x.nq) ∨ (6 ≤ x.st ∧ sum x = x.c) := by
    by_cases h : x.st ≤ 5
    · exact .inl ⟨h, sum_op g h⟩
    · exact .inr ⟨by omega, sum_dn (by omega)⟩
  have hy : (y.st ≤ 5 ∧ sum y = max y.q y.nq) ∨ (6 ≤ y.st ∧ sum y = y.c) := by
    by_cases h : y.st ≤ 5
    · exact .inl ⟨h, sum_op gn h⟩
    · exact .inr ⟨by omega, sum_dn (by omega)⟩
  have hcl : clm x = 0 ∨ clm x = max x.q x.nq - x.c := by
    by_cases h : x.st ≤ 5
    · exact .inr (clm_op h g)
    · exact .inl (clm_dn (by omega))
  have hcp := clm_ge g
  have n5 := g.n5
  have n0 := g.n0
  have no := g.o
  rcases hv with hv | ⟨rfl, v1, v2⟩ | ⟨rfl, v1, v2⟩ | ⟨rfl, v1, v2⟩ | ⟨rfl, v1, v2⟩
  · have hv := ev_cases hv
    refine ⟨fun _ => ?_, fun e => by omega⟩
    rcases hv with rfl | rfl | rfl | rfl | rfl | rfl
    · rw [bhd_ev (by omega)] at *
      have := f1 rfl
      have e := sta_no (x := x) (s := t) (v := 1) (by omega)
      have := n0 (by omega)
      omega
    · rw [bhd_ev (by omega)] at *
      have := f2 rfl
      have e := sta_no (x := x) (s := t) (v := 2) (by omega)
      have k : sum x = x.c + clm x := rfl
      omega
    · rw [bhd_3] at *
      have := f3 rfl
      have e := sta_yes (x := ⟨x.id, x.ve, x.sd, x.st, x.nq, x.np, x.nq, x.np, x.c⟩) (s := t) (v := 3) (by omega)
      have := n5 this.1
      simp only at *
      omega
    · rw [bhd_ev (by omega)] at *
      have := f4 rfl
      have e := sta_no (x := x) (s := t) (v := 4) (by omega)
      have k : sum x = x.c + clm x := rfl
      omega
    · rw [bhd_ev (by omega)] at *
      have := f8 rfl
      have e := sta_yes (x := x) (s := t) (v := 8) (by omega)
      have k : sum x = x.c + clm x := rfl
      omega
    · rw [bhd_ev (by omega)] at *
      have := f9 rfl
      have e := sta_no (x := x) (s := t) (v := 9) (by omega)
      have := n0 (by omega)
      omega
  · rw [bhd_tr (.inl rfl)] at *
    have := f5 rfl
    have e := sta_no (x := ⟨x.id, x.ve, x.sd, x.st, x.q, x.p, x.nq, x.np, x.c + a⟩) (s := t) (v := 5) (by omega)
    refine ⟨fun _ => ?_, fun e => by omega⟩
    simp only at *
    by_cases k : x.st = 5
    · have := n5 k; omega
    · have := n0 k; omega
  · rw [bhd_tr (.inr rfl)] at *
    have := f6 rfl
    have e := sta_no (x := ⟨x.id, x.ve, x.sd, x.st, x.q, x.p, x.nq, x.np, x.c + a⟩) (s := t) (v := 6) (by omega)
    refine ⟨fun _ => ?_, fun e => by omega⟩
    simp only at *
    omega
  · rw [bhd_7] at *
    have := f7 rfl
    have e := sta_no (x := ⟨x.id, x.ve, x.sd, x.st, x.q - a, x.p, x.nq - a, x.np, x.c - a⟩) (s := t) (v := 7) (by omega)
    refine ⟨fun _ => ?_, fun e => by omega⟩
    simp only at *
    by_cases k : x.st = 5
    · have := n5 k; omega
    · have := n0 k
      have := fun k => no k
      by_cases k4 : x.st ≤ 4
      · have := no k4; omega
      · omega
  · rw [bhd_10] at *
    have := f10 rfl
    have e := sta_no (x := ⟨x.id, x.ve, x.sd, x.st, x.q, x.p, a, b, x.c⟩) (s := t) (v := 10) (by omega)
    refine ⟨fun e => by omega, fun _ => ?_⟩
    have := n0 (by omega)
    simp only at *
    omega
theorem sum_hp {x : Ch} {v a b : Int} (g : Good x) (hv : Ev x v a) : (¬ hpE x v a b = 0 → hpC x v a b = x) ∧ (¬ v = 10 → sum (hpC x v a b) ≤ sum x) ∧ (v = 10 → hpE x v a b = 0 → sum (hpC x v a b) ≤ max (sum x) a) := by
  unfold hpC
  by_cases e : hpE x v a b = 0
  · rw [if_pos e]
    have := sum_next g hv e
    exact ⟨fun k => absurd e k, this.1, fun k _ => this.2 k⟩
  · rw [if_neg e]
    exact ⟨fun _ => rfl, fun _ => Int.le_refl _, fun _ k => absurd k e⟩
/-- A step. -/
theorem sum_do {x : Ch} {k a b : Int} (g : Good x) : (¬ doE x k a b = 0 → doC x k a b = x) ∧ (¬ k = 10 → sum (doC x k a b) ≤ sum x) ∧ (k = 10 → doE x k a b = 0 → sum (doC x k a b) ≤ max (sum x) a) := by
  unfold doE doC
  by_cases h1 : evK k = true
  · rw [if_pos h1, if_pos h1]
    have := ev_cases h1
    have r := sum_hp (a := 0) (b := 0) g (.inl h1)
    exact ⟨r.1, r.2.1, fun e => by omega⟩
  rw [if_neg h1, if_neg h1]
  by_cases h5 : k = 5
  · rw [if_pos h5, if_pos h5]
    refine ⟨?_, ?_, fun e => by omega⟩
    · unfold trE trC
      by_cases t1 : a < 1
      · rw [if_pos t1, if_pos t1]; exact fun _ => rfl
      rw [if_neg t1, if_neg t1]
      cases ho : opB x.st
      · rw [if_pos rfl, if_pos rfl]; exact fun _ => rfl
      rw [if_neg (show ¬ (true = false) from Bool.noConfusion), if_neg (show ¬ (true = false) from Bool.noConfusion)]
      by_cases t2 : clm x < a
      · rw [if_pos t2, if_pos t2]; exact fun _ => rfl
      rw [if_neg t2, if_neg t2]
      exact (sum_hp g (tr_ev t1 t2)).1
    · intro _
      unfold trC
      by_cases t1 : a < 1
      · rw [if_pos t1]; exact Int.le_refl _
      rw [if_neg t1]
      cases ho : opB x.st
      · rw [if_pos rfl]; exact Int.le_refl _
      rw [if_neg (show ¬ (true = false) from Bool.noConfusion)]
      by_cases t2 : clm x < a
      · rw [if_pos t2]; exact Int.le_refl _
      rw [if_neg t2]
      refine (sum_hp g (tr_ev t1 t2)).2.1 ?_
      unfold trV
      by_cases e : a = clm x
      · rw [if_pos e]; omega
      · rw [if_neg e]; omega
  rw [if_neg h5, if_neg h5]
  by_cases h6 : k = 6
  · rw [if_pos h6, if_pos h6]
    unfold buE buC
    by_cases h : 1 ≤ a ∧ a ≤ x.c
    · rw [if_pos h, if_pos h]
      have r := sum_hp (b := 0) g (.inr (.inr (.inr (.inl ⟨rfl, h⟩))))
      exact ⟨r.1, fun _ => r.2.1 (by omega), fun e => by omega⟩
    · rw [if_neg h, if_neg h]
      exact ⟨fun _ => rfl, fun _ => Int.le_refl _, fun e => by omega⟩
  rw [if_neg h6, if_neg h6]
  by_cases h10 : k = 10
  · rw [if_pos h10, if_pos h10]
    unfold rpE rpC
    by_cases h : rpB x a b = true
    · rw [if_pos h, if_pos h]
      have r := sum_hp (b := b) g (.inr (.inr (.inr (.inr ⟨rfl, ((rp_iff x a b).1 h).1⟩))))
      exact ⟨r.1, fun e => absurd h10 e, fun _ => r.2.2 rfl⟩
    · rw [if_neg h, if_neg h]
      exact ⟨fun _ => rfl, fun e => absurd h10 e, fun _ e => absurd e (by omega)⟩
  · rw [if_neg h10, if_neg h10]
    exact ⟨fun _ => rfl, fun _ => Int.le_refl _, fun e => absurd e h10⟩
end Go.Proofs.Ytkkimkhkoiempaa.CH
