/-
  Layer 21, the plain mathematics: an order at a venue, what each call answers and what is behind it, what it always keeps to.
-/
import Derived.Test.YtkkimkhkoiempaaMaMath
namespace Go.Proofs.Ytkkimkhkoiempaa.CH
open Go.ChangeShapes Go.WideShapes Go.ChangeAt Go.RowKit MA

/-- An order at a venue: name, venue, side, state, quantity, price, those of a replace under way, how much is executed. -/
structure Ch where
  id : ByteArray
  ve : ByteArray
  sd : Int
  st : Int
  q : Int
  p : Int
  nq : Int
  np : Int
  c : Int
/-- How much may still be executed. -/
def clm (x : Ch) : Int := if opB x.st = true then max x.q x.nq - x.c else 0
/-- What is told behind an event, but for the state. -/
def bhd (x : Ch) (v a b : Int) : Ch :=
  if v = 5 ∨ v = 6 then ⟨x.id, x.ve, x.sd, x.st, x.q, x.p, x.nq, x.np, x.c + a⟩
  else if v = 7 then ⟨x.id, x.ve, x.sd, x.st, x.q - a, x.p, x.nq - a, x.np, x.c - a⟩
  else if v = 10 then ⟨x.id, x.ve, x.sd, x.st, x.q, x.p, a, b, x.c⟩
  else if v = 3 then ⟨x.id, x.ve, x.sd, x.st, x.nq, x.np, x.nq, x.np, x.c⟩
  else x
/-- The state that counts: what is behind an answer may be filled. -/
def sta (x : Ch) (s v : Int) : Int := if (v = 3 ∨ v = 8) ∧ x.q ≤ x.c then 6 else s
/-- What is told in the state behind an event. -/
def inn (x : Ch) (s v : Int) : Ch :=
  if sta x s v = 5 then ⟨x.id, x.ve, x.sd, 5, x.q, x.p, x.nq, x.np, x.c⟩
  else ⟨x.id, x.ve, x.sd, sta x s v, x.q, x.p, 0, 0, x.c⟩
/-- An event: its answer, the child behind it. -/
def hpE (x : Ch) (v a b : Int) : Int := nE x.st v (bhd x v a b).c
def hpC (x : Ch) (v a b : Int) : Ch := if hpE x v a b = 0 then inn (bhd x v a b) (nS x.st v (bhd x v a b).c) v else x
/-- The event of an execution. -/
def trV (x : Ch) (a : Int) : Int := if a = clm x then 6 else 5
def trE (x : Ch) (a : Int) : Int := if a < 1 then 2 else if opB x.st = false then 200 else if clm x < a then 3 else hpE x (trV x a) a 0
def trC (x : Ch) (a : Int) : Ch := if a < 1 then x else if opB x.st = false then x else if clm x < a then x else hpC x (trV x a) a 0
def buE (x : Ch) (a : Int) : Int := if 1 ≤ a ∧ a ≤ x.c then hpE x 7 a 0 else 2
def buC (x : Ch) (a : Int) : Ch := if 1 ≤ a ∧ a ≤ x.c then hpC x 7 a 0 else x
def rpB (x : Ch) (a b : Int) : Bool := (decide (x.c < a) && decide (a ≤ 1099511627776)) && (decide (1 ≤ b) && decide (b ≤ 1099511627776))
theorem rp_iff (x : Ch) (a b : Int) : rpB x a b = true ↔ (x.c < a ∧ a ≤ 1099511627776) ∧ 1 ≤ b ∧ b ≤ 1099511627776 := by
  unfold rpB
  simp only [Bool.and_eq_true, decide_eq_true_eq]
def rpE (x : Ch) (a b : Int) : Int := if rpB x a b = true then hpE x 10 a b else 2
def rpC (x : Ch) (a b : Int) : Ch := if rpB x a b = true then hpC x 10 a b else x
/-- A step: an event that executes nothing, an execution, one that is taken back, a replace. -/
def evK (k : Int) : Bool := k == 1 || (k == 2 || (k == 3 || (k == 4 || (k == 8 || k == 9))))
theorem ev_cases {k : Int} (h : evK k = true) : k = 1 ∨ k = 2 ∨ k = 3 ∨ k = 4 ∨ k = 8 ∨ k = 9 := by
  simpa only [evK, Bool.or_eq_true, beq_iff_eq] using h
theorem ev_not {k : Int} (h : evK k = false) : ¬ k = 1 ∧ ¬ k = 2 ∧ ¬ k = 3 ∧ ¬ k = 4 ∧ ¬ k = 8 ∧ ¬ k = 9 := by
  simpa only [evK, Bool.or_eq_false_iff, beq_eq_false_iff_ne, ne_eq] using h
def doE (x : Ch) (k a b : Int) : Int := if evK k = true then hpE x k 0 0 else if k = 5 then trE x a else if k = 6 then buE x a else if k = 10 then rpE x a b else 0
def doC (x : Ch) (k a b : Int) : Ch := if evK k = true then hpC x k 0 0 else if k = 5 then trC x a else if k = 6 then buC x a else if k = 10 then rpC x a b else x
/-- What a child always keeps to. -/
structure Good (x : Ch) : Prop where
  s : 1 ≤ x.st ∧ x.st ≤ 8
  c : 0 ≤ x.c ∧ x.c ≤ 1099511627776
  q : x.q ≤ 1099511627776 ∧ x.c - 1099511627776 ≤ x.q
  n5 : x.st = 5 → (x.nq ≤ 1099511627776 ∧ x.c - 1099511627776 ≤ x.nq) ∧ (x.nq - x.q ≤ 1099511627776 ∧ x.q - x.nq ≤ 1099511627776) ∧ (x.c < x.q ∨ x.c < x.nq)
  n0 : ¬ x.st = 5 → x.nq = 0 ∧ x.np = 0
  o : x.st ≤ 4 → x.c < x.q
/-- With what an event may be told. -/
def Ev (x : Ch) (v a : Int) : Prop := evK v = true ∨ (v = 5 ∧ 1 ≤ a ∧ a < clm x) ∨ (v = 6 ∧ 1 ≤ a ∧ a = clm x) ∨ (v = 7 ∧ 1 ≤ a ∧ a ≤ x.c) ∨ (v = 10 ∧ x.c < a ∧ a ≤ 1099511627776)
/-- The table, a place of it. -/
theorem tab {s v c t : Int} (hs : 1 ≤ s ∧ s ≤ 8) (hv : 1 ≤ v ∧ v ≤ 10) (hc : 0 ≤ c) (ht : tb s v = t) : nS s v c = pk t s (bk c) ∧ nE s v c = pe t := by
  rw [← ht]
  exact n_ok hs hv hc
theorem bk_of {c : Int} (h : 0 ≤ c) : (c = 0 ∧ bk c = 2) ∨ (0 < c ∧ bk c = 3) := by
  unfold bk
  by_cases k : 0 < c
  · rw [if_pos k]; exact .inr ⟨k, rfl⟩
  · rw [if_neg k]; exact .inl ⟨by omega, rfl⟩
/-- Which state is behind which. -/
def From (s v t : Int) : Prop :=
  (v = 1 → (s = 1 ∧ t = 2) ∨ (s = 3 ∧ t = 3) ∨ (s = 4 ∧ t = 4)) ∧ (v = 2 → s ≤ 5 ∧ t = 7) ∧ (v = 3 → s = 5 ∧ (t = 2 ∨ t = 3)) ∧ (v = 4 → s ≤ 4 ∧ t = 8) ∧
  (v = 5 → (s ≤ 2 ∧ t = 3) ∨ (3 ≤ s ∧ s ≤ 5 ∧ t = s)) ∧ (v = 6 → s ≤ 5 ∧ t = 6) ∧ (v = 7 → (s = 3 ∧ (t = 2 ∨ t = 3)) ∨ (¬ s = 3 ∧ s ≤ 7 ∧ t = s)) ∧
  (v = 8 → (s = 4 ∨ s = 5) ∧ (t = 2 ∨ t = 3)) ∧ (v = 9 → s ≤ 3 ∧ t = 4) ∧ (v = 10 → (s = 2 ∨ s = 3) ∧ t = 5)
theorem from_tab {s v c : Int} (hs : 1 ≤ s ∧ s ≤ 8) (hv : 1 ≤ v ∧ v ≤ 10) (hc : 0 ≤ c) (h : nE s v c = 0) : From s v (nS s v c) := by
  have hb := bk_or c
  obtain ⟨e1, e2⟩ := n_ok hs hv hc
  rw [e2] at h
  rw [e1]
  rcases (show s = 1 ∨ s = 2 ∨ s = 3 ∨ s = 4 ∨ s = 5 ∨ s = 6 ∨ s = 7 ∨ s = 8 by omega) with rfl | rfl | rfl | rfl | rfl | rfl | rfl | rfl <;>
    rcases (show v = 1 ∨ v = 2 ∨ v = 3 ∨ v = 4 ∨ v = 5 ∨ v = 6 ∨ v = 7 ∨ v = 8 ∨ v = 9 ∨ v = 10 by omega) with rfl | rfl | rfl | rfl | rfl | rfl | rfl | rfl | rfl | rfl <;>
    first
    | exact absurd h (by decide)
    | (clear h; unfold From; simp [tb, rws, pk]; try omega)
theorem ev_range {x : Ch} {v a : Int} (h : Ev x v a) : 1 ≤ v ∧ v ≤ 10 := by
  rcases h with h | h | h | h | h
  · have := ev_cases h; omega
  all_goals omega
theorem clm_op {x : Ch} (h : x.st ≤ 5) (g : Good x) : clm x = max x.q x.nq - x.c := by
  unfold clm
  rw [if_pos (by unfold opB; rw [Bool.and_eq_true, decide_eq_true_eq, decide_eq_true_eq]; exact ⟨g.s.1, h⟩)]
theorem clm_dn {x : Ch} (h : 6 ≤ x.st) : clm x = 0 := by
  unfold clm
  rw [if_neg (by unfold opB; rw [Bool.and_eq_true, decide_eq_true_eq, decide_eq_true_eq]; omega)]
theorem op_iff {x : Ch} (g : Good x) : opB x.st = true ↔ x.st ≤ 5 := by
  unfold opB
  rw [Bool.and_eq_true, decide_eq_true_eq, decide_eq_true_eq]
  have := g.s.1
  exact ⟨fun h => h.2, fun h => ⟨this, h⟩⟩
theorem bhd_ev {x : Ch} {v a b : Int} (h : v = 1 ∨ v = 2 ∨ v = 4 ∨ v = 8 ∨ v = 9) : bhd x v a b = x := by
  unfold bhd
  rw [if_neg (by omega), if_neg (by omega), if_neg (by omega), if_neg (by omega)]
theorem bhd_3 {x : Ch} {a b : Int} : bhd x 3 a b = ⟨x.id, x.ve, x.sd, x.st, x.nq, x.np, x.nq, x.np, x.c⟩ := by
  unfold bhd
  rw [if_neg (by omega), if_neg (by omega), if_neg (by omega), if_pos rfl]
theorem bhd_tr {x : Ch} {v a b : Int} (h : v = 5 ∨ v = 6) : bhd x v a b = ⟨x.id, x.ve, x.sd, x.st, x.q, x.p, x.nq, x.np, x.c + a⟩ := by
  unfold bhd
  rw [if_pos h]
theorem bhd_7 {x : Ch} {a b : Int} : bhd x 7 a b = ⟨x.id, x.ve, x.sd, x.st, x.q - a, x.p, x.nq - a, x.np, x.c - a⟩ := by
  unfold bhd
  rw [if_neg (by omega), if_pos rfl]
theorem bhd_10 {x : Ch} {a b : Int} : bhd x 10 a b = ⟨x.id, x.ve, x.sd, x.st, x.q, x.p, a, b, x.c⟩ := by
  unfold bhd
  rw [if_neg (by omega), if_neg (by omega), if_pos rfl]
theorem bhd_c {x : Ch} {v a b : Int} (g : Good x) (h : Ev x v a) : 0 ≤ (bhd x v a b).c := by
  have hc := g.c.1
  rcases h with h | h | h | h | h
  · have := ev_cases h
    by_cases e : v = 3
    · subst e; rw [bhd_3]; exact hc
    · rw [bhd_ev (by omega)]; exact hc
  · rw [bhd_tr (.inl h.1)]; show 0 ≤ x.c + a; omega
  · rw [bhd_tr (.inr h.1)]; show 0 ≤ x.c + a; omega
  · obtain ⟨rfl, h1, h2⟩ := h; rw [bhd_7]; show 0 ≤ x.c - a; omega
  · obtain ⟨rfl, h1, h2⟩ := h; rw [bhd_10]; exact hc
theorem hp_from {x : Ch} {v a b : Int} (g : Good x) (h : Ev x v a) (e : hpE x v a b = 0) : From x.st v (nS x.st v (bhd x v a b).c) :=
  from_tab g.s (ev_range h) (bhd_c g h) e
theorem Good.in_no {x : Ch} {s v : Int} (h : ¬ sta x s v = 5) (h1 : 1 ≤ sta x s v ∧ sta x s v ≤ 8) (h2 : 0 ≤ x.c ∧ x.c ≤ 1099511627776) (h3 : x.q ≤ 1099511627776 ∧ x.c - 1099511627776 ≤ x.q) (h4 : sta x s v ≤ 4 → x.c < x.q) : Good (inn x s v) := by
  unfold inn
  rw [if_neg h]
  exact ⟨h1, h2, h3, fun e => absurd e h, fun _ => ⟨rfl, rfl⟩, h4⟩
theorem Good.in_yes {x : Ch} {s v : Int} (h : sta x s v = 5) (h2 : 0 ≤ x.c ∧ x.c ≤ 1099511627776) (h3 : x.q ≤ 1099511627776 ∧ x.c - 1099511627776 ≤ x.q) (h4 : (x.nq ≤ 1099511627776 ∧ x.c - 1099511627776 ≤ x.nq) ∧ (x.nq - x.q ≤ 1099511627776 ∧ x.q - x.nq ≤ 1099511627776) ∧ (x.c < x.q ∨ x.c < x.nq)) : Good (inn x s v) := by
  unfold inn
  rw [if_pos h]
  exact ⟨by show (1 : Int) ≤ 5 ∧ (5 : Int) ≤ 8; omega, h2, h3, fun _ => h4, fun e => absurd rfl e, fun e => absurd e (by show ¬ ((5 : Int) ≤ 4); omega)⟩
theorem sta_no {x : Ch} {s v : Int} (h : ¬ v = 3 ∧ ¬ v = 8) : sta x s v = s := by
  unfold sta
  rw [if_neg (by omega)]
theorem sta_yes {x : Ch} {s v : Int} (h : v = 3 ∨ v = 8) : (x.q ≤ x.c ∧ sta x s v = 6) ∨ (x.c < x.q ∧ sta x s v = s) := by
  unfold sta
  by_cases e : x.q ≤ x.c
  · rw [if_pos ⟨h, e⟩]; exact .inl ⟨e, rfl⟩
  · rw [if_neg (fun k => e k.2)]; exact .inr ⟨by omega, rfl⟩
/-- Behind what may happen it keeps to the same. -/
theorem Good.next {x : Ch} {v a b : Int} (g : Good x) (hv : Ev x v a) (h : hpE x v a b = 0) : Good (inn (bhd x v a b) (nS x.st v (bhd x v a b).c) v) := by
  have f := hp_from g hv h
  clear h
  generalize nS x.st v (bhd x v a b).c = t at *
  obtain ⟨hs, hc, hq, h5, h0, ho⟩ := g
  have hcl : x.st ≤ 5 → clm x = max x.q x.nq - x.c := fun e => by unfold clm; rw [if_pos (by unfold opB; rw [Bool.and_eq_true, decide_eq_true_eq, decide_eq_true_eq]; exact ⟨hs.1, e⟩)]
  obtain ⟨f1, f2, f3, f4, f5, f6, f7, f8, f9, f10⟩ := f
  rcases hv with hv | ⟨rfl, v1, v2⟩ | ⟨rfl, v1, v2⟩ | ⟨rfl, v1, v2⟩ | ⟨rfl, v1, v2⟩
  · have hv := ev_cases hv
    rcases hv with rfl | rfl | rfl | rfl | rfl | rfl
    · rw [bhd_ev (by omega)]
      have := f1 rfl
      have e := sta_no (x := x) (s := t) (v := 1) (by omega)
      exact .in_no (by omega) (by omega) hc hq (fun _ => ho (by omega))
    · rw [bhd_ev (by omega)]
      have := f2 rfl
      have e := sta_no (x := x) (s := t) (v := 2) (by omega)
      exact .in_no (by omega) (by omega) hc hq (fun _ => by omega)
    · rw [bhd_3]
      have := f3 rfl
      have := h5 this.1
      have e := sta_yes (x := ⟨x.id, x.ve, x.sd, x.st, x.nq, x.np, x.nq, x.np, x.c⟩) (s := t) (v := 3) (by omega)
      exact .in_no (by omega) (by omega) hc (by show x.nq ≤ _ ∧ x.c - _ ≤ x.nq; omega) (fun _ => by simp only at *; omega)
    · rw [bhd_ev (by omega)]
      have := f4 rfl
      have e := sta_no (x := x) (s := t) (v := 4) (by omega)
      exact .in_no (by omega) (by omega) hc hq (fun _ => by omega)
    · rw [bhd_ev (by omega)]
      have := f8 rfl
      have e := sta_yes (x := x) (s := t) (v := 8) (by omega)
      exact .in_no (by omega) (by omega) hc hq (fun _ => by omega)
    · rw [bhd_ev (by omega)]
      have := f9 rfl
      have e := sta_no (x := x) (s := t) (v := 9) (by omega)
      exact .in_no (by omega) (by omega) hc hq (fun _ => ho (by omega))
  · rw [bhd_tr (.inl rfl)]
    have f5 := f5 rfl
    rw [hcl (by omega)] at v2
    have e := sta_no (x := ⟨x.id, x.ve, x.sd, x.st, x.q, x.p, x.nq, x.np, x.c + a⟩) (s := t) (v := 5) (by omega)
    by_cases k : x.st = 5
    · have := h5 k
      exact .in_yes (by omega) (by simp only; omega) (by simp only; omega) (by simp only; omega)
    · have := h0 k
      have := ho (by omega)
      exact .in_no (by omega) (by omega) (by simp only; omega) (by simp only; omega) (fun _ => by simp only; omega)
  · rw [bhd_tr (.inr rfl)]
    have f6 := f6 rfl
    rw [hcl (by omega)] at v2
    have e := sta_no (x := ⟨x.id, x.ve, x.sd, x.st, x.q, x.p, x.nq, x.np, x.c + a⟩) (s := t) (v := 6) (by omega)
    by_cases k : x.st = 5
    · have := h5 k
      exact .in_no (by omega) (by omega) (by simp only; omega) (by simp only; omega) (fun _ => by omega)
    · have := h0 k
      have := ho (by omega)
      exact .in_no (by omega) (by omega) (by simp only; omega) (by simp only; omega) (fun _ => by omega)
  · rw [bhd_7]
    have f7 := f7 rfl
    have e := sta_no (x := ⟨x.id, x.ve, x.sd, x.st, x.q - a, x.p, x.nq - a, x.np, x.c - a⟩) (s := t) (v := 7) (by omega)
    by_cases k : x.st = 5
    · have := h5 k
      exact .in_yes (by omega) (by simp only; omega) (by simp only; omega) (by simp only; omega)
    · exact .in_no (by omega) (by omega) (by simp only; omega) (by simp only; omega) (fun _ => by have := ho (by omega); simp only; omega)
  · rw [bhd_10]
    have f10 := f10 rfl
    have := ho (by omega)
    have e := sta_no (x := ⟨x.id, x.ve, x.sd, x.st, x.q, x.p, a, b, x.c⟩) (s := t) (v := 10) (by omega)
    exact .in_yes (by omega) (by simp only; omega) (by simp only; omega) (by simp only; omega)
theorem Good.hp {x : Ch} {v a b : Int} (g : Good x) (hv : Ev x v a) : Good (hpC x v a b) := by
  unfold hpC
  by_cases e : hpE x v a b = 0
  · rw [if_pos e]; exact g.next hv e
  · rw [if_neg e]; exact g
theorem tr_ev {x : Ch} {a : Int} (h1 : ¬ a < 1) (h2 : ¬ clm x < a) : Ev x (trV x a) a := by
  unfold trV
  by_cases e : a = clm x
  · rw [if_pos e]; exact .inr (.inr (.inl ⟨rfl, by omega, e⟩))
  · rw [if_neg e]; exact .inr (.inl ⟨rfl, by omega, by omega⟩)
theorem Good.tr {x : Ch} {a : Int} (g : Good x) : Good (trC x a) := by
  unfold trC
  by_cases h1 : a < 1
  · rw [if_pos h1]; exact g
  rw [if_neg h1]
  cases h2 : opB x.st
  · rw [if_pos rfl]; exact g
  rw [if_neg (by exact Bool.noConfusion)]
  by_cases h3 : clm x < a
  · rw [if_pos h3]; exact g
  · rw [if_neg h3]; exact g.hp (tr_ev h1 h3)
theorem Good.bu {x : Ch} {a : Int} (g : Good x) : Good (buC x a) := by
  unfold buC
  by_cases h1 : 1 ≤ a ∧ a ≤ x.c
  · rw [if_pos h1]; exact g.hp (.inr (.inr (.inr (.inl ⟨rfl, h1⟩))))
  · rw [if_neg h1]; exact g
theorem Good.rp {x : Ch} {a b : Int} (g : Good x) : Good (rpC x a b) := by
  unfold rpC
  by_cases h1 : rpB x a b = true
  · rw [if_pos h1]; exact g.hp (.inr (.inr (.inr (.inr ⟨rfl, ((rp_iff x a b).1 h1).1⟩))))
  · rw [if_neg h1]; exact g
theorem Good.step {x : Ch} {k a b : Int} (g : Good x) : Good (doC x k a b) := by
  unfold doC
  by_cases h1 : evK k = true
  · rw [if_pos h1]; exact g.hp (.inl h1)
  rw [if_neg h1]
  by_cases h2 : k = 5
  · rw [if_pos h2]; exact g.tr
  rw [if_neg h2]
  by_cases h3 : k = 6
  · rw [if_pos h3]; exact g.bu
  rw [if_neg h3]
  by_cases h4 : k = 10
  · rw [if_pos h4]; exact g.rp
  · rw [if_neg h4]; exact g
/-- A child that was sent. -/
def newC (id ve : ByteArray) (sd q p : Int) : Ch := ⟨id, ve, sd, 1, q, p, 0, 0, 0⟩
theorem Good.start {id ve : ByteArray} {sd q p : Int} (h : 1 ≤ q ∧ q ≤ 1099511627776) : Good (newC id ve sd q p) :=
  ⟨by show (1 : Int) ≤ 1 ∧ (1 : Int) ≤ 8; omega, by show (0 : Int) ≤ 0 ∧ (0 : Int) ≤ _; omega, by show q ≤ _ ∧ (0 : Int) - _ ≤ q; omega, fun e => absurd e (by show ¬ ((1 : Int) = 5); omega), fun _ => ⟨rfl, rfl⟩, fun _ => by show (0 : Int) < q; omega⟩
end Go.Proofs.Ytkkimkhkoiempaa.CH
