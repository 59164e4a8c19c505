/-
  Positions beside the document's list: what the list's entries come to is what the positions hold; a step of both.
-/
import Derived.Test.YtbmmokdccfajmaaPoRefMove
import Derived.Test.YtbmmokdccfajmaaPoWay
namespace Go.Proofs.Ytbmmokdccfajmaa.PO
open Go.ChangeShapes Go.WideShapes Go.ChangeAt Go.RowKit Go.Lib RU

/-- The list's n entries are executions of these positions, and come to them. -/
structure Rel (b : Pk) (X : Nat → Ex) (n : Nat) : Prop where
  good : Good b
  ok : ∀ i, i < n → okB b (X i).a (X i).s (X i).d (X i).q (X i).p = true
  q : ∀ a s d, hasB b a s = true → (d = 1 ∨ d = 2) → SQ X a s d n = vQ b a s d
  w : ∀ a s d, hasB b a s = true → (d = 1 ∨ d = 2) → SW X a s d n = vW b a s d
theorem Rel.fin {b : Pk} {X : Nat → Ex} {n : Nat} (h : Rel b X n) : ∀ i, i < n → Fin (X i) := fun i hi => by
  have o := (ok_iff _ _ _ _ _ _).1 (h.ok i hi)
  exact ⟨o.2.2.1, o.2.2.2⟩
theorem Rel.start {n m : Nat} (a1 : 1 ≤ n) (a2 : n ≤ 16) (s1 : 1 ≤ m) (s2 : m ≤ 16) (X : Nat → Ex) : Rel (newP n m) X 0 := ⟨new_good a1 a2 s1 s2, fun _ h => absurd h (by omega), fun _ _ _ _ _ => rfl, fun _ _ _ _ _ => rfl⟩
theorem sum_zero {g : Nat → Int} : ∀ {k : Nat}, (∀ i, i < k → g i = 0) → sumTo g k = 0
  | 0, _ => rfl
  | k + 1, h => by
    have h1 := sum_zero (g := g) (k := k) (fun i hi => h i (by omega))
    have h2 := h k (by omega)
    show sumTo g k + g k = 0
    omega
theorem mt_iff (x : Ex) (a s d : Int) : mt x a s d = true ↔ x.a = a ∧ x.s = s ∧ x.d = d := by simp [mt, and_assoc]
theorem Rel.none {b : Pk} {X : Nat → Ex} {n : Nat} (h : Rel b X n) {a s : Int} (hh : hasB b a s = false) (d : Int) {i : Nat} (hi : i < n) : mt (X i) a s d = false := by
  cases e : mt (X i) a s d
  · rfl
  · have m := (mt_iff _ _ _ _).1 e
    have o := (has_iff _ _ _).2 ((ok_iff _ _ _ _ _ _).1 (h.ok i hi)).1
    rw [m.1, m.2.1, hh] at o
    exact absurd o Bool.noConfusion
theorem Rel.told {b : Pk} {X : Nat → Ex} {n : Nat} (h : Rel b X n) (a s d : Int) (hd : d = 1 ∨ d = 2) : SQ X a s d n = toQ b a s d ∧ SW X a s d n = toW b a s d := by
  cases hh : hasB b a s
  · have t1 : toQ b a s d = 0 := by simp [toQ, hh]
    have t2 : toW b a s d = 0 := by simp [toW, hh]
    rw [t1, t2]
    exact ⟨sum_zero (fun i hi => by show sq a s d (X i) = 0; unfold sq; rw [h.none hh d hi]; rfl), sum_zero (fun i hi => by show sw a s d (X i) = 0; unfold sw; rw [h.none hh d hi]; rfl)⟩
  · have t1 : toQ b a s d = vQ b a s d := by simp [toQ, hh]
    have t2 : toW b a s d = vW b a s d := by simp [toW, hh]
    rw [t1, t2]
    exact ⟨h.q a s d hh hd, h.w a s d hh hd⟩
theorem SQ_more (X : Nat → Ex) (n : Nat) (x : Ex) (a s d : Int) : SQ (upd X n x) a s d (n + 1) = SQ X a s d n + sq a s d x := by
  show sumTo _ n + sq a s d (upd X n x n) = _
  rw [upd_same, sumTo_same (g := fun i => sq a s d (X i)) n (fun i hi => by show sq a s d (upd X n x i) = sq a s d (X i); rw [upd_other _ _ (by omega)])]
  rfl
theorem SW_more (X : Nat → Ex) (n : Nat) (x : Ex) (a s d : Int) : SW (upd X n x) a s d (n + 1) = SW X a s d n + sw a s d x := by
  show sumTo _ n + sw a s d (upd X n x n) = _
  rw [upd_same, sumTo_same (g := fun i => sw a s d (X i)) n (fun i hi => by show sw a s d (upd X n x i) = sw a s d (X i); rw [upd_other _ _ (by omega)])]
  rfl
theorem nxt_sg (x : Ex) (v z : Int) : nxt x.k v z = v + sg x z := by
  unfold nxt sg
  cases x.k <;> simp <;> omega
theorem has_same {b c : Pk} (h1 : c.nA = b.nA) (h2 : c.nS = b.nS) (a s : Int) : hasB c a s = hasB b a s := by unfold hasB; rw [h1, h2]
theorem ok_same {b c : Pk} (h1 : c.nA = b.nA) (h2 : c.nS = b.nS) (a s d q p : Int) : okB c a s d q p = okB b a s d q p := by unfold okB; rw [has_same h1 h2]
/-- What Move asks is what Fill and Bust ask. -/
theorem Rel.same {b : Pk} {X : Nat → Ex} {n : Nat} (h : Rel b X n) (x : Ex) (ho : okB b x.a x.s x.d x.q x.p = true) :
    chE b x.k x.a x.s x.d x.q x.p = if mayB (SQ (upd X n x) x.a x.s x.d (n + 1)) && mayB (SW (upd X n x) x.a x.s x.d (n + 1)) && mayB (x.q * x.p) then 0 else 10 := by
  have o := (ok_iff _ _ _ _ _ _).1 ho
  have hh := (has_iff _ _ _).2 o.1
  have m := mul_pos_le o.2.2.1.1 o.2.2.2.1
  obtain ⟨v1, v2⟩ := h.good.val hh o.2.1
  have mm : mt x x.a x.s x.d = true := (mt_iff _ _ _ _).2 ⟨rfl, rfl, rfl⟩
  rw [SQ_more, SW_more, h.q _ _ _ hh o.2.1, h.w _ _ _ hh o.2.1]
  unfold sq sw chE
  rw [mm, if_pos ho]
  simp only [if_true]
  generalize vQ b x.a x.s x.d = y1 at *
  generalize vW b x.a x.s x.d = y2 at *
  generalize x.q * x.p = z at *
  have hq := o.2.2.1
  unfold mayB badB sg
  cases x.k
  · simp only [Bool.false_eq_true, if_false, Bool.and_eq_true, Bool.or_eq_true, decide_eq_true_eq]
    by_cases c1 : 9223372036854775807 < z
    · rw [if_pos c1, if_neg (by omega)]
    · rw [if_neg c1]
      by_cases c2 : 9223372036854775807 < y1 + x.q ∨ 9223372036854775807 < y2 + z
      · rw [if_pos c2, if_neg (by omega)]
      · rw [if_neg c2, if_pos (by omega)]
  · simp only [if_true, Bool.and_eq_true, Bool.or_eq_true, decide_eq_true_eq]
    by_cases c1 : 9223372036854775807 < z
    · rw [if_pos c1, if_neg (by omega)]
    · rw [if_neg c1]
      by_cases c2 : y1 < x.q ∨ y2 < z
      · rw [if_pos c2, if_neg (by omega)]
      · rw [if_neg c2, if_pos (by omega)]
theorem pl_same {s s' d d' : Int} (h1 : 0 ≤ s) (h2 : 0 ≤ s') (hd : d = 1 ∨ d = 2) (hd' : d' = 1 ∨ d' = 2) : (pl s' d' = pl s d ↔ s = s' ∧ d = d') ∧ pl s' d' ≠ pl s d + 1 ∧ pl s' d' + 1 ≠ pl s d := by
  unfold pl
  omega
theorem Rel.next {b : Pk} {X : Nat → Ex} {n : Nat} (h : Rel b X n) (x : Ex) (e : chE b x.k x.a x.s x.d x.q x.p = 0) : Rel (chB b x.k x.a x.s x.d x.q x.p) (upd X n x) (n + 1) := by
  have hc := chE_ok e
  have o := (ok_iff _ _ _ _ _ _).1 hc.1
  have sz := ch_sizes b x.k x.a x.s x.d x.q x.p
  have hb : chB b x.k x.a x.s x.d x.q x.p = setP b x.a.toNat (pl x.s x.d) (nxt x.k (vQ b x.a x.s x.d) x.q) (nxt x.k (vW b x.a x.s x.d) (x.q * x.p)) := by unfold chB; rw [if_pos e]
  refine ⟨ch_good h.good _ _ _ _ _ _, fun i hi => ?_, fun a s d hh hd => ?_, fun a s d hh hd => ?_⟩
  · rw [ok_same sz.1 sz.2]
    by_cases e : i = n
    · subst e; rw [upd_same]; exact hc.1
    · rw [upd_other _ _ e]; exact h.ok i (by omega)
  · rw [has_same sz.1 sz.2] at hh
    have g := (has_iff _ _ _).1 hh
    have ps := pl_same (s := x.s) (s' := s) (d := x.d) (d' := d) o.1.2.2.1 g.2.2.1 o.2.1 hd
    rw [SQ_more, h.q a s d hh hd, hb]
    unfold vQ
    rw [setP_at]
    unfold sq
    by_cases c : mt x a s d = true
    · obtain ⟨m1, m2, m3⟩ := (mt_iff _ _ _ _).1 c
      rw [if_pos c, if_pos (by rw [m1]), if_neg ps.2.1, if_pos (ps.1.2 ⟨m2, m3⟩), nxt_sg]
      rw [m1, m2, m3]
    · rw [if_neg c]
      by_cases c1 : a.toNat = x.a.toNat
      · rw [if_pos c1, if_neg ps.2.1, if_neg (fun hp => c ((mt_iff _ _ _ _).2 ⟨by omega, (ps.1.1 hp).1, (ps.1.1 hp).2⟩)), c1]
        omega
      · rw [if_neg c1]; omega
  · rw [has_same sz.1 sz.2] at hh
    have g := (has_iff _ _ _).1 hh
    have ps := pl_same (s := x.s) (s' := s) (d := x.d) (d' := d) o.1.2.2.1 g.2.2.1 o.2.1 hd
    rw [SW_more, h.w a s d hh hd, hb]
    unfold vW
    rw [setP_at]
    unfold sw
    by_cases c : mt x a s d = true
    · obtain ⟨m1, m2, m3⟩ := (mt_iff _ _ _ _).1 c
      rw [if_pos c, if_pos (by rw [m1]), if_pos (by rw [ps.1.2 ⟨m2, m3⟩]), nxt_sg]
      rw [m1, m2, m3]
    · rw [if_neg c]
      by_cases c1 : a.toNat = x.a.toNat
      · rw [if_pos c1, if_neg (fun hp => c ((mt_iff _ _ _ _).2 ⟨by omega, (ps.1.1 (by omega)).1, (ps.1.1 (by omega)).2⟩)), if_neg ps.2.2, c1]
        omega
      · rw [if_neg c1]; omega
/-- A step of the document's list is a step of the positions. -/
theorem refMove_any {w : World} {base : Nat} {al : Option Addr} {n lc : Nat} {X : Nat → Ex} {b : Pk} (R : Rel b X n) (h : OwnE w base (.slice al n lc) n X) (h0 : n = 0 → Value.slice al n lc = .slice none 0 0) (hn : n ≤ 40) (hB : base ≤ w.heap.size) (a s d q p : Int) (k : Bool) :
    Calls Try.prog 8 #[.slice al n lc, .int .i64 (b.nA : Int), .int .i64 (b.nS : Int), .agg #[.int .i64 a, .int .i64 s, .int .i64 d, .int .i64 q, .int .i64 p, .bool k]] w fun e w' =>
      ∃ al' n' lc' X', e = .returned (.tuple #[.slice al' n' lc', .int .i64 (chE b k a s d q p)]) ∧ Below w.heap.size w w' ∧ OwnE w' base (.slice al' n' lc') n' X' ∧ (n' = 0 → Value.slice al' n' lc' = .slice none 0 0) ∧ n' ≤ n + 1 ∧ Rel (chB b k a s d q p) X' n' := by
  cases ho : okB b a s d q p
  · have e : chE b k a s d q p = 2 := by unfold chE; rw [ho]; rfl
    have e2 : chB b k a s d q p = b := by unfold chB; rw [e]; rfl
    rw [e, e2]
    refine (refMove_bad a s d q p k (fun hx => ?_)).mono ?_
    · have := (ok_iff b a s d q p).2 ⟨hx.1, by omega, hx.2.2⟩
      rw [ho] at this
      exact absurd this Bool.noConfusion
    · rintro e w' ⟨rfl, hb⟩
      exact ⟨al, n, lc, X, rfl, hb, own_below h hb, h0, by omega, R⟩
  · have o := (ok_iff b a s d q p).1 ho
    have sm := R.same ⟨a, s, d, q, p, k⟩ ho
    simp only at sm
    refine (refMove_good h h0 hn R.fin a s d q p k ⟨o.1, by omega, o.2.2⟩).mono ?_
    rintro e w' ⟨hb, hm⟩
    generalize (mayB (SQ (upd X n ⟨a, s, d, q, p, k⟩) a s d (n + 1)) && mayB (SW (upd X n ⟨a, s, d, q, p, k⟩) a s d (n + 1)) && mayB (q * p)) = C at *
    cases C
    · simp only [Bool.false_eq_true, if_false] at sm hm
      have e2 : chB b k a s d q p = b := by unfold chB; rw [sm]; rfl
      rw [sm, e2]
      exact ⟨al, n, lc, X, hm, hb, own_below h hb, h0, by omega, R⟩
    · simp only [if_true] at sm hm
      obtain ⟨v', rfl, hown⟩ := hm
      obtain ⟨al', lc', rfl⟩ := own_shape hown
      have RN := R.next ⟨a, s, d, q, p, k⟩ sm
      simp only at RN
      rw [sm]
      exact ⟨al', n + 1, lc', _, rfl, hb, Joins.ownsRow_le hown hB, fun h => absurd h (by omega), Nat.le_refl _, RN⟩
end Go.Proofs.Ytbmmokdccfajmaa.PO
