/-
  The reference's book in memory; contracts of its in, Used, fits, Reserve, Resize, Settle, Undo.
-/
import Derived.Test.YtcjdbfmglckdkaaRkBook
namespace Go.Proofs.Ytcjdbfmglckdkaa.RK
open Go.ChangeShapes Go.WideShapes Go.ChangeAt Go.RowKit Go.Lib

/-- The world holds at block q the reference's book: the limits that came in (the slice v), what was realised in block d, the slots in block r; all but the limits from block B on. -/
structure RMem (w : World) (B q d r : Nat) (v : Value) (b : Bk) : Prop where
  cL : w.cell? ⟨q, 0, none⟩ = some v
  cD : w.cell? ⟨q, 1, none⟩ = some (.slice (some ⟨d, 0, none⟩) b.nA b.nA)
  cH : ∃ hc, w.cell? ⟨q, 2, none⟩ = some (.slice (some ⟨r, 0, none⟩) b.nS hc) ∧ b.nS ≤ hc ∧ hc ≤ maxLen
  lim : ∃ lb lo lc, v = .slice (some ⟨lb, lo, none⟩) b.nA lc ∧ b.nA ≤ lc ∧ lc ≤ maxLen ∧ lb < B ∧ ∀ a, a < b.nA → w.cell? ⟨lb, lo + a, none⟩ = some (.int .i64 (b.L a))
  don : ∀ a, a < b.nA → w.cell? ⟨d, a, none⟩ = some (.int .i64 (b.D a))
  acc : ∀ i, i < b.nS → w.cell? ⟨r, i * 2, none⟩ = some (.int .i64 (slR (b.S i)))
  num : ∀ i, i < b.nS → w.cell? ⟨r, i * 2 + 1, none⟩ = some (.int .i64 (slN (b.S i)))
  thd : ∀ j, w.frozen? ⟨d, j, none⟩ = false
  thr : ∀ j, w.frozen? ⟨r, j, none⟩ = false
  dr : d ≠ r
  dq : d ≠ q
  rq : r ≠ q
  lq : B ≤ q
  ld : B ≤ d
  lr : B ≤ r
structure RefAt (w : World) (B q d r : Nat) (v : Value) (b : Bk) : Prop extends RMem w B q d r v b where
  good : Good b
theorem RefAt.qt {w : World} {B q d r : Nat} {v : Value} {b : Bk} (K : RefAt w B q d r v b) : q < w.heap.size := World.block_lt_of_cell? _ _ K.cD
theorem RefAt.dt {w : World} {B q d r : Nat} {v : Value} {b : Bk} (K : RefAt w B q d r v b) : d < w.heap.size := World.block_lt_of_cell? _ _ (K.don 0 K.good.a1)
theorem RefAt.rt {w : World} {B q d r : Nat} {v : Value} {b : Bk} (K : RefAt w B q d r v b) : r < w.heap.size := World.block_lt_of_cell? _ _ (K.acc 0 K.good.s1)
theorem RefAt.kept {w w' : World} {B q d r : Nat} {v : Value} {b : Bk} {T : Nat → Prop} (K : RefAt w B q d r v b) (k : But T w w') (hT : ∀ i, own q d r i → ¬ T i) (hB : ∀ i, i < B → ¬ T i) : RefAt w' B q d r v b := by
  have tq := hT q (.inl rfl)
  have td := hT d (.inr (.inl rfl))
  have tr := hT r (.inr (.inr rfl))
  obtain ⟨hc, e1, e2, e3⟩ := K.cH
  obtain ⟨lb, lo, lc, l1, l2, l3, l4, l5⟩ := K.lim
  exact ⟨⟨by rw [k.cell K.qt tq]; exact K.cL, by rw [k.cell K.qt tq]; exact K.cD, ⟨hc, by rw [k.cell K.qt tq]; exact e1, e2, e3⟩, ⟨lb, lo, lc, l1, l2, l3, l4, fun a ha => by rw [k.cell (World.block_lt_of_cell? _ _ (l5 a ha)) (hB _ l4)]; exact l5 a ha⟩, fun a ha => by rw [k.cell K.dt td]; exact K.don a ha, fun a ha => by rw [k.cell K.rt tr]; exact K.acc a ha, fun a ha => by rw [k.cell K.rt tr]; exact K.num a ha, fun j => by rw [k.frozen K.dt td]; exact K.thd j, fun j => by rw [k.frozen K.rt tr]; exact K.thr j, K.dr, K.dq, K.rq, K.lq, K.ld, K.lr⟩, K.good⟩
theorem RefAt.below {w w' : World} {B q d r : Nat} {v : Value} {b : Bk} (K : RefAt w B q d r v b) (k : Below w.heap.size w w') : RefAt w' B q d r v b :=
  K.kept (T := fun _ => False) (But.of_below k) (fun _ _ => id) (fun _ _ => id)
theorem RefAt.drewN {w : World} {B q d r : Nat} {v : Value} {b : Bk} (K : RefAt w B q d r v b) (m : Nat) : RefAt (w.drewN m) B q d r v b := K.below (below_drewN _ _ _)
/-- A slot of it holds another thing. -/
theorem RMem.slot {w : World} {B q d r : Nat} {v : Value} {b : Bk} (K : RMem w B q d r v b) (i : Nat) (x : Option (Nat × Int)) :
    RMem ((w.setCell ⟨r, i * 2, none⟩ (.int .i64 (slR x))).setCell ⟨r, i * 2 + 1, none⟩ (.int .i64 (slN x))) B q d r v (setS b i x) := by
  have hk : ∀ k o, k ≠ r → ((w.setCell ⟨r, i * 2, none⟩ (.int .i64 (slR x))).setCell ⟨r, i * 2 + 1, none⟩ (.int .i64 (slN x))).cell? ⟨k, o, none⟩ = w.cell? ⟨k, o, none⟩ := fun k o hk => by
    rw [World.cell?_setCell_other _ _ _ _ (by intro e; injection e with e1; exact hk e1.symm), World.cell?_setCell_other _ _ _ _ (by intro e; injection e with e1; exact hk e1.symm)]
  have ho : ∀ o, o ≠ i * 2 → o ≠ i * 2 + 1 → ((w.setCell ⟨r, i * 2, none⟩ (.int .i64 (slR x))).setCell ⟨r, i * 2 + 1, none⟩ (.int .i64 (slN x))).cell? ⟨r, o, none⟩ = w.cell? ⟨r, o, none⟩ := fun o h0 h1 => by
    rw [World.cell?_setCell_other _ _ _ _ (by intro e; injection e with _ e2; exact h1 e2.symm), World.cell?_setCell_other _ _ _ _ (by intro e; injection e with _ e2; exact h0 e2.symm)]
  obtain ⟨hc, e1, e2, e3⟩ := K.cH
  obtain ⟨lb, lo, lc, l1, l2, l3, l4, l5⟩ := K.lim
  have lne : lb ≠ r := by have := K.lr; omega
  refine ⟨by rw [hk _ _ (Ne.symm K.rq)]; exact K.cL, by rw [hk _ _ (Ne.symm K.rq)]; exact K.cD, ⟨hc, by rw [hk _ _ (Ne.symm K.rq)]; exact e1, e2, e3⟩, ⟨lb, lo, lc, l1, l2, l3, l4, fun a ha => by rw [hk _ _ lne]; exact l5 a ha⟩, fun a ha => by rw [hk _ _ K.dr]; exact K.don a ha, fun j hj => ?_, fun j hj => ?_, fun j => by rw [World.frozen?_setCell, World.frozen?_setCell]; exact K.thd j, fun j => by rw [World.frozen?_setCell, World.frozen?_setCell]; exact K.thr j, K.dr, K.dq, K.rq, K.lq, K.ld, K.lr⟩
  · show _ = some (Value.int .i64 (slR (upd b.S i x j)))
    by_cases e : j = i
    · subst e
      rw [upd_same, World.cell?_setCell_other _ _ _ _ (by simp)]
      exact World.cell?_setCell_same' _ _ _ (by rw [K.acc j hj]; rfl)
    · rw [upd_other _ _ e, ho _ (by omega) (by omega)]; exact K.acc j hj
  · show _ = some (Value.int .i64 (slN (upd b.S i x j)))
    by_cases e : j = i
    · subst e
      rw [upd_same]
      exact World.cell?_setCell_same' _ _ _ (by rw [World.cell?_setCell_other _ _ _ _ (by simp), K.num j hj]; rfl)
    · rw [upd_other _ _ e, ho _ (by omega) (by omega)]; exact K.num j hj
/-- Another sum was realised. -/
theorem RMem.done {w : World} {B q d r : Nat} {v : Value} {b : Bk} (K : RMem w B q d r v b) (a : Nat) (x : Int) :
    RMem (w.setCell ⟨d, a, none⟩ (.int .i64 x)) B q d r v (setD b a x) := by
  have hk : ∀ k o, k ≠ d → (w.setCell ⟨d, a, none⟩ (.int .i64 x)).cell? ⟨k, o, none⟩ = w.cell? ⟨k, o, none⟩ := fun k o hk => by
    rw [World.cell?_setCell_other _ _ _ _ (by intro e; injection e with e1; exact hk e1.symm)]
  obtain ⟨hc, e1, e2, e3⟩ := K.cH
  obtain ⟨lb, lo, lc, l1, l2, l3, l4, l5⟩ := K.lim
  have lne : lb ≠ d := by have := K.ld; omega
  refine ⟨by rw [hk _ _ (Ne.symm K.dq)]; exact K.cL, by rw [hk _ _ (Ne.symm K.dq)]; exact K.cD, ⟨hc, by rw [hk _ _ (Ne.symm K.dq)]; exact e1, e2, e3⟩, ⟨lb, lo, lc, l1, l2, l3, l4, fun a ha => by rw [hk _ _ lne]; exact l5 a ha⟩, fun c hc => ?_, fun j hj => by rw [hk _ _ (Ne.symm K.dr)]; exact K.acc j hj, fun j hj => by rw [hk _ _ (Ne.symm K.dr)]; exact K.num j hj, fun j => by rw [World.frozen?_setCell]; exact K.thd j, fun j => by rw [World.frozen?_setCell]; exact K.thr j, K.dr, K.dq, K.rq, K.lq, K.ld, K.lr⟩
  show _ = some (Value.int .i64 (upd b.D a x c))
  by_cases e : c = a
  · subst e
    rw [upd_same]
    exact World.cell?_setCell_same' _ _ _ (by rw [K.don c hc]; rfl)
  · rw [upd_other _ _ e, World.cell?_setCell_other _ _ _ _ (by intro e'; injection e' with _ e2; exact e e2.symm)]; exact K.don c hc
theorem but_two {S : Nat → Prop} {a w : World} (B : But S a w) (h i : Nat) (x y : Value) (hS : S h) : But S a ((w.setCell ⟨h, i * 2, none⟩ x).setCell ⟨h, i * 2 + 1, none⟩ y) :=
  But.setCell (But.setCell B h (i * 2) x (fun _ => hS)) h (i * 2 + 1) y (fun _ => hS)

theorem refIn_any (n lo hi : Int) (w : World) : Calls Try.prog 22 #[.int .i64 n, .int .i64 lo, .int .i64 hi] w fun e w' => e = .returned (.bool (decide (lo ≤ n) && decide (n ≤ hi))) ∧ w' = w := by
  by_cases h1 : lo ≤ n
  · rw [decide_eq_true h1, Bool.true_and]
    go_enter Try.func22, Try.ntmps22
    go_wp2
    go_ret
    exact ⟨rfl, rfl⟩
  · rw [decide_eq_false h1, Bool.false_and]
    go_enter Try.func22, Try.ntmps22
    go_wp2
    go_ret
    exact ⟨rfl, rfl⟩
theorem rInA (b : Bk) (a : Int) (w : World) : Calls Try.prog 22 #[.int .i64 a, .int .i64 0, .int .i64 ((b.nA : Int) - 1)] w fun e w' => e = .returned (.bool (hasA b a)) ∧ w' = w := by
  have := refIn_any a 0 ((b.nA : Int) - 1) w
  rw [show (decide (0 ≤ a) && decide (a ≤ (b.nA : Int) - 1)) = hasA b a by unfold hasA; congr 1; exact decide_eq_decide.2 (by omega)] at this
  exact this
theorem rInS (b : Bk) (a : Int) (w : World) : Calls Try.prog 22 #[.int .i64 a, .int .i64 0, .int .i64 ((b.nS : Int) - 1)] w fun e w' => e = .returned (.bool (hasS b a)) ∧ w' = w := by
  have := refIn_any a 0 ((b.nS : Int) - 1) w
  rw [show (decide (0 ≤ a) && decide (a ≤ (b.nS : Int) - 1)) = hasS b a by unfold hasS; congr 1; exact decide_eq_decide.2 (by omega)] at this
  exact this
theorem rInL (n : Int) (w : World) : Calls Try.prog 22 #[.int .i64 n, .int .i64 0, .int .i64 4611686018427387904] w fun e w' => e = .returned (.bool (inL n)) ∧ w' = w := refIn_any n 0 4611686018427387904 w
set_option maxRecDepth 100000 in
set_option maxHeartbeats 4000000 in
theorem rUsed_any {w : World} {B q d r : Nat} {v : Value} {b : Bk} (K : RefAt w B q d r v b) (a : Nat) (ha : a < b.nA) : Calls Try.prog 27 #[.pointer (some ⟨q, 0, none⟩), .int .i64 (a : Int)] w fun e w' => e = .returned (.int .i64 (used b a)) ∧ w' = w := by
  obtain ⟨hc, h1, g1, g2⟩ := K.cH
  unfold maxLen at g2
  have h0 := K.cD
  have c1 := K.don a ha
  have s2 := K.good.s2
  have a2 := K.good.a2
  have HK : Hid (RefAt w B q d r v b) := K
  have HZ : Hid (used b a = b.D a + part b a b.nS) := rfl
  obtain ⟨Z, hZ⟩ : ∃ Z, used b a = Z := ⟨_, rfl⟩
  rw [hZ] at HZ ⊢
  have hU : Hid (0 ≤ Z ∧ Z ≤ 4611686018427387904) := by
    have h2 := used_bounds K.good ha
    have h3 := K.good.l1 a ha
    rw [hZ] at h2
    exact ⟨h2.1, by omega⟩
  have hd := K.good.d0 a ha
  have t : (a : Int) < (b.nA : Int) := by omega
  have hp0 : Hid (b.D a + part b a 0 = b.D a) := by show b.D a + 0 = b.D a; omega
  clear K hZ
  go_enter Try.func27, Try.ntmps27
  go_wp2_with fail
  go_loopw [5, 6] (fun u c wr => ∃ k : Nat, u = .int .i64 (b.D a + part b a k) ∧ c = .int .i64 (k : Int) ∧ k ≤ b.nS ∧ wr = w) (fun _ c _ => b.nS - (RowKit.intOf c).toNat)
  case atStart => exact ⟨0, by rw [hp0.out], rfl, Nat.zero_le _, rfl⟩
  case round =>
    obtain ⟨k, rfl, rfl, hk, rfl⟩ := hrel
    by_cases hlt : k < b.nS
    · have t2 : (k : Int) < (b.nS : Int) := by omega
      have d0 := HK.out.acc k hlt
      have d1 := HK.out.num k hlt
      have q1 := part_bounds HK.out.good (a := a) (k := k) (by omega)
      have q2 := part_bounds HK.out.good (a := a) (k := k + 1) (by omega)
      have q4 : amt (b.S k) a = if slR (b.S k) = (a : Int) then slN (b.S k) else 0 := amt_ref _ _
      have HP : Hid (part b a (k + 1) = part b a k + amt (b.S k) a) := part_succ b a k
      have q5 := HP.out
      rw [q4] at q5
      have u1 := hU.out.2
      rw [HZ.out] at u1
      clear c1 h0
      by_cases e : slR (b.S k) = (a : Int)
      · rw [if_pos e] at q4 q5
        have HQ : Hid (part b a (k + 1) = part b a k + slN (b.S k)) := q5
        have r1 : 0 ≤ b.D a + part b a k := by omega
        have r2 : b.D a + part b a k + slN (b.S k) ≤ 4611686018427387904 := by omega
        have r3 : 0 ≤ slN (b.S k) := by have := amt_nonneg HK.out.good hlt a; rw [q4] at this; exact this
        rw [e] at d0
        clear q1 q2 q4 q5 u1 e HP
        obtain ⟨U, hu⟩ : ∃ U, Hid (b.D a + part b a k = U) := ⟨_, rfl⟩
        rw [hu.out] at r1 r2 ⊢
        generalize slN (b.S k) = y at *
        go_wp2_with fail
        go_roundw
        case rel => exact ⟨k + 1, by rw [HQ.out, ← hu.out, Int.add_assoc], by simp, by omega, trivial⟩
        case measure => simp [RowKit.intOf]; omega
      · rw [if_neg e] at q5
        have HQ : Hid (part b a (k + 1) = part b a k) := by show part b a (k + 1) = part b a k; rw [q5]; omega
        clear q1 q2 q4 q5 u1 HP
        generalize slN (b.S k) = y at *
        generalize slR (b.S k) = x at *
        go_wp2_with fail
        go_roundw
        case rel => exact ⟨k + 1, by rw [HQ.out], by simp, by omega, trivial⟩
        case measure => simp [RowKit.intOf]; omega
    · obtain rfl : k = b.nS := by omega
      have t2 : ¬ (b.nS : Int) < (b.nS : Int) := by omega
      clear c1 h0
      go_wp2_with fail
      go_ret
      exact ⟨by rw [HZ.out]; rfl, rfl⟩
set_option maxRecDepth 100000 in
set_option maxHeartbeats 4000000 in
theorem fits_any {w : World} {B q d r : Nat} {v : Value} {b : Bk} (K : RefAt w B q d r v b) (a : Nat) (ha : a < b.nA) (n : Int) : Calls Try.prog 32 #[.pointer (some ⟨q, 0, none⟩), .int .i64 (a : Int), .int .i64 n] w fun e w' => e = .returned (.bool (decide (n ≤ b.L a - used b a))) ∧ w' = w.drewN 1 := by
  obtain ⟨lb, lo, lc, rfl, l2, l3, l4, l5⟩ := K.lim
  unfold maxLen at l3
  have F := fun m => rUsed_any (K.drewN m) a ha
  have h0 := K.cL
  have c1 := l5 a ha
  have a2 := K.good.a2
  have t : (a : Int) < (b.nA : Int) := by omega
  have u := used_bounds K.good ha
  have u1 := u.1
  have u2 := u.2
  have u3 := K.good.l1 a ha
  clear K u l5
  generalize b.L a = x at *
  generalize used b a = y at *
  have hwr : IntKind.i64.wrap (x - y) = x - y := by rw [IntKind.wrap_i64]; omega
  go_enter Try.func32, Try.ntmps32
  go_wp2_with fail
  go_region_held3 (fun w' => w'.cell? ⟨q, 0, none⟩ = some (.slice (some ⟨lb, lo, none⟩) b.nA lc) ∧ w'.cell? ⟨lb, lo + a, none⟩ = some (.int .i64 x)) (go_keep) (first
    | (go_at_call 27; refine (F _).mono ?_; rintro e w2 ⟨rfl, rfl⟩))
  go_wp2_with fail
  go_ret
  exact ⟨by simp, rfl⟩
set_option maxRecDepth 100000 in
set_option maxHeartbeats 4000000 in
theorem rRes_any {w : World} {B q d r : Nat} {v : Value} {b : Bk} (K : RefAt w B q d r v b) (a s n : Int) : Calls Try.prog 23 #[.pointer (some ⟨q, 0, none⟩), .int .i64 a, .int .i64 s, .int .i64 n] w fun e w' => e = .returned (.int .i64 (resE b a s n)) ∧ RefAt w' B q d r v (resB b a s n) ∧ But (own q d r) w w' := by
  have F2 := rInA b a w
  have F3 := rInS b s w
  have F4 := rInL n w
  have HG : Hid (Good (resB b a s n)) := res_good K.good a s n
  have HK : Hid (RefAt w B q d r v b) := K
  obtain ⟨hc, h1, g1, g2⟩ := K.cH
  unfold maxLen at g2
  obtain ⟨lb, lo, lc, rfl, l2, l3, l4, _⟩ := K.lim
  unfold maxLen at l3
  have h0 := K.cL
  have a1 := K.good.a1
  have a2 := K.good.a2
  have s1 := K.good.s1
  have s2 := K.good.s2
  cases h2 : hasA b a
  · rw [h2] at F2
    have e1 : resE b a s n = 2 := by rw [resE, if_pos h2]
    have e2 : resB b a s n = b := by rw [resB, e1]; rfl
    rw [e1, e2]
    clear K HG e1 e2 h2
    go_enter Try.func23, Try.ntmps23
    go_wp2_with fail
    refine F2.mono ?_
    rintro e w1 ⟨rfl, rfl⟩
    go_wp2_with fail
    go_ret
    exact ⟨rfl, HK.out, But.refl _ _⟩
  cases h3 : hasS b s
  · rw [h2] at F2
    rw [h3] at F3
    have e1 : resE b a s n = 2 := by rw [resE, if_neg (by rw [h2]; decide), if_pos h3]
    have e2 : resB b a s n = b := by rw [resB, e1]; rfl
    rw [e1, e2]
    clear K HG e1 e2 h2 h3
    go_enter Try.func23, Try.ntmps23
    go_wp2_with fail
    refine F2.mono ?_
    rintro e w1 ⟨rfl, rfl⟩
    go_wp2_with fail
    refine F3.mono ?_
    rintro e w2 ⟨rfl, rfl⟩
    go_wp2_with fail
    go_ret
    exact ⟨rfl, HK.out, But.refl _ _⟩
  cases h4 : inL n
  · rw [h2] at F2
    rw [h3] at F3
    rw [h4] at F4
    have e1 : resE b a s n = 2 := by rw [resE, if_neg (by rw [h2]; decide), if_neg (by rw [h3]; decide), if_pos h4]
    have e2 : resB b a s n = b := by rw [resB, e1]; rfl
    rw [e1, e2]
    clear K HG e1 e2 h2 h3 h4
    go_enter Try.func23, Try.ntmps23
    go_wp2_with fail
    refine F2.mono ?_
    rintro e w1 ⟨rfl, rfl⟩
    go_wp2_with fail
    refine F3.mono ?_
    rintro e w2 ⟨rfl, rfl⟩
    go_wp2_with fail
    refine F4.mono ?_
    rintro e w3 ⟨rfl, rfl⟩
    go_wp2_with fail
    go_ret
    exact ⟨rfl, HK.out, But.refl _ _⟩
  rw [h4] at F4
  obtain ⟨i, rfl, hi⟩ := hasA_nat h2
  obtain ⟨j, rfl, hj⟩ := hasS_nat h3
  have E0 : resE b (i : Int) (j : Int) n = if (b.S j).isSome = true then 41 else if b.L i - used b i < n then 170 else 0 := by
    rw [resE, if_neg (by rw [h2]; decide), if_neg (by rw [h3]; decide), if_neg (by rw [h4]; decide), Int.toNat_natCast, Int.toNat_natCast]
  rw [h2] at F2
  rw [h3] at F3
  have t : (j : Int) < (b.nS : Int) := by omega
  have d1 := K.acc j hj
  have d2 := K.num j hj
  cases eS : b.S j with
  | some x =>
    rw [eS] at E0 d1
    replace E0 : resE b (i : Int) (j : Int) n = 41 := E0
    have e2 : resB b i j n = b := by rw [resB, E0]; rfl
    rw [E0, e2]
    replace d1 : w.cell? ⟨r, j * 2, none⟩ = some (.int .i64 (x.1 : Int)) := d1
    have p1 : (0 : Int) ≤ (x.1 : Int) := by omega
    clear K HG E0 e2 h2 h3 h4 d2 eS
    generalize (x.1 : Int) = y at *
    go_enter Try.func23, Try.ntmps23
    go_wp2_with fail
    refine F2.mono ?_
    rintro e w1 ⟨rfl, rfl⟩
    go_wp2_with fail
    refine F3.mono ?_
    rintro e w2 ⟨rfl, rfl⟩
    go_wp2_with fail
    refine F4.mono ?_
    rintro e w3 ⟨rfl, rfl⟩
    go_wp2_with fail
    go_ret
    exact ⟨rfl, HK.out, But.refl _ _⟩
  | none =>
    rw [eS] at E0 d1
    replace E0 : resE b (i : Int) (j : Int) n = if b.L i - used b i < n then 170 else 0 := E0
    replace d1 : w.cell? ⟨r, j * 2, none⟩ = some (.int .i64 (-1)) := d1
    have F6 := fits_any K i hi n
    have z0 := K.thr (j * 2)
    have z1 := K.thr (j * 2 + 1)
    by_cases h6 : b.L i - used b i < n
    · rw [if_pos h6] at E0
      have e2 : resB b i j n = b := by rw [resB, E0]; rfl
      rw [E0, e2]
      rw [decide_eq_false (by omega : ¬ n ≤ b.L i - used b i)] at F6
      clear K HG E0 e2 h2 h3 h4 h6 eS
      go_enter Try.func23, Try.ntmps23
      go_wp2_with fail
      refine F2.mono ?_
      rintro e w1 ⟨rfl, rfl⟩
      go_wp2_with fail
      refine F3.mono ?_
      rintro e w2 ⟨rfl, rfl⟩
      go_wp2_with fail
      refine F4.mono ?_
      rintro e w3 ⟨rfl, rfl⟩
      go_wp2_with fail
      refine F6.mono ?_
      rintro e w4 ⟨rfl, rfl⟩
      go_wp2_with fail
      go_ret
      exact ⟨rfl, HK.out.drewN 1, (But.refl _ _).drewN 1⟩
    · rw [if_neg h6] at E0
      have e2 : resB b i j n = setS b j (some (i, n)) := by rw [resB, E0]; rfl
      rw [e2] at HG
      rw [E0, e2]
      rw [decide_eq_true (by omega : n ≤ b.L i - used b i)] at F6
      clear K E0 e2 h2 h3 h4 h6 eS
      go_enter Try.func23, Try.ntmps23
      go_wp2_with fail
      refine F2.mono ?_
      rintro e w1 ⟨rfl, rfl⟩
      go_wp2_with fail
      refine F3.mono ?_
      rintro e w2 ⟨rfl, rfl⟩
      go_wp2_with fail
      refine F4.mono ?_
      rintro e w3 ⟨rfl, rfl⟩
      go_wp2_with fail
      refine F6.mono ?_
      rintro e w4 ⟨rfl, rfl⟩
      go_wp2_with fail
      go_ret
      exact ⟨rfl, ⟨(HK.out.drewN 1).toRMem.slot j (some (i, n)), HG.out⟩, but_two ((But.refl _ _).drewN 1) r j _ _ (.inr (.inr rfl))⟩
set_option maxRecDepth 100000 in
set_option maxHeartbeats 4000000 in
theorem rRsz_any {w : World} {B q d r : Nat} {v : Value} {b : Bk} (K : RefAt w B q d r v b) (s n : Int) : Calls Try.prog 24 #[.pointer (some ⟨q, 0, none⟩), .int .i64 s, .int .i64 n] w fun e w' => e = .returned (.int .i64 (rszE b s n)) ∧ RefAt w' B q d r v (rszB b s n) ∧ But (own q d r) w w' := by
  have F3 := rInS b s w
  have F4 := rInL n w
  have HG : Hid (Good (rszB b s n)) := rsz_good K.good s n
  have HK : Hid (RefAt w B q d r v b) := K
  obtain ⟨hc, h1, g1, g2⟩ := K.cH
  unfold maxLen at g2
  have s1 := K.good.s1
  have s2 := K.good.s2
  cases h3 : hasS b s
  · rw [h3] at F3
    have e1 : rszE b s n = 2 := by rw [rszE, if_pos h3]
    have e2 : rszB b s n = b := by rw [rszB, e1]; rfl
    rw [e1, e2]
    clear K HG e1 e2 h3
    go_enter Try.func24, Try.ntmps24
    go_wp2_with fail
    refine F3.mono ?_
    rintro e w1 ⟨rfl, rfl⟩
    go_wp2_with fail
    go_ret
    exact ⟨rfl, HK.out, But.refl _ _⟩
  cases h4 : inL n
  · rw [h3] at F3
    rw [h4] at F4
    have e1 : rszE b s n = 2 := by rw [rszE, if_neg (by rw [h3]; decide), if_pos h4]
    have e2 : rszB b s n = b := by rw [rszB, e1]; rfl
    rw [e1, e2]
    clear K HG e1 e2 h3 h4
    go_enter Try.func24, Try.ntmps24
    go_wp2_with fail
    refine F3.mono ?_
    rintro e w1 ⟨rfl, rfl⟩
    go_wp2_with fail
    refine F4.mono ?_
    rintro e w2 ⟨rfl, rfl⟩
    go_wp2_with fail
    go_ret
    exact ⟨rfl, HK.out, But.refl _ _⟩
  obtain ⟨n0, n1⟩ := inL_iff h4
  rw [h4] at F4
  obtain ⟨j, rfl, hj⟩ := hasS_nat h3
  have E0 : rszE b (j : Int) n = match b.S j with
    | none => 42
    | some x => if b.L x.1 - used b x.1 + x.2 < n then 170 else 0 := by
    rw [rszE, if_neg (by rw [h3]; decide), if_neg (by rw [h4]; decide), Int.toNat_natCast]; rfl
  rw [h3] at F3
  have t : (j : Int) < (b.nS : Int) := by omega
  have d1 := K.acc j hj
  have d2 := K.num j hj
  cases eS : b.S j with
  | none =>
    rw [eS] at E0 d1 d2
    replace E0 : rszE b (j : Int) n = 42 := E0
    have e2 : rszB b j n = b := by rw [rszB, E0]; rfl
    rw [E0, e2]
    replace d1 : w.cell? ⟨r, j * 2, none⟩ = some (.int .i64 (-1)) := d1
    replace d2 : w.cell? ⟨r, j * 2 + 1, none⟩ = some (.int .i64 0) := d2
    clear K HG E0 e2 h3 h4 eS
    go_enter Try.func24, Try.ntmps24
    go_wp2_with fail
    refine F3.mono ?_
    rintro e w1 ⟨rfl, rfl⟩
    go_wp2_with fail
    refine F4.mono ?_
    rintro e w2 ⟨rfl, rfl⟩
    go_wp2_with fail
    go_ret
    exact ⟨rfl, HK.out.below ((Below.refl _ _).alloc (Nat.le_refl _) _), But.of_below ((Below.refl _ _).alloc (Nat.le_refl _) _)⟩
  | some x =>
    obtain ⟨c, m⟩ := x
    rw [eS] at E0 d1 d2
    replace E0 : rszE b (j : Int) n = if b.L c - used b c + m < n then 170 else 0 := E0
    replace d1 : w.cell? ⟨r, j * 2, none⟩ = some (.int .i64 (c : Int)) := d1
    replace d2 : w.cell? ⟨r, j * 2 + 1, none⟩ = some (.int .i64 m) := d2
    obtain ⟨hcA, hm⟩ := K.good.s j hj c m eS
    have u0 := used_bounds K.good hcA
    have u1 := K.good.l1 c hcA
    have u2 := held_le K.good hj eS
    have u3 := K.good.d0 c hcA
    have u4 : used b c = b.D c + part b c b.nS := rfl
    have v1 : m ≤ 4611686018427387904 := by omega
    have p1 : ¬ (c : Int) < 0 := by omega
    have b0 := (Below.refl w.heap.size w).alloc (Nat.le_refl _) (.cells #[.int .i64 (c : Int), .int .i64 m] 56)
    have K1 := K.below b0
    have F6 := fits_any K1 c hcA (n - m)
    have HS : Hid (b.S j = some (c, m)) := eS
    have HB0 : Hid (Below w.heap.size w (w.alloc (.cells #[.int .i64 (c : Int), .int .i64 m] 56))) := b0
    have HK1 : Hid (RefAt (w.alloc (.cells #[.int .i64 (c : Int), .int .i64 m] 56)) B q d r v b) := K1
    have rl := K.rt
    have ql := K.qt
    clear u0 u1 u2 u3 u4 K K1
    by_cases h6 : b.L c - used b c + m < n
    · rw [if_pos h6] at E0
      have e2 : rszB b j n = b := by rw [rszB, E0]; rfl
      rw [E0, e2]
      rw [decide_eq_false (by omega : ¬ n - m ≤ b.L c - used b c)] at F6
      clear HG E0 e2 h3 h4 h6 eS b0
      go_enter Try.func24, Try.ntmps24
      go_wp2_with fail
      refine F3.mono ?_
      rintro e w1 ⟨rfl, rfl⟩
      go_wp2_with fail
      refine F4.mono ?_
      rintro e w2 ⟨rfl, rfl⟩
      go_wp2_with fail
      refine F6.mono ?_
      rintro e w3 ⟨rfl, rfl⟩
      go_wp2_with fail
      go_ret
      exact ⟨rfl, HK1.out.drewN 1, (But.of_below HB0.out).drewN 1⟩
    · rw [if_neg h6] at E0
      have e2 : rszB b j n = setS b j (some (c, n)) := by rw [rszB, E0, Int.toNat_natCast, eS]; rfl
      rw [e2] at HG
      rw [E0, e2]
      rw [decide_eq_true (by omega : n - m ≤ b.L c - used b c)] at F6
      have z0 := HK1.out.thr (j * 2)
      have z1 := HK1.out.thr (j * 2 + 1)
      clear E0 e2 h3 h4 h6 eS b0
      go_enter Try.func24, Try.ntmps24
      go_wp2_with fail
      refine F3.mono ?_
      rintro e w1 ⟨rfl, rfl⟩
      go_wp2_with fail
      refine F4.mono ?_
      rintro e w2 ⟨rfl, rfl⟩
      go_wp2_with fail
      refine F6.mono ?_
      rintro e w3 ⟨rfl, rfl⟩
      go_wp2_with fail
      go_region
      go_wp2_with fail
      go_ret
      exact ⟨rfl, ⟨(HK1.out.drewN 2).toRMem.slot j (some (c, n)), HG.out⟩, but_two ((But.of_below HB0.out).drewN 2) r j _ _ (.inr (.inr rfl))⟩
set_option maxRecDepth 100000 in
set_option maxHeartbeats 4000000 in
theorem rStl_any {w : World} {B q d r : Nat} {v : Value} {b : Bk} (K : RefAt w B q d r v b) (s n : Int) : Calls Try.prog 25 #[.pointer (some ⟨q, 0, none⟩), .int .i64 s, .int .i64 n] w fun e w' => e = .returned (.int .i64 (stlE b s n)) ∧ RefAt w' B q d r v (stlB b s n) ∧ But (own q d r) w w' := by
  have F3 := rInS b s w
  have HG : Hid (Good (stlB b s n)) := stl_good K.good s n
  have HK : Hid (RefAt w B q d r v b) := K
  obtain ⟨hc, h1, g1, g2⟩ := K.cH
  unfold maxLen at g2
  have s1 := K.good.s1
  have s2 := K.good.s2
  cases h3 : hasS b s
  · rw [h3] at F3
    have e1 : stlE b s n = 2 := by rw [stlE, if_pos h3]
    have e2 : stlB b s n = b := by rw [stlB, e1]; rfl
    rw [e1, e2]
    clear K HG e1 e2 h3
    go_enter Try.func25, Try.ntmps25
    go_wp2_with fail
    refine F3.mono ?_
    rintro e w1 ⟨rfl, rfl⟩
    go_wp2_with fail
    go_ret
    exact ⟨rfl, HK.out, But.refl _ _⟩
  by_cases h4 : n < 0
  · rw [h3] at F3
    have e1 : stlE b s n = 2 := by rw [stlE, if_neg (by rw [h3]; decide), if_pos h4]
    have e2 : stlB b s n = b := by rw [stlB, e1]; rfl
    rw [e1, e2]
    clear K HG e1 e2 h3
    go_enter Try.func25, Try.ntmps25
    go_wp2_with fail
    refine F3.mono ?_
    rintro e w1 ⟨rfl, rfl⟩
    go_wp2_with fail
    go_ret
    exact ⟨rfl, HK.out, But.refl _ _⟩
  obtain ⟨j, rfl, hj⟩ := hasS_nat h3
  have E0 : stlE b (j : Int) n = match b.S j with
    | none => 42
    | some x => if x.2 < n then 2 else 0 := by
    rw [stlE, if_neg (by rw [h3]; decide), if_neg h4, Int.toNat_natCast]; rfl
  rw [h3] at F3
  have t : (j : Int) < (b.nS : Int) := by omega
  have d1 := K.acc j hj
  have d2 := K.num j hj
  cases eS : b.S j with
  | none =>
    rw [eS] at E0 d1 d2
    replace E0 : stlE b (j : Int) n = 42 := E0
    have e2 : stlB b j n = b := by rw [stlB, E0]; rfl
    rw [E0, e2]
    replace d1 : w.cell? ⟨r, j * 2, none⟩ = some (.int .i64 (-1)) := d1
    replace d2 : w.cell? ⟨r, j * 2 + 1, none⟩ = some (.int .i64 0) := d2
    clear K HG E0 e2 h3 eS
    go_enter Try.func25, Try.ntmps25
    go_wp2_with fail
    refine F3.mono ?_
    rintro e w1 ⟨rfl, rfl⟩
    go_wp2_with fail
    go_ret
    exact ⟨rfl, HK.out.below ((Below.refl _ _).alloc (Nat.le_refl _) _), But.of_below ((Below.refl _ _).alloc (Nat.le_refl _) _)⟩
  | some x =>
    obtain ⟨c, m⟩ := x
    rw [eS] at E0 d1 d2
    replace E0 : stlE b (j : Int) n = if m < n then 2 else 0 := E0
    replace d1 : w.cell? ⟨r, j * 2, none⟩ = some (.int .i64 (c : Int)) := d1
    replace d2 : w.cell? ⟨r, j * 2 + 1, none⟩ = some (.int .i64 m) := d2
    obtain ⟨hcA, hm⟩ := K.good.s j hj c m eS
    have p1 : ¬ (c : Int) < 0 := by omega
    by_cases h6 : m < n
    · rw [if_pos h6] at E0
      have e2 : stlB b j n = b := by rw [stlB, E0]; rfl
      rw [E0, e2]
      clear HG E0 e2 h3 eS K
      go_enter Try.func25, Try.ntmps25
      go_wp2_with fail
      refine F3.mono ?_
      rintro e w1 ⟨rfl, rfl⟩
      go_wp2_with fail
      go_ret
      exact ⟨rfl, HK.out.below ((Below.refl _ _).alloc (Nat.le_refl _) _), But.of_below ((Below.refl _ _).alloc (Nat.le_refl _) _)⟩
    · rw [if_neg h6] at E0
      have e2 : stlB b j n = setS (setD b c (b.D c + n)) j none := by
        rw [stlB, E0, Int.toNat_natCast, eS]; rfl
      rw [e2] at HG
      rw [E0, e2]
      have u0 := used_bounds K.good hcA
      have u1 := K.good.l1 c hcA
      have u2 := held_le K.good hj eS
      have u3 := K.good.d0 c hcA
      have u4 : used b c = b.D c + part b c b.nS := rfl
      have v1 : b.D c + n ≤ 4611686018427387904 := by omega
      have v3 : 0 ≤ n := by omega
      have h0 := K.cD
      have a2 := K.good.a2
      have tc : (c : Int) < (b.nA : Int) := by omega
      have r1 := K.don c hcA
      have z0 := K.thr (j * 2)
      have z1 := K.thr (j * 2 + 1)
      have z3 := K.thd c
      have ndr : ¬ d = r := K.dr
      have nrd : ¬ r = d := fun e => K.dr e.symm
      have nrq : ¬ r = q := K.rq
      have rl := K.rt
      have ql := K.qt
      have dl := K.dt
      clear u0 u1 u2 u4 K E0 e2 h3 eS
      obtain ⟨y, hy⟩ : ∃ y, Hid (b.D c = y) := ⟨_, rfl⟩
      rw [hy.out] at r1 v1 u3
      have hwr : IntKind.i64.wrap (y + n) = y + n := by rw [IntKind.wrap_i64]; omega
      go_enter Try.func25, Try.ntmps25
      go_wp2_with fail
      refine F3.mono ?_
      rintro e w1 ⟨rfl, rfl⟩
      go_wp2_with fail
      go_region
      go_wp2_with fail
      go_ret
      refine ⟨rfl, RefAt.below (w := ((w1.setCell ⟨r, j * 2, none⟩ (.int .i64 (-1))).setCell ⟨r, j * 2 + 1, none⟩ (.int .i64 0)).setCell ⟨d, c, none⟩ (.int .i64 (y + n))) ⟨?_, HG.out⟩ (below_more ((Below.refl _ _).alloc (Nat.le_refl _) _) 1), ?_⟩
      · have := (HK.out.toRMem.slot j none).done c (b.D c + n)
        rw [hy.out] at this ⊢
        exact this
      · exact ((But.setCell (S := own q d r) (but_two (But.refl _ w1) r j _ _ (.inr (.inr rfl))) d c _ (fun _ => .inr (.inl rfl))).alloc _).drewN 1
set_option maxRecDepth 100000 in
set_option maxHeartbeats 4000000 in
theorem rUnd_any {w : World} {B q d r : Nat} {v : Value} {b : Bk} (K : RefAt w B q d r v b) (a n : Int) : Calls Try.prog 26 #[.pointer (some ⟨q, 0, none⟩), .int .i64 a, .int .i64 n] w fun e w' => e = .returned (.int .i64 (undE b a n)) ∧ RefAt w' B q d r v (undB b a n) ∧ But (own q d r) w w' := by
  have F3 := rInA b a w
  have HG : Hid (Good (undB b a n)) := und_good K.good a n
  have HK : Hid (RefAt w B q d r v b) := K
  obtain ⟨lb, lo, lc, rfl, l2, l3, l4, _⟩ := K.lim
  unfold maxLen at l3
  have h0 := K.cL
  have a1 := K.good.a1
  have a2 := K.good.a2
  cases h3 : hasA b a
  · rw [h3] at F3
    have e1 : undE b a n = 2 := by rw [undE, if_pos h3]
    have e2 : undB b a n = b := by rw [undB, e1]; rfl
    rw [e1, e2]
    clear K HG e1 e2 h3
    go_enter Try.func26, Try.ntmps26
    go_wp2_with fail
    refine F3.mono ?_
    rintro e w1 ⟨rfl, rfl⟩
    go_wp2_with fail
    go_ret
    exact ⟨rfl, HK.out, But.refl _ _⟩
  obtain ⟨i, rfl, hi⟩ := hasA_nat h3
  have F4 := refIn_any n 0 (b.D i) w
  have h1 := K.cD
  have t : (i : Int) < (b.nA : Int) := by omega
  have r1 := K.don i hi
  have E0 : undE b (i : Int) n = if (decide (0 ≤ n) && decide (n ≤ b.D i)) = true then 0 else 2 := by
    rw [undE, if_neg (by rw [h3]; decide), Int.toNat_natCast]
    by_cases q1 : n < 0
    · rw [if_pos q1, if_neg (by simp; omega)]
    · rw [if_neg q1]
      by_cases q2 : b.D i < n
      · rw [if_pos q2, if_neg (by simp; omega)]
      · rw [if_neg q2, if_pos (by simp; omega)]
  rw [h3] at F3
  cases h4 : (decide (0 ≤ n) && decide (n ≤ b.D i))
  · rw [h4] at F4
    rw [if_neg (by rw [h4]; decide)] at E0
    have e2 : undB b i n = b := by rw [undB, E0]; rfl
    rw [E0, e2]
    clear K HG E0 e2 h3 h4
    go_enter Try.func26, Try.ntmps26
    go_wp2_with fail
    refine F3.mono ?_
    rintro e w1 ⟨rfl, rfl⟩
    go_wp2_with fail
    refine F4.mono ?_
    rintro e w2 ⟨rfl, rfl⟩
    go_wp2_with fail
    go_ret
    exact ⟨rfl, HK.out, But.refl _ _⟩
  · rw [h4] at F4
    rw [if_pos h4] at E0
    have e2 : undB b i n = setD b i (b.D i - n) := by rw [undB, E0]; rfl
    rw [e2] at HG
    rw [E0, e2]
    have q' := h4
    simp only [Bool.and_eq_true, decide_eq_true_eq] at q'
    have q1 := q'.1
    have q2 := q'.2
    have u0 := used_bounds K.good hi
    have u1 := K.good.l1 i hi
    have u2 := (part_bounds K.good (a := i) (k := b.nS) (Nat.le_refl _)).1
    have u4 : used b i = b.D i + part b i b.nS := rfl
    have v1 : b.D i ≤ 4611686018427387904 := by omega
    have z3 := K.thd i
    clear u0 u1 u2 u4 K E0 e2 h3 h4 q'
    obtain ⟨y, hy⟩ : ∃ y, Hid (b.D i = y) := ⟨_, rfl⟩
    rw [hy.out] at r1 v1 q2 F4
    go_enter Try.func26, Try.ntmps26
    go_wp2_with fail
    refine F3.mono ?_
    rintro e w1 ⟨rfl, rfl⟩
    go_wp2_with fail
    refine F4.mono ?_
    rintro e w2 ⟨rfl, rfl⟩
    go_wp2_with fail
    go_ret
    refine ⟨rfl, ⟨?_, HG.out⟩, But.setCell (S := own q d r) (But.refl _ _) d i _ (fun _ => .inr (.inl rfl))⟩
    have := HK.out.toRMem.done i (b.D i - n)
    rw [hy.out] at this ⊢
    exact this
end Go.Proofs.Ytcjdbfmglckdkaa.RK
