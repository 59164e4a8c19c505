/-
  A book in memory; contracts of risk's within, made, hasAccount, hasSlot, holds, Used, Realised, Left, Held.
-/
import Derived.Test.YtcjdbfmglckdkaaRkMath
namespace Go.Proofs.Ytcjdbfmglckdkaa.RK
open Go.ChangeShapes Go.WideShapes Go.ChangeAt Go.RowKit Go.Lib

/-- The world holds at block p a book: its accounts lie in block g, its slots in block h, all from block B on. -/
structure Mem (w : World) (B p g h : Nat) (b : Bk) : Prop where
  cA : w.cell? ⟨p, 0, none⟩ = some (.slice (some ⟨g, 0, none⟩) b.nA b.nA)
  cS : w.cell? ⟨p, 1, none⟩ = some (.slice (some ⟨h, 0, none⟩) b.nS b.nS)
  lim : ∀ a, a < b.nA → w.cell? ⟨g, a * 2, none⟩ = some (.int .i64 (b.L a))
  rea : ∀ a, a < b.nA → w.cell? ⟨g, a * 2 + 1, none⟩ = some (.int .i64 (b.D a))
  acc : ∀ i, i < b.nS → w.cell? ⟨h, i * 3, none⟩ = some (.int .i64 (slA (b.S i)))
  num : ∀ i, i < b.nS → w.cell? ⟨h, i * 3 + 1, none⟩ = some (.int .i64 (slN (b.S i)))
  som : ∀ i, i < b.nS → w.cell? ⟨h, i * 3 + 2, none⟩ = some (.bool (b.S i).isSome)
  thg : ∀ j, w.frozen? ⟨g, j, none⟩ = false
  thh : ∀ j, w.frozen? ⟨h, j, none⟩ = false
  gh : g ≠ h
  gp : g ≠ p
  hp : h ≠ p
  lp : B ≤ p
  lg : B ≤ g
  lh : B ≤ h
/-- And it keeps to its limits. -/
structure BookAt (w : World) (B p g h : Nat) (b : Bk) : Prop extends Mem w B p g h b where
  good : Good b
/-- Its own blocks. -/
def own (p g h k : Nat) : Prop := k = p ∨ k = g ∨ k = h
theorem BookAt.pt {w : World} {B p g h : Nat} {b : Bk} (K : BookAt w B p g h b) : p < w.heap.size := World.block_lt_of_cell? _ _ K.cA
theorem BookAt.gt {w : World} {B p g h : Nat} {b : Bk} (K : BookAt w B p g h b) : g < w.heap.size := World.block_lt_of_cell? _ _ (K.lim 0 K.good.a1)
theorem BookAt.ht {w : World} {B p g h : Nat} {b : Bk} (K : BookAt w B p g h b) : h < w.heap.size := World.block_lt_of_cell? _ _ (K.acc 0 K.good.s1)
theorem BookAt.kept {w w' : World} {B p g h : Nat} {b : Bk} {T : Nat → Prop} (K : BookAt w B p g h b) (k : But T w w') (hT : ∀ i, own p g h i → ¬ T i) : BookAt w' B p g h b := by
  have tp := hT p (.inl rfl)
  have tg := hT g (.inr (.inl rfl))
  have th := hT h (.inr (.inr rfl))
  exact ⟨⟨by rw [k.cell K.pt tp]; exact K.cA, by rw [k.cell K.pt tp]; exact K.cS, fun a ha => by rw [k.cell K.gt tg]; exact K.lim a ha, fun a ha => by rw [k.cell K.gt tg]; exact K.rea a ha, fun a ha => by rw [k.cell K.ht th]; exact K.acc a ha, fun a ha => by rw [k.cell K.ht th]; exact K.num a ha, fun a ha => by rw [k.cell K.ht th]; exact K.som a ha, fun j => by rw [k.frozen K.gt tg]; exact K.thg j, fun j => by rw [k.frozen K.ht th]; exact K.thh j, K.gh, K.gp, K.hp, K.lp, K.lg, K.lh⟩, K.good⟩
theorem BookAt.below {w w' : World} {B p g h : Nat} {b : Bk} (K : BookAt w B p g h b) (k : Below w.heap.size w w') : BookAt w' B p g h b :=
  K.kept (T := fun _ => False) (But.of_below k) (fun _ _ => id)
theorem BookAt.drewN {w : World} {B p g h : Nat} {b : Bk} (K : BookAt w B p g h b) (m : Nat) : BookAt (w.drewN m) B p g h b := K.below (below_drewN _ _ _)
/-- A slot of it holds another thing. -/
theorem Mem.slot {w : World} {B p g h : Nat} {b : Bk} (K : Mem w B p g h b) (i : Nat) (x : Option (Nat × Int)) :
    Mem (((w.setCell ⟨h, i * 3, none⟩ (.int .i64 (slA x))).setCell ⟨h, i * 3 + 1, none⟩ (.int .i64 (slN x))).setCell ⟨h, i * 3 + 2, none⟩ (.bool x.isSome)) B p g h (setS b i x) := by
  have hk : ∀ k o, k ≠ h → (((w.setCell ⟨h, i * 3, none⟩ (.int .i64 (slA x))).setCell ⟨h, i * 3 + 1, none⟩ (.int .i64 (slN x))).setCell ⟨h, i * 3 + 2, none⟩ (.bool x.isSome)).cell? ⟨k, o, none⟩ = w.cell? ⟨k, o, none⟩ := fun k o hk => by
    rw [World.cell?_setCell_other _ _ _ _ (by intro e; injection e with e1; exact hk e1.symm), World.cell?_setCell_other _ _ _ _ (by intro e; injection e with e1; exact hk e1.symm), World.cell?_setCell_other _ _ _ _ (by intro e; injection e with e1; exact hk e1.symm)]
  have ho : ∀ o, o ≠ i * 3 → o ≠ i * 3 + 1 → o ≠ i * 3 + 2 → (((w.setCell ⟨h, i * 3, none⟩ (.int .i64 (slA x))).setCell ⟨h, i * 3 + 1, none⟩ (.int .i64 (slN x))).setCell ⟨h, i * 3 + 2, none⟩ (.bool x.isSome)).cell? ⟨h, o, none⟩ = w.cell? ⟨h, o, none⟩ := fun o h0 h1 h2 => by
    rw [World.cell?_setCell_other _ _ _ _ (by intro e; injection e with _ e2; exact h2 e2.symm), World.cell?_setCell_other _ _ _ _ (by intro e; injection e with _ e2; exact h1 e2.symm), World.cell?_setCell_other _ _ _ _ (by intro e; injection e with _ e2; exact h0 e2.symm)]
  refine ⟨by rw [hk _ _ (Ne.symm K.hp)]; exact K.cA, by rw [hk _ _ (Ne.symm K.hp)]; exact K.cS, fun a ha => by rw [hk _ _ K.gh]; exact K.lim a ha, fun a ha => by rw [hk _ _ K.gh]; exact K.rea a ha, fun j hj => ?_, fun j hj => ?_, fun j hj => ?_, fun j => by rw [World.frozen?_setCell, World.frozen?_setCell, World.frozen?_setCell]; exact K.thg j, fun j => by rw [World.frozen?_setCell, World.frozen?_setCell, World.frozen?_setCell]; exact K.thh j, K.gh, K.gp, K.hp, K.lp, K.lg, K.lh⟩
  · show _ = some (Value.int .i64 (slA (upd b.S i x j)))
    by_cases e : j = i
    · subst e
      rw [upd_same, World.cell?_setCell_other _ _ _ _ (by simp), World.cell?_setCell_other _ _ _ _ (by simp)]
      exact World.cell?_setCell_same' _ _ _ (by rw [K.acc j hj]; rfl)
    · rw [upd_other _ _ e, ho _ (by omega) (by omega) (by omega)]; exact K.acc j hj
  · show _ = some (Value.int .i64 (slN (upd b.S i x j)))
    by_cases e : j = i
    · subst e
      rw [upd_same, World.cell?_setCell_other _ _ _ _ (by simp)]
      exact World.cell?_setCell_same' _ _ _ (by rw [World.cell?_setCell_other _ _ _ _ (by simp), K.num j hj]; rfl)
    · rw [upd_other _ _ e, ho _ (by omega) (by omega) (by omega)]; exact K.num j hj
  · show _ = some (Value.bool (upd b.S i x j).isSome)
    by_cases e : j = i
    · subst e
      rw [upd_same]
      exact World.cell?_setCell_same' _ _ _ (by rw [World.cell?_setCell_other _ _ _ _ (by simp), World.cell?_setCell_other _ _ _ _ (by simp), K.som j hj]; rfl)
    · rw [upd_other _ _ e, ho _ (by omega) (by omega) (by omega)]; exact K.som j hj
/-- Another sum was realised. -/
theorem Mem.done {w : World} {B p g h : Nat} {b : Bk} (K : Mem w B p g h b) (a : Nat) (x : Int) :
    Mem (w.setCell ⟨g, a * 2 + 1, none⟩ (.int .i64 x)) B p g h (setD b a x) := by
  have hk : ∀ k o, k ≠ g → (w.setCell ⟨g, a * 2 + 1, none⟩ (.int .i64 x)).cell? ⟨k, o, none⟩ = w.cell? ⟨k, o, none⟩ := fun k o hk => by
    rw [World.cell?_setCell_other _ _ _ _ (by intro e; injection e with e1; exact hk e1.symm)]
  refine ⟨by rw [hk _ _ (Ne.symm K.gp)]; exact K.cA, by rw [hk _ _ (Ne.symm K.gp)]; exact K.cS, fun c hc => ?_, fun c hc => ?_, fun j hj => by rw [hk _ _ (Ne.symm K.gh)]; exact K.acc j hj, fun j hj => by rw [hk _ _ (Ne.symm K.gh)]; exact K.num j hj, fun j hj => by rw [hk _ _ (Ne.symm K.gh)]; exact K.som j hj, fun j => by rw [World.frozen?_setCell]; exact K.thg j, fun j => by rw [World.frozen?_setCell]; exact K.thh j, K.gh, K.gp, K.hp, K.lp, K.lg, K.lh⟩
  · rw [World.cell?_setCell_other _ _ _ _ (by intro e; injection e with _ e2; omega)]; exact K.lim c hc
  · show _ = some (Value.int .i64 (upd b.D a x c))
    by_cases e : c = a
    · subst e
      rw [upd_same]
      exact World.cell?_setCell_same' _ _ _ (by rw [K.rea c hc]; rfl)
    · rw [upd_other _ _ e, World.cell?_setCell_other _ _ _ _ (by intro e'; injection e' with _ e2; omega)]; exact K.rea c hc
theorem below_of_drewN {w w1 : World} {m : Nat} (h : Below (w.drewN m).heap.size (w.drewN m) w1) : Below w.heap.size w w1 := ⟨h.os, h.tape, h.output, h.size, h.block⟩
/-- A book that is none. -/
def NoBook (w : World) (r : Value) : Prop := r = .pointer none ∨ ∃ q, r = .pointer (some ⟨q, 0, none⟩) ∧ w.cell? ⟨q, 0, none⟩ = some (.slice none 0 0)

theorem within_any (n m : Int) (w : World) : Calls Try.prog 21 #[.int .i64 n, .int .i64 m] w fun e w' => e = .returned (.bool (decide (0 ≤ n) && decide (n ≤ m))) ∧ w' = w := by
  by_cases h1 : 0 ≤ n
  · rw [decide_eq_true h1, Bool.true_and]
    go_enter Try.func21, Try.ntmps21
    go_wp2
    go_ret
    exact ⟨rfl, rfl⟩
  · rw [decide_eq_false h1, Bool.false_and]
    go_enter Try.func21, Try.ntmps21
    go_wp2
    go_ret
    exact ⟨rfl, rfl⟩
theorem made_yes {w : World} {B p g h : Nat} {b : Bk} (K : BookAt w B p g h b) : Calls Try.prog 29 #[.pointer (some ⟨p, 0, none⟩)] w fun e w' => e = .returned (.bool true) ∧ w' = w := by
  have h0 := K.cA
  have t : (0 : Int) < (b.nA : Int) := by have := K.good.a1; omega
  clear K
  go_enter Try.func29, Try.ntmps29
  go_wp2
  go_ret
  exact ⟨by simp; omega, rfl⟩
theorem made_no {w : World} {r : Value} (h : NoBook w r) : Calls Try.prog 29 #[r] w fun e w' => e = .returned (.bool false) ∧ w' = w := by
  rcases h with rfl | ⟨q, rfl, h⟩
  · go_enter Try.func29, Try.ntmps29
    go_wp2
    go_ret
    exact ⟨rfl, rfl⟩
  · go_enter Try.func29, Try.ntmps29
    go_wp2
    go_ret
    exact ⟨by simp, rfl⟩
theorem hasA_any {w : World} {B p g h : Nat} {b : Bk} (K : BookAt w B p g h b) (a : Int) : Calls Try.prog 30 #[.pointer (some ⟨p, 0, none⟩), .int .i64 a] w fun e w' => e = .returned (.bool (hasA b a)) ∧ w' = w := by
  have F := made_yes K
  have h0 := K.cA
  clear K
  by_cases h1 : 0 ≤ a
  · rw [show hasA b a = decide (a < (b.nA : Int)) by rw [hasA, decide_eq_true h1, Bool.true_and]]
    go_enter Try.func30, Try.ntmps30
    go_wp2_with fail
    refine F.mono ?_
    rintro e w1 ⟨rfl, rfl⟩
    go_wp2_with fail
    go_ret
    exact ⟨rfl, rfl⟩
  · rw [show hasA b a = false by rw [hasA, decide_eq_false h1, Bool.false_and]]
    go_enter Try.func30, Try.ntmps30
    go_wp2_with fail
    refine F.mono ?_
    rintro e w1 ⟨rfl, rfl⟩
    go_wp2_with fail
    go_ret
    exact ⟨rfl, rfl⟩
theorem hasS_any {w : World} {B p g h : Nat} {b : Bk} (K : BookAt w B p g h b) (a : Int) : Calls Try.prog 28 #[.pointer (some ⟨p, 0, none⟩), .int .i64 a] w fun e w' => e = .returned (.bool (hasS b a)) ∧ w' = w := by
  have F := made_yes K
  have h0 := K.cS
  clear K
  by_cases h1 : 0 ≤ a
  · rw [show hasS b a = decide (a < (b.nS : Int)) by rw [hasS, decide_eq_true h1, Bool.true_and]]
    go_enter Try.func28, Try.ntmps28
    go_wp2_with fail
    refine F.mono ?_
    rintro e w1 ⟨rfl, rfl⟩
    go_wp2_with fail
    go_ret
    exact ⟨rfl, rfl⟩
  · rw [show hasS b a = false by rw [hasS, decide_eq_false h1, Bool.false_and]]
    go_enter Try.func28, Try.ntmps28
    go_wp2_with fail
    refine F.mono ?_
    rintro e w1 ⟨rfl, rfl⟩
    go_wp2_with fail
    go_ret
    exact ⟨rfl, rfl⟩
theorem hasA_none {w : World} {r : Value} (h : NoBook w r) (a : Int) : Calls Try.prog 30 #[r, .int .i64 a] w fun e w' => e = .returned (.bool false) ∧ w' = w := by
  have F := made_no h
  go_enter Try.func30, Try.ntmps30
  go_wp2_with fail
  refine F.mono ?_
  rintro e w1 ⟨rfl, rfl⟩
  go_wp2_with fail
  go_ret
  exact ⟨rfl, rfl⟩
theorem hasS_none {w : World} {r : Value} (h : NoBook w r) (a : Int) : Calls Try.prog 28 #[r, .int .i64 a] w fun e w' => e = .returned (.bool false) ∧ w' = w := by
  have F := made_no h
  go_enter Try.func28, Try.ntmps28
  go_wp2_with fail
  refine F.mono ?_
  rintro e w1 ⟨rfl, rfl⟩
  go_wp2_with fail
  go_ret
  exact ⟨rfl, rfl⟩
/-- What a slot holds is held against the empty one part by part. -/
theorem hold_eq (a n : Int) (t : Bool) (w : World) : (Op.equalIn 10000 61 (.agg #[.int .i64 a, .int .i64 n, .bool t]) (.agg #[.int .i64 0, .int .i64 0, .bool false])).run Try.prog w = .ok (decide (a = 0 ∧ n = 0 ∧ t = false)) w := by
  rw [show (10000 : Nat) = 9999 + 1 from rfl, run_equalIn_struct (P := Try.prog) w 9999 _ _ _ (by kernel_rfl) (by kernel_rfl)]
  simp [Program.fieldsOf, Try.underlying61, Op.eqFields, go_sem, Try.underlying3, Try.underlying4]
  by_cases h1 : a = 0 <;> by_cases h2 : n = 0 <;> by_cases h3 : t = false <;> simp [h1, h2, h3]
theorem hold_some (x : Option (Nat × Int)) : decide (slA x = 0 ∧ slN x = 0 ∧ x.isSome = false) = !x.isSome := by
  cases x with
  | none => rfl
  | some x => simp
set_option maxRecDepth 100000 in
set_option maxHeartbeats 1000000 in
theorem holds_any {w : World} {B p g h : Nat} {b : Bk} (K : BookAt w B p g h b) (i : Nat) (hi : i < b.nS) : Calls Try.prog 31 #[.pointer (some ⟨p, 0, none⟩), .int .i64 (i : Int)] w fun e w' => e = .returned (.bool (b.S i).isSome) ∧ w' = w := by
  have h0 := K.cS
  have c0 := K.acc i hi
  have c1 := K.num i hi
  have c2 := K.som i hi
  have s2 := K.good.s2
  have E := fun w => hold_eq (slA (b.S i)) (slN (b.S i)) (b.S i).isSome w
  rw [hold_some] at E
  have t : (i : Int) < (b.nS : Int) := by omega
  clear K
  generalize slA (b.S i) = x at *
  generalize slN (b.S i) = y at *
  generalize (b.S i).isSome = z at *
  go_enter Try.func31, Try.ntmps31
  go_wp2_with fail
  go_ret
  exact ⟨by simp, rfl⟩
set_option maxRecDepth 100000 in
set_option maxHeartbeats 2000000 in
theorem used_yes {w : World} {B p g h : Nat} {b : Bk} (K : BookAt w B p g h b) (a : Nat) (ha : a < b.nA) : Calls Try.prog 18 #[.pointer (some ⟨p, 0, none⟩), .int .i64 (a : Int)] w fun e w' => e = .returned (.int .i64 (used b a)) ∧ Below w.heap.size w w' := by
  have F := hasA_any K (a : Int)
  rw [show hasA b (a : Int) = true by simp [hasA, ha]] at F
  have h0 := K.cA
  have h1 := K.cS
  have c1 := K.rea a ha
  have s2 := K.good.s2
  have a2 := K.good.a2
  have HK : Hid (BookAt w B p g h b) := K
  have HZ : Hid (used b a = b.D a + part b a b.nS) := rfl
  obtain ⟨Z, hZ⟩ : ∃ Z, used b a = Z := ⟨_, rfl⟩
  rw [hZ] at HZ ⊢
  have hU : Hid (0 ≤ Z ∧ Z ≤ 4611686018427387904) := by
    have h2 := used_bounds K.good ha
    have h3 := K.good.l1 a ha
    rw [hZ] at h2
    exact ⟨h2.1, by omega⟩
  have hd := K.good.d0 a ha
  have t : (a : Int) < (b.nA : Int) := by omega
  have hp0 : Hid (b.D a + part b a 0 = b.D a) := by show b.D a + 0 = b.D a; omega
  clear K hZ
  go_enter Try.func18, Try.ntmps18
  go_wp2_with fail
  refine F.mono ?_
  rintro e w1 ⟨rfl, rfl⟩
  go_wp2_with fail
  go_loopw [5, 25] (fun u c wr => ∃ k : Nat, u = .int .i64 (b.D a + part b a k) ∧ c = .int .i64 (k : Int) ∧ k ≤ b.nS ∧ Hid (Below w1.heap.size w1 wr)) (fun _ c _ => b.nS - (RowKit.intOf c).toNat)
  case atStart => exact ⟨0, by rw [hp0.out], rfl, Nat.zero_le _, Below.refl _ _⟩
  case round =>
    obtain ⟨k, rfl, rfl, hk, hB⟩ := hrel
    by_cases hlt : k < b.nS
    · have t2 : (k : Int) < (b.nS : Int) := by omega
      have KK := HK.out.below hB.out
      have d0 := KK.acc k hlt
      have d1 := KK.num k hlt
      have d2 := KK.som k hlt
      have q1 := part_bounds HK.out.good (a := a) (k := k) (by omega)
      have q2 := part_bounds HK.out.good (a := a) (k := k + 1) (by omega)
      have q4 : amt (b.S k) a = if slA (b.S k) = (a : Int) then slN (b.S k) else 0 := rfl
      have HP : Hid (part b a (k + 1) = part b a k + amt (b.S k) a) := part_succ b a k
      have q5 := HP.out
      rw [q4] at q5
      have u1 := hU.out.2
      rw [HZ.out] at u1
      clear KK c1 h0 h1 F q4
      by_cases e : slA (b.S k) = (a : Int)
      · rw [if_pos e] at q5
        have HQ : Hid (part b a (k + 1) = part b a k + slN (b.S k)) := q5
        have r1 : 0 ≤ b.D a + part b a k := by omega
        have r2 : b.D a + part b a k + slN (b.S k) ≤ 4611686018427387904 := by omega
        have r3 : 0 ≤ slN (b.S k) := by rw [q5] at q2; have := amt_nonneg HK.out.good hlt a; unfold amt at this; rw [if_pos e] at this; exact this
        rw [e] at d0
        clear q1 q2 q5 u1 e HP
        obtain ⟨U, hu⟩ : ∃ U, Hid (b.D a + part b a k = U) := ⟨_, rfl⟩
        rw [hu.out] at r1 r2 ⊢
        generalize slN (b.S k) = y at *
        generalize (b.S k).isSome = z at *
        go_wp2_with fail
        go_roundw
        case rel => exact ⟨k + 1, by rw [HQ.out, ← hu.out, Int.add_assoc], by simp, by omega, (hB.out.alloc (by have := hB.out.size; omega) _)⟩
        case measure => simp [RowKit.intOf]; omega
      · rw [if_neg e] at q5
        have HQ : Hid (part b a (k + 1) = part b a k) := by show part b a (k + 1) = part b a k; rw [q5]; omega
        clear q1 q2 q5 u1 HP
        generalize slN (b.S k) = y at *
        generalize (b.S k).isSome = z at *
        generalize slA (b.S k) = x at *
        go_wp2_with fail
        go_roundw
        case rel => exact ⟨k + 1, by rw [HQ.out], by simp, by omega, (hB.out.alloc (by have := hB.out.size; omega) _)⟩
        case measure => simp [RowKit.intOf]; omega
    · obtain rfl : k = b.nS := by omega
      have t2 : ¬ (b.nS : Int) < (b.nS : Int) := by omega
      clear c1 h0 h1 F
      go_wp2_with fail
      go_ret
      exact ⟨by rw [HZ.out]; rfl, hB.out⟩
theorem used_no {w : World} {B p g h : Nat} {b : Bk} (K : BookAt w B p g h b) (a : Int) (ha : hasA b a = false) : Calls Try.prog 18 #[.pointer (some ⟨p, 0, none⟩), .int .i64 a] w fun e w' => e = .returned (.int .i64 0) ∧ w' = w := by
  have F := hasA_any K a
  rw [ha] at F
  clear K
  go_enter Try.func18, Try.ntmps18
  go_wp2_with fail
  refine F.mono ?_
  rintro e w1 ⟨rfl, rfl⟩
  go_wp2_with fail
  go_ret
  exact ⟨rfl, rfl⟩
theorem usedN {w : World} {r : Value} (h : NoBook w r) (a : Int) : Calls Try.prog 18 #[r, .int .i64 a] w fun e w' => e = .returned (.int .i64 0) ∧ w' = w := by
  have F := hasA_none h a
  go_enter Try.func18, Try.ntmps18
  go_wp2_with fail
  refine F.mono ?_
  rintro e w1 ⟨rfl, rfl⟩
  go_wp2_with fail
  go_ret
  exact ⟨rfl, rfl⟩
theorem real_yes {w : World} {B p g h : Nat} {b : Bk} (K : BookAt w B p g h b) (a : Nat) (ha : a < b.nA) : Calls Try.prog 19 #[.pointer (some ⟨p, 0, none⟩), .int .i64 (a : Int)] w fun e w' => e = .returned (.int .i64 (b.D a)) ∧ w' = w := by
  have F := hasA_any K (a : Int)
  rw [show hasA b (a : Int) = true by simp [hasA, ha]] at F
  have h0 := K.cA
  have c1 := K.rea a ha
  have a2 := K.good.a2
  have t : (a : Int) < (b.nA : Int) := by omega
  clear K
  generalize b.D a = x at *
  go_enter Try.func19, Try.ntmps19
  go_wp2_with fail
  refine F.mono ?_
  rintro e w1 ⟨rfl, rfl⟩
  go_wp2_with fail
  go_ret
  exact ⟨rfl, rfl⟩
theorem real_no {w : World} {B p g h : Nat} {b : Bk} (K : BookAt w B p g h b) (a : Int) (ha : hasA b a = false) : Calls Try.prog 19 #[.pointer (some ⟨p, 0, none⟩), .int .i64 a] w fun e w' => e = .returned (.int .i64 0) ∧ w' = w := by
  have F := hasA_any K a
  rw [ha] at F
  clear K
  go_enter Try.func19, Try.ntmps19
  go_wp2_with fail
  refine F.mono ?_
  rintro e w1 ⟨rfl, rfl⟩
  go_wp2_with fail
  go_ret
  exact ⟨rfl, rfl⟩
theorem realN {w : World} {r : Value} (h : NoBook w r) (a : Int) : Calls Try.prog 19 #[r, .int .i64 a] w fun e w' => e = .returned (.int .i64 0) ∧ w' = w := by
  have F := hasA_none h a
  go_enter Try.func19, Try.ntmps19
  go_wp2_with fail
  refine F.mono ?_
  rintro e w1 ⟨rfl, rfl⟩
  go_wp2_with fail
  go_ret
  exact ⟨rfl, rfl⟩
set_option maxRecDepth 100000 in
set_option maxHeartbeats 2000000 in
theorem left_yes {w : World} {B p g h : Nat} {b : Bk} (K : BookAt w B p g h b) (a : Nat) (ha : a < b.nA) : Calls Try.prog 20 #[.pointer (some ⟨p, 0, none⟩), .int .i64 (a : Int)] w fun e w' => e = .returned (.int .i64 (b.L a - used b a)) ∧ Below w.heap.size w w' := by
  have F := hasA_any K (a : Int)
  rw [show hasA b (a : Int) = true by simp [hasA, ha]] at F
  have F2 := fun m => used_yes (K.drewN m) a ha
  have h0 := K.cA
  have c1 := K.lim a ha
  have a2 := K.good.a2
  have t : (a : Int) < (b.nA : Int) := by omega
  have u := used_bounds K.good ha
  have u1 := u.1
  have u2 := u.2
  have u3 := K.good.l1 a ha
  have pl := K.pt
  have gl := K.gt
  clear K u
  generalize b.L a = x at *
  generalize used b a = y at *
  go_enter Try.func20, Try.ntmps20
  go_wp2_with fail
  refine F.mono ?_
  rintro e w1 ⟨rfl, rfl⟩
  go_wp2_with fail
  go_region_held3 (fun w' => w'.cell? ⟨p, 0, none⟩ = some (.slice (some ⟨g, 0, none⟩) b.nA b.nA) ∧ w'.cell? ⟨g, a * 2, none⟩ = some (.int .i64 x)) (go_keep) (first
    | (go_at_call 18; refine (F2 _).mono ?_; rintro e w2 ⟨rfl, hb2⟩; have f2 := (hb2.cell (p := ⟨p, 0, none⟩) pl).trans h0; have f3 := (hb2.cell (p := ⟨g, a * 2, none⟩) gl).trans c1))
  go_wp2_with fail
  go_ret
  exact ⟨by simp; rw [IntKind.wrap_i64]; omega, below_of_drewN hb2⟩
theorem left_no {w : World} {B p g h : Nat} {b : Bk} (K : BookAt w B p g h b) (a : Int) (ha : hasA b a = false) : Calls Try.prog 20 #[.pointer (some ⟨p, 0, none⟩), .int .i64 a] w fun e w' => e = .returned (.int .i64 0) ∧ w' = w := by
  have F := hasA_any K a
  rw [ha] at F
  clear K
  go_enter Try.func20, Try.ntmps20
  go_wp2_with fail
  refine F.mono ?_
  rintro e w1 ⟨rfl, rfl⟩
  go_wp2_with fail
  go_ret
  exact ⟨rfl, rfl⟩
theorem leftN {w : World} {r : Value} (h : NoBook w r) (a : Int) : Calls Try.prog 20 #[r, .int .i64 a] w fun e w' => e = .returned (.int .i64 0) ∧ w' = w := by
  have F := hasA_none h a
  go_enter Try.func20, Try.ntmps20
  go_wp2_with fail
  refine F.mono ?_
  rintro e w1 ⟨rfl, rfl⟩
  go_wp2_with fail
  go_ret
  exact ⟨rfl, rfl⟩
set_option maxRecDepth 100000 in
set_option maxHeartbeats 2000000 in
theorem held_yes {w : World} {B p g h : Nat} {b : Bk} (K : BookAt w B p g h b) (i : Nat) (hi : i < b.nS) : Calls Try.prog 13 #[.pointer (some ⟨p, 0, none⟩), .int .i64 (i : Int)] w fun e w' => e = .returned (.tuple #[.int .i64 (slA (b.S i)), .int .i64 (slN (b.S i)), .bool (b.S i).isSome]) ∧ Below w.heap.size w w' := by
  have F := hasS_any K (i : Int)
  rw [show hasS b (i : Int) = true by simp [hasS, hi]] at F
  have h0 := K.cS
  have c0 := K.acc i hi
  have c1 := K.num i hi
  have c2 := K.som i hi
  have s2 := K.good.s2
  have t : (i : Int) < (b.nS : Int) := by omega
  clear K
  generalize slA (b.S i) = x at *
  generalize slN (b.S i) = y at *
  generalize (b.S i).isSome = z at *
  go_enter Try.func13, Try.ntmps13
  go_wp2_with fail
  refine F.mono ?_
  rintro e w1 ⟨rfl, rfl⟩
  go_wp2_with fail
  go_quiet (fail)
  go_wp2_with fail
  go_ret3
  exact ⟨rfl, below_more ((Below.refl _ _).alloc (Nat.le_refl _) _) _⟩
theorem held_no {w : World} {B p g h : Nat} {b : Bk} (K : BookAt w B p g h b) (i : Int) (hi : hasS b i = false) : Calls Try.prog 13 #[.pointer (some ⟨p, 0, none⟩), .int .i64 i] w fun e w' => e = .returned (.tuple #[.int .i64 0, .int .i64 0, .bool false]) ∧ w' = w := by
  have F := hasS_any K i
  rw [hi] at F
  clear K
  go_enter Try.func13, Try.ntmps13
  go_wp2_with fail
  refine F.mono ?_
  rintro e w1 ⟨rfl, rfl⟩
  go_wp2_with fail
  go_ret3
  exact ⟨rfl, rfl⟩
theorem heldN {w : World} {r : Value} (h : NoBook w r) (i : Int) : Calls Try.prog 13 #[r, .int .i64 i] w fun e w' => e = .returned (.tuple #[.int .i64 0, .int .i64 0, .bool false]) ∧ w' = w := by
  have F := hasS_none h i
  go_enter Try.func13, Try.ntmps13
  go_wp2_with fail
  refine F.mono ?_
  rintro e w1 ⟨rfl, rfl⟩
  go_wp2_with fail
  go_ret3
  exact ⟨rfl, rfl⟩
end Go.Proofs.Ytcjdbfmglckdkaa.RK
