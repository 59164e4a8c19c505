/-
  Contracts of risk's Reserve, Resize, Settle, Undo.
-/
import Derived.Test.YtcjdbfmglckdkaaRkBook
namespace Go.Proofs.Ytcjdbfmglckdkaa.RK
open Go.ChangeShapes Go.WideShapes Go.ChangeAt Go.RowKit Go.Lib

theorem but_slot {S : Nat → Prop} {a w : World} (B : But S a w) (h i : Nat) (x y z : Value) (hS : S h) : But S a (((w.setCell ⟨h, i * 3, none⟩ x).setCell ⟨h, i * 3 + 1, none⟩ y).setCell ⟨h, i * 3 + 2, none⟩ z) :=
  But.setCell (But.setCell (But.setCell B h (i * 3) x (fun _ => hS)) h (i * 3 + 1) y (fun _ => hS)) h (i * 3 + 2) z (fun _ => hS)
/-- A slot that holds something holds another amount of the same account. -/
theorem Mem.amount {w : World} {B p g h : Nat} {b : Bk} (K : Mem w B p g h b) {i c : Nat} {m : Int} (e : b.S i = some (c, m)) (n : Int) : Mem (w.setCell ⟨h, i * 3 + 1, none⟩ (.int .i64 n)) B p g h (setS b i (some (c, n))) := by
  have hk : ∀ k o, k ≠ h → (w.setCell ⟨h, i * 3 + 1, none⟩ (.int .i64 n)).cell? ⟨k, o, none⟩ = w.cell? ⟨k, o, none⟩ := fun k o hk => by
    rw [World.cell?_setCell_other _ _ _ _ (by intro e; injection e with e1; exact hk e1.symm)]
  have ho : ∀ o, o ≠ i * 3 + 1 → (w.setCell ⟨h, i * 3 + 1, none⟩ (.int .i64 n)).cell? ⟨h, o, none⟩ = w.cell? ⟨h, o, none⟩ := fun o h1 => by
    rw [World.cell?_setCell_other _ _ _ _ (by intro e; injection e with _ e2; exact h1 e2.symm)]
  refine ⟨by rw [hk _ _ (Ne.symm K.hp)]; exact K.cA, by rw [hk _ _ (Ne.symm K.hp)]; exact K.cS, fun a ha => by rw [hk _ _ K.gh]; exact K.lim a ha, fun a ha => by rw [hk _ _ K.gh]; exact K.rea a ha, fun j hj => ?_, fun j hj => ?_, fun j hj => ?_, fun j => by rw [World.frozen?_setCell]; exact K.thg j, fun j => by rw [World.frozen?_setCell]; exact K.thh j, K.gh, K.gp, K.hp, K.lp, K.lg, K.lh⟩
  · show _ = some (Value.int .i64 (slA (upd b.S i _ j)))
    rw [ho _ (by omega), K.acc j hj]
    by_cases ej : j = i
    · subst ej; rw [upd_same, e]; rfl
    · rw [upd_other _ _ ej]
  · show _ = some (Value.int .i64 (slN (upd b.S i _ j)))
    by_cases ej : j = i
    · subst ej
      rw [upd_same]
      exact World.cell?_setCell_same' _ _ _ (by rw [K.num j hj]; rfl)
    · rw [upd_other _ _ ej, ho _ (by omega)]; exact K.num j hj
  · show _ = some (Value.bool (upd b.S i _ j).isSome)
    rw [ho _ (by omega), K.som j hj]
    by_cases ej : j = i
    · subst ej; rw [upd_same, e]; rfl
    · rw [upd_other _ _ ej]
theorem inL_eq (n : Int) (Z : Bool) (h : inL n = Z) : (decide (0 ≤ n) && decide (n ≤ 4611686018427387904)) = Z := h
set_option maxRecDepth 100000 in
set_option maxHeartbeats 4000000 in
theorem res_any {w : World} {B p g h : Nat} {b : Bk} (K : BookAt w B p g h b) (a s n : Int) : Calls Try.prog 14 #[.pointer (some ⟨p, 0, none⟩), .int .i64 a, .int .i64 s, .int .i64 n] w fun e w' => e = .returned (.int .i64 (resE b a s n)) ∧ BookAt w' B p g h (resB b a s n) ∧ But (own p g h) w w' := by
  have F1 := made_yes K
  have F2 := hasA_any K a
  have F3 := hasS_any K s
  have F4 := within_any n 4611686018427387904 w
  have HG : Hid (Good (resB b a s n)) := res_good K.good a s n
  cases h2 : hasA b a
  · rw [h2] at F2
    have e1 : resE b a s n = 2 := by rw [resE, if_pos h2]
    have e2 : resB b a s n = b := by rw [resB, e1]; rfl
    rw [e1, e2]
    have HK : Hid (BookAt w B p g h b) := K
    clear K HG e1 e2 h2
    go_enter Try.func14, Try.ntmps14
    go_wp2_with fail
    refine F1.mono ?_
    rintro e w1 ⟨rfl, rfl⟩
    go_wp2_with fail
    refine F2.mono ?_
    rintro e w2 ⟨rfl, rfl⟩
    go_wp2_with fail
    go_ret
    exact ⟨rfl, HK.out, But.refl _ _⟩
  cases h3 : hasS b s
  · rw [h2] at F2
    rw [h3] at F3
    have e1 : resE b a s n = 2 := by rw [resE, if_neg (by rw [h2]; decide), if_pos h3]
    have e2 : resB b a s n = b := by rw [resB, e1]; rfl
    rw [e1, e2]
    have HK : Hid (BookAt w B p g h b) := K
    clear K HG e1 e2 h2 h3
    go_enter Try.func14, Try.ntmps14
    go_wp2_with fail
    refine F1.mono ?_
    rintro e w1 ⟨rfl, rfl⟩
    go_wp2_with fail
    refine F2.mono ?_
    rintro e w2 ⟨rfl, rfl⟩
    go_wp2_with fail
    refine F3.mono ?_
    rintro e w3 ⟨rfl, rfl⟩
    go_wp2_with fail
    go_ret
    exact ⟨rfl, HK.out, But.refl _ _⟩
  cases h4 : inL n
  · rw [h2] at F2
    rw [h3] at F3
    rw [inL_eq n _ h4] at F4
    have e1 : resE b a s n = 2 := by rw [resE, if_neg (by rw [h2]; decide), if_neg (by rw [h3]; decide), if_pos h4]
    have e2 : resB b a s n = b := by rw [resB, e1]; rfl
    rw [e1, e2]
    have HK : Hid (BookAt w B p g h b) := K
    clear K HG e1 e2 h2 h3 h4
    go_enter Try.func14, Try.ntmps14
    go_wp2_with fail
    refine F1.mono ?_
    rintro e w1 ⟨rfl, rfl⟩
    go_wp2_with fail
    refine F2.mono ?_
    rintro e w2 ⟨rfl, rfl⟩
    go_wp2_with fail
    refine F3.mono ?_
    rintro e w3 ⟨rfl, rfl⟩
    go_wp2_with fail
    refine F4.mono ?_
    rintro e w4 ⟨rfl, rfl⟩
    go_wp2_with fail
    go_ret
    exact ⟨rfl, HK.out, But.refl _ _⟩
  rw [inL_eq n _ h4] at F4
  obtain ⟨i, rfl, hi⟩ := hasA_nat h2
  obtain ⟨j, rfl, hj⟩ := hasS_nat h3
  have F5 := holds_any K j hj
  have E0 : resE b (i : Int) (j : Int) n = if (b.S j).isSome = true then 41 else if b.L i - used b i < n then 170 else 0 := by
    rw [resE, if_neg (by rw [h2]; decide), if_neg (by rw [h3]; decide), if_neg (by rw [h4]; decide), Int.toNat_natCast, Int.toNat_natCast]
  rw [h2] at F2
  rw [h3] at F3
  cases h5 : (b.S j).isSome
  · rw [h5] at F5
    rw [if_neg (by rw [h5]; decide)] at E0
    have F6 := left_yes K i hi
    have h0 := K.cS
    have pl := K.pt
    have hl := K.ht
    have s2 := K.good.s2
    have t : (j : Int) < (b.nS : Int) := by omega
    by_cases h6 : b.L i - used b i < n
    · rw [if_pos h6] at E0
      have e2 : resB b i j n = b := by rw [resB, E0]; rfl
      rw [E0, e2]
      have HK : Hid (BookAt w B p g h b) := K
      clear K HG E0 e2 h2 h3 h4 h5
      generalize b.L i - used b i = x at *
      go_enter Try.func14, Try.ntmps14
      go_wp2_with fail
      refine F1.mono ?_
      rintro e w1 ⟨rfl, rfl⟩
      go_wp2_with fail
      refine F2.mono ?_
      rintro e w2 ⟨rfl, rfl⟩
      go_wp2_with fail
      refine F3.mono ?_
      rintro e w3 ⟨rfl, rfl⟩
      go_wp2_with fail
      refine F4.mono ?_
      rintro e w4 ⟨rfl, rfl⟩
      go_wp2_with fail
      refine F5.mono ?_
      rintro e w5 ⟨rfl, rfl⟩
      go_wp2_with fail
      refine F6.mono ?_
      rintro e w6 ⟨rfl, hb6⟩
      go_wp2_with fail
      go_ret
      exact ⟨rfl, HK.out.below hb6, But.of_below hb6⟩
    · rw [if_neg h6] at E0
      have e2 : resB b i j n = setS b j (some (i, n)) := by rw [resB, E0]; rfl
      rw [e2] at HG
      rw [E0, e2]
      have HK : Hid (BookAt w B p g h b) := K
      have HJ : Hid (j < b.nS) := hj
      clear K E0 e2 h2 h3 h4 h5
      generalize b.L i - used b i = x at *
      go_enter Try.func14, Try.ntmps14
      go_wp2_with fail
      refine F1.mono ?_
      rintro e w1 ⟨rfl, rfl⟩
      go_wp2_with fail
      refine F2.mono ?_
      rintro e w2 ⟨rfl, rfl⟩
      go_wp2_with fail
      refine F3.mono ?_
      rintro e w3 ⟨rfl, rfl⟩
      go_wp2_with fail
      refine F4.mono ?_
      rintro e w4 ⟨rfl, rfl⟩
      go_wp2_with fail
      refine F5.mono ?_
      rintro e w5 ⟨rfl, rfl⟩
      go_wp2_with fail
      refine F6.mono ?_
      rintro e w6 ⟨rfl, hb6⟩
      have K6 := HK.out.below hb6
      have d0 := K6.cS
      have d1 := K6.acc j hj
      have d2 := K6.num j hj
      have d3 := K6.som j hj
      have z0 := K6.thh (j * 3)
      have z1 := K6.thh (j * 3 + 1)
      have z2 := K6.thh (j * 3 + 2)
      have HK6 : Hid (BookAt w6 B p g h b) := K6
      have HB6 : Hid (Below w5.heap.size w5 w6) := hb6
      clear K6 hb6 F1 F2 F3 F4 F5 F6
      go_wp2_with fail
      go_ret
      exact ⟨rfl, ⟨HK6.out.toMem.slot j (some (i, n)), HG.out⟩, but_slot (But.of_below HB6.out) h j _ _ _ (.inr (.inr rfl))⟩
  · rw [h5] at F5
    rw [if_pos h5] at E0
    have e2 : resB b i j n = b := by rw [resB, E0]; rfl
    rw [E0, e2]
    have HK : Hid (BookAt w B p g h b) := K
    clear K HG E0 e2 h2 h3 h4 h5
    go_enter Try.func14, Try.ntmps14
    go_wp2_with fail
    refine F1.mono ?_
    rintro e w1 ⟨rfl, rfl⟩
    go_wp2_with fail
    refine F2.mono ?_
    rintro e w2 ⟨rfl, rfl⟩
    go_wp2_with fail
    refine F3.mono ?_
    rintro e w3 ⟨rfl, rfl⟩
    go_wp2_with fail
    refine F4.mono ?_
    rintro e w4 ⟨rfl, rfl⟩
    go_wp2_with fail
    refine F5.mono ?_
    rintro e w5 ⟨rfl, rfl⟩
    go_wp2_with fail
    go_ret
    exact ⟨rfl, HK.out, But.refl _ _⟩
set_option maxRecDepth 100000 in
set_option maxHeartbeats 4000000 in
theorem rsz_any {w : World} {B p g h : Nat} {b : Bk} (K : BookAt w B p g h b) (s n : Int) : Calls Try.prog 15 #[.pointer (some ⟨p, 0, none⟩), .int .i64 s, .int .i64 n] w fun e w' => e = .returned (.int .i64 (rszE b s n)) ∧ BookAt w' B p g h (rszB b s n) ∧ But (own p g h) w w' := by
  have F1 := made_yes K
  have F3 := hasS_any K s
  have F4 := within_any n 4611686018427387904 w
  have HG : Hid (Good (rszB b s n)) := rsz_good K.good s n
  have HK : Hid (BookAt w B p g h b) := K
  cases h3 : hasS b s
  · rw [h3] at F3
    have e1 : rszE b s n = 2 := by rw [rszE, if_pos h3]
    have e2 : rszB b s n = b := by rw [rszB, e1]; rfl
    rw [e1, e2]
    clear K HG e1 e2 h3
    go_enter Try.func15, Try.ntmps15
    go_wp2_with fail
    refine F1.mono ?_
    rintro e w1 ⟨rfl, rfl⟩
    go_wp2_with fail
    refine F3.mono ?_
    rintro e w2 ⟨rfl, rfl⟩
    go_wp2_with fail
    go_ret
    exact ⟨rfl, HK.out, But.refl _ _⟩
  cases h4 : inL n
  · rw [h3] at F3
    rw [inL_eq n _ h4] at F4
    have e1 : rszE b s n = 2 := by rw [rszE, if_neg (by rw [h3]; decide), if_pos h4]
    have e2 : rszB b s n = b := by rw [rszB, e1]; rfl
    rw [e1, e2]
    clear K HG e1 e2 h3 h4
    go_enter Try.func15, Try.ntmps15
    go_wp2_with fail
    refine F1.mono ?_
    rintro e w1 ⟨rfl, rfl⟩
    go_wp2_with fail
    refine F3.mono ?_
    rintro e w2 ⟨rfl, rfl⟩
    go_wp2_with fail
    refine F4.mono ?_
    rintro e w3 ⟨rfl, rfl⟩
    go_wp2_with fail
    go_ret
    exact ⟨rfl, HK.out, But.refl _ _⟩
  rw [inL_eq n _ h4] at F4
  obtain ⟨j, rfl, hj⟩ := hasS_nat h3
  have F5 := holds_any K j hj
  have E0 : rszE b (j : Int) n = match b.S j with
    | none => 42
    | some x => if b.L x.1 - used b x.1 + x.2 < n then 170 else 0 := by
    rw [rszE, if_neg (by rw [h3]; decide), if_neg (by rw [h4]; decide), Int.toNat_natCast]; rfl
  rw [h3] at F3
  cases eS : b.S j with
  | none =>
    rw [eS] at F5 E0
    replace E0 : rszE b (j : Int) n = 42 := E0
    have e2 : rszB b j n = b := by rw [rszB, E0]; rfl
    rw [E0, e2]
    replace F5 : Calls Try.prog 31 #[.pointer (some ⟨p, 0, none⟩), .int .i64 (j : Int)] w fun e w' => e = .returned (.bool false) ∧ w' = w := F5
    clear K HG E0 e2 h3 h4 eS
    go_enter Try.func15, Try.ntmps15
    go_wp2_with fail
    refine F1.mono ?_
    rintro e w1 ⟨rfl, rfl⟩
    go_wp2_with fail
    refine F3.mono ?_
    rintro e w2 ⟨rfl, rfl⟩
    go_wp2_with fail
    refine F4.mono ?_
    rintro e w3 ⟨rfl, rfl⟩
    go_wp2_with fail
    refine F5.mono ?_
    rintro e w4 ⟨rfl, rfl⟩
    go_wp2_with fail
    go_ret
    exact ⟨rfl, HK.out, But.refl _ _⟩
  | some x =>
    obtain ⟨c, m⟩ := x
    rw [eS] at F5 E0
    replace E0 : rszE b (j : Int) n = if b.L c - used b c + m < n then 170 else 0 := E0
    replace F5 : Calls Try.prog 31 #[.pointer (some ⟨p, 0, none⟩), .int .i64 (j : Int)] w fun e w' => e = .returned (.bool true) ∧ w' = w := F5
    obtain ⟨hc, hm⟩ := K.good.s j hj c m eS
    have F6 := fun q => left_yes (K.drewN q) c hc
    have h0 := K.cS
    have hl := K.ht
    have s2 := K.good.s2
    have t : (j : Int) < (b.nS : Int) := by omega
    have c0 := K.acc j hj
    have c1 := K.num j hj
    rw [eS] at c0 c1
    replace c0 : w.cell? ⟨h, j * 3, none⟩ = some (.int .i64 (c : Int)) := c0
    replace c1 : w.cell? ⟨h, j * 3 + 1, none⟩ = some (.int .i64 m) := c1
    have u0 := used_bounds K.good hc
    have u1 := K.good.l1 c hc
    have u2 := held_le K.good hj eS
    have u3 := K.good.d0 c hc
    have u4 : used b c = b.D c + part b c b.nS := rfl
    have v1 : 0 ≤ b.L c - used b c := by omega
    have v2 : b.L c - used b c + m ≤ 4611686018427387904 := by omega
    have HJ : Hid (j < b.nS) := hj
    have HS : Hid (b.S j = some (c, m)) := eS
    clear u0 u1 u2 u3 u4 K
    by_cases h6 : b.L c - used b c + m < n
    · rw [if_pos h6] at E0
      have e2 : rszB b j n = b := by rw [rszB, E0]; rfl
      rw [E0, e2]
      clear HG E0 e2 h3 h4 eS
      generalize b.L c - used b c = x at *
      have hwr : IntKind.i64.wrap (x + m) = x + m := by rw [IntKind.wrap_i64]; omega
      go_enter Try.func15, Try.ntmps15
      go_wp2_with fail
      refine F1.mono ?_
      rintro e w1 ⟨rfl, rfl⟩
      go_wp2_with fail
      refine F3.mono ?_
      rintro e w2 ⟨rfl, rfl⟩
      go_wp2_with fail
      refine F4.mono ?_
      rintro e w3 ⟨rfl, rfl⟩
      go_wp2_with fail
      refine F5.mono ?_
      rintro e w4 ⟨rfl, rfl⟩
      go_wp2_with fail
      go_region_held3 (fun w' => w'.cell? ⟨h, j * 3, none⟩ = some (.int .i64 (c : Int)) ∧ w'.cell? ⟨h, j * 3 + 1, none⟩ = some (.int .i64 m)) (go_keep) (first
        | (go_at_call 20; refine (F6 _).mono ?_; rintro e w6 ⟨rfl, hb6⟩; have f2 := (hb6.cell (p := ⟨h, j * 3, none⟩) hl).trans c0; have f3 := (hb6.cell (p := ⟨h, j * 3 + 1, none⟩) hl).trans c1))
      have HB6 := below_of_drewN hb6
      go_wp2_with fail
      go_ret
      exact ⟨rfl, HK.out.below HB6, But.of_below HB6⟩
    · rw [if_neg h6] at E0
      have e2 : rszB b j n = setS b j (some (c, n)) := by rw [rszB, E0, Int.toNat_natCast, eS]; rfl
      rw [e2] at HG
      rw [E0, e2]
      clear E0 e2 h3 h4 eS
      generalize b.L c - used b c = x at *
      have hwr : IntKind.i64.wrap (x + m) = x + m := by rw [IntKind.wrap_i64]; omega
      go_enter Try.func15, Try.ntmps15
      go_wp2_with fail
      refine F1.mono ?_
      rintro e w1 ⟨rfl, rfl⟩
      go_wp2_with fail
      refine F3.mono ?_
      rintro e w2 ⟨rfl, rfl⟩
      go_wp2_with fail
      refine F4.mono ?_
      rintro e w3 ⟨rfl, rfl⟩
      go_wp2_with fail
      refine F5.mono ?_
      rintro e w4 ⟨rfl, rfl⟩
      go_wp2_with fail
      go_region_held3 (fun w' => w'.cell? ⟨h, j * 3, none⟩ = some (.int .i64 (c : Int)) ∧ w'.cell? ⟨h, j * 3 + 1, none⟩ = some (.int .i64 m)) (go_keep) (first
        | (go_at_call 20; refine (F6 _).mono ?_; rintro e w6 ⟨rfl, hb6⟩; have f2 := (hb6.cell (p := ⟨h, j * 3, none⟩) hl).trans c0; have f3 := (hb6.cell (p := ⟨h, j * 3 + 1, none⟩) hl).trans c1))
      have HB6 : Hid (Below w4.heap.size w4 w6) := below_of_drewN hb6
      have HK6 : Hid (BookAt w6 B p g h b) := HK.out.below HB6.out
      have z1 := HK6.out.thh (j * 3 + 1)
      clear hb6 F1 F3 F4 F5 F6 c0 c1 h0
      go_wp2_with fail
      go_ret
      refine ⟨rfl, ⟨HK6.out.toMem.amount HS.out n, HG.out⟩, But.setCell (S := own p g h) (But.of_below HB6.out) h (j * 3 + 1) _ (fun _ => .inr (.inr rfl))⟩
set_option maxRecDepth 100000 in
set_option maxHeartbeats 4000000 in
theorem stl_any {w : World} {B p g h : Nat} {b : Bk} (K : BookAt w B p g h b) (s n : Int) : Calls Try.prog 16 #[.pointer (some ⟨p, 0, none⟩), .int .i64 s, .int .i64 n] w fun e w' => e = .returned (.int .i64 (stlE b s n)) ∧ BookAt w' B p g h (stlB b s n) ∧ But (own p g h) w w' := by
  have F1 := made_yes K
  have F3 := hasS_any K s
  have HG : Hid (Good (stlB b s n)) := stl_good K.good s n
  have HK : Hid (BookAt w B p g h b) := K
  cases h3 : hasS b s
  · rw [h3] at F3
    have e1 : stlE b s n = 2 := by rw [stlE, if_pos h3]
    have e2 : stlB b s n = b := by rw [stlB, e1]; rfl
    rw [e1, e2]
    clear K HG e1 e2 h3
    go_enter Try.func16, Try.ntmps16
    go_wp2_with fail
    refine F1.mono ?_
    rintro e w1 ⟨rfl, rfl⟩
    go_wp2_with fail
    refine F3.mono ?_
    rintro e w2 ⟨rfl, rfl⟩
    go_wp2_with fail
    go_ret
    exact ⟨rfl, HK.out, But.refl _ _⟩
  by_cases h4 : n < 0
  · rw [h3] at F3
    have e1 : stlE b s n = 2 := by rw [stlE, if_neg (by rw [h3]; decide), if_pos h4]
    have e2 : stlB b s n = b := by rw [stlB, e1]; rfl
    rw [e1, e2]
    clear K HG e1 e2 h3
    go_enter Try.func16, Try.ntmps16
    go_wp2_with fail
    refine F1.mono ?_
    rintro e w1 ⟨rfl, rfl⟩
    go_wp2_with fail
    refine F3.mono ?_
    rintro e w2 ⟨rfl, rfl⟩
    go_wp2_with fail
    go_ret
    exact ⟨rfl, HK.out, But.refl _ _⟩
  obtain ⟨j, rfl, hj⟩ := hasS_nat h3
  have F5 := holds_any K j hj
  have E0 : stlE b (j : Int) n = match b.S j with
    | none => 42
    | some x => if x.2 < n then 2 else 0 := by
    rw [stlE, if_neg (by rw [h3]; decide), if_neg h4, Int.toNat_natCast]; rfl
  rw [h3] at F3
  cases eS : b.S j with
  | none =>
    rw [eS] at F5 E0
    replace E0 : stlE b (j : Int) n = 42 := E0
    have e2 : stlB b j n = b := by rw [stlB, E0]; rfl
    rw [E0, e2]
    replace F5 : Calls Try.prog 31 #[.pointer (some ⟨p, 0, none⟩), .int .i64 (j : Int)] w fun e w' => e = .returned (.bool false) ∧ w' = w := F5
    clear K HG E0 e2 h3 eS
    go_enter Try.func16, Try.ntmps16
    go_wp2_with fail
    refine F1.mono ?_
    rintro e w1 ⟨rfl, rfl⟩
    go_wp2_with fail
    refine F3.mono ?_
    rintro e w2 ⟨rfl, rfl⟩
    go_wp2_with fail
    refine F5.mono ?_
    rintro e w3 ⟨rfl, rfl⟩
    go_wp2_with fail
    go_ret
    exact ⟨rfl, HK.out, But.refl _ _⟩
  | some x =>
    obtain ⟨c, m⟩ := x
    rw [eS] at F5 E0
    replace E0 : stlE b (j : Int) n = if m < n then 2 else 0 := E0
    replace F5 : Calls Try.prog 31 #[.pointer (some ⟨p, 0, none⟩), .int .i64 (j : Int)] w fun e w' => e = .returned (.bool true) ∧ w' = w := F5
    obtain ⟨hc, hm⟩ := K.good.s j hj c m eS
    have h0 := K.cS
    have h1 := K.cA
    have s2 := K.good.s2
    have a2 := K.good.a2
    have t : (j : Int) < (b.nS : Int) := by omega
    have tc : (c : Int) < (b.nA : Int) := by omega
    have c0 := K.acc j hj
    have c1 := K.num j hj
    have c2 := K.som j hj
    have r1 := K.rea c hc
    rw [eS] at c0 c1
    replace c0 : w.cell? ⟨h, j * 3, none⟩ = some (.int .i64 (c : Int)) := c0
    replace c1 : w.cell? ⟨h, j * 3 + 1, none⟩ = some (.int .i64 m) := c1
    by_cases h6 : m < n
    · rw [if_pos h6] at E0
      have e2 : stlB b j n = b := by rw [stlB, E0]; rfl
      rw [E0, e2]
      clear HG E0 e2 h3 eS K c0 c2 r1
      go_enter Try.func16, Try.ntmps16
      go_wp2_with fail
      refine F1.mono ?_
      rintro e w1 ⟨rfl, rfl⟩
      go_wp2_with fail
      refine F3.mono ?_
      rintro e w2 ⟨rfl, rfl⟩
      go_wp2_with fail
      refine F5.mono ?_
      rintro e w3 ⟨rfl, rfl⟩
      go_wp2_with fail
      go_ret
      exact ⟨rfl, HK.out, But.refl _ _⟩
    · rw [if_neg h6] at E0
      have e2 : stlB b j n = setS (setD b c (b.D c + n)) j none := by
        rw [stlB, E0, Int.toNat_natCast, eS]; rfl
      rw [e2] at HG
      rw [E0, e2]
      have u0 := used_bounds K.good hc
      have u1 := K.good.l1 c hc
      have u2 := held_le K.good hj eS
      have u3 := K.good.d0 c hc
      have u4 : used b c = b.D c + part b c b.nS := rfl
      have v1 : b.D c + n ≤ 4611686018427387904 := by omega
      have v3 : 0 ≤ n := by omega
      have z0 := K.thh (j * 3)
      have z1 := K.thh (j * 3 + 1)
      have z2 := K.thh (j * 3 + 2)
      have z3 := K.thg (c * 2 + 1)
      have ngh : ¬ g = h := K.gh
      have nhg : ¬ h = g := fun e => K.gh e.symm
      have ngp : ¬ g = p := K.gp
      have HJ : Hid (j < b.nS) := hj
      have HC : Hid (c < b.nA) := hc
      have HS : Hid (b.S j = some (c, m)) := eS
      clear u0 u1 u2 u4 K E0 e2 h3 eS
      obtain ⟨d, hd⟩ : ∃ d, Hid (b.D c = d) := ⟨_, rfl⟩
      rw [hd.out] at r1 v1 u3
      have hwr : IntKind.i64.wrap (d + n) = d + n := by rw [IntKind.wrap_i64]; omega
      go_enter Try.func16, Try.ntmps16
      go_wp2_with fail
      refine F1.mono ?_
      rintro e w1 ⟨rfl, rfl⟩
      go_wp2_with fail
      refine F3.mono ?_
      rintro e w2 ⟨rfl, rfl⟩
      go_wp2_with fail
      refine F5.mono ?_
      rintro e w3 ⟨rfl, rfl⟩
      go_wp2_with fail
      go_region
      go_wp2_with fail
      go_ret
      refine ⟨rfl, BookAt.below (w := (((w3.setCell ⟨g, c * 2 + 1, none⟩ (.int .i64 (d + n))).setCell ⟨h, j * 3, none⟩ (.int .i64 0)).setCell ⟨h, j * 3 + 1, none⟩ (.int .i64 0)).setCell ⟨h, j * 3 + 2, none⟩ (.bool false)) ⟨?_, HG.out⟩ (below_drewN _ 1 _), ?_⟩
      · have := (HK.out.toMem.done c (b.D c + n)).slot j none
        rw [hd.out] at this ⊢
        exact this
      · exact (but_slot (But.setCell (S := own p g h) (But.refl _ w3) g (c * 2 + 1) (.int .i64 (d + n)) (fun _ => .inr (.inl rfl))) h j _ _ _ (.inr (.inr rfl))).drewN 1
set_option maxRecDepth 100000 in
set_option maxHeartbeats 4000000 in
theorem und_any {w : World} {B p g h : Nat} {b : Bk} (K : BookAt w B p g h b) (a n : Int) : Calls Try.prog 17 #[.pointer (some ⟨p, 0, none⟩), .int .i64 a, .int .i64 n] w fun e w' => e = .returned (.int .i64 (undE b a n)) ∧ BookAt w' B p g h (undB b a n) ∧ But (own p g h) w w' := by
  have F1 := made_yes K
  have F3 := hasA_any K a
  have HG : Hid (Good (undB b a n)) := und_good K.good a n
  have HK : Hid (BookAt w B p g h b) := K
  cases h3 : hasA b a
  · rw [h3] at F3
    have e1 : undE b a n = 2 := by rw [undE, if_pos h3]
    have e2 : undB b a n = b := by rw [undB, e1]; rfl
    rw [e1, e2]
    clear K HG e1 e2 h3
    go_enter Try.func17, Try.ntmps17
    go_wp2_with fail
    refine F1.mono ?_
    rintro e w1 ⟨rfl, rfl⟩
    go_wp2_with fail
    refine F3.mono ?_
    rintro e w2 ⟨rfl, rfl⟩
    go_wp2_with fail
    go_ret
    exact ⟨rfl, HK.out, But.refl _ _⟩
  obtain ⟨i, rfl, hi⟩ := hasA_nat h3
  have F4 := within_any n (b.D i) w
  have h1 := K.cA
  have a2 := K.good.a2
  have t : (i : Int) < (b.nA : Int) := by omega
  have r1 := K.rea i hi
  have E0 : undE b (i : Int) n = if (decide (0 ≤ n) && decide (n ≤ b.D i)) = true then 0 else 2 := by
    rw [undE, if_neg (by rw [h3]; decide), Int.toNat_natCast]
    by_cases q1 : n < 0
    · rw [if_pos q1, if_neg (by simp; omega)]
    · rw [if_neg q1]
      by_cases q2 : b.D i < n
      · rw [if_pos q2, if_neg (by simp; omega)]
      · rw [if_neg q2, if_pos (by simp; omega)]
  rw [h3] at F3
  cases h4 : (decide (0 ≤ n) && decide (n ≤ b.D i))
  · rw [h4] at F4
    rw [if_neg (by rw [h4]; decide)] at E0
    have e2 : undB b i n = b := by rw [undB, E0]; rfl
    rw [E0, e2]
    clear K HG E0 e2 h3 h4
    go_enter Try.func17, Try.ntmps17
    go_wp2_with fail
    refine F1.mono ?_
    rintro e w1 ⟨rfl, rfl⟩
    go_wp2_with fail
    refine F3.mono ?_
    rintro e w2 ⟨rfl, rfl⟩
    go_wp2_with fail
    refine F4.mono ?_
    rintro e w3 ⟨rfl, rfl⟩
    go_wp2_with fail
    go_ret
    exact ⟨rfl, HK.out, But.refl _ _⟩
  · rw [h4] at F4
    rw [if_pos h4] at E0
    have e2 : undB b i n = setD b i (b.D i - n) := by rw [undB, E0]; rfl
    rw [e2] at HG
    rw [E0, e2]
    have q := h4
    simp only [Bool.and_eq_true, decide_eq_true_eq] at q
    have q1 := q.1
    have q2 := q.2
    have u0 := used_bounds K.good hi
    have u1 := K.good.l1 i hi
    have u2 := (part_bounds K.good (a := i) (k := b.nS) (Nat.le_refl _)).1
    have u4 : used b i = b.D i + part b i b.nS := rfl
    have v1 : b.D i ≤ 4611686018427387904 := by omega
    have z3 := K.thg (i * 2 + 1)
    have HI : Hid (i < b.nA) := hi
    clear u0 u1 u2 u4 K E0 e2 h3 h4 q
    obtain ⟨d, hd⟩ : ∃ d, Hid (b.D i = d) := ⟨_, rfl⟩
    rw [hd.out] at r1 v1 q2 F4
    go_enter Try.func17, Try.ntmps17
    go_wp2_with fail
    refine F1.mono ?_
    rintro e w1 ⟨rfl, rfl⟩
    go_wp2_with fail
    refine F3.mono ?_
    rintro e w2 ⟨rfl, rfl⟩
    go_wp2_with fail
    refine F4.mono ?_
    rintro e w3 ⟨rfl, rfl⟩
    go_wp2_with fail
    go_ret
    refine ⟨rfl, ?_, But.setCell (S := own p g h) (But.refl _ _) g (i * 2 + 1) _ (fun _ => .inr (.inl rfl))⟩
    refine ⟨?_, HG.out⟩
    have := HK.out.toMem.done i (b.D i - n)
    rw [hd.out] at this ⊢
    exact this
theorem resN {w : World} {r : Value} (h : NoBook w r) (a s n : Int) : Calls Try.prog 14 #[r, .int .i64 a, .int .i64 s, .int .i64 n] w fun e w' => e = .returned (.int .i64 1) ∧ w' = w := by
  have F1 := made_no h
  go_enter Try.func14, Try.ntmps14
  go_wp2_with fail
  refine F1.mono ?_
  rintro e w1 ⟨rfl, rfl⟩
  go_wp2_with fail
  go_ret
  exact ⟨rfl, rfl⟩
theorem rszN {w : World} {r : Value} (h : NoBook w r) (s n : Int) : Calls Try.prog 15 #[r, .int .i64 s, .int .i64 n] w fun e w' => e = .returned (.int .i64 1) ∧ w' = w := by
  have F1 := made_no h
  go_enter Try.func15, Try.ntmps15
  go_wp2_with fail
  refine F1.mono ?_
  rintro e w1 ⟨rfl, rfl⟩
  go_wp2_with fail
  go_ret
  exact ⟨rfl, rfl⟩
theorem stlN {w : World} {r : Value} (h : NoBook w r) (s n : Int) : Calls Try.prog 16 #[r, .int .i64 s, .int .i64 n] w fun e w' => e = .returned (.int .i64 1) ∧ w' = w := by
  have F1 := made_no h
  go_enter Try.func16, Try.ntmps16
  go_wp2_with fail
  refine F1.mono ?_
  rintro e w1 ⟨rfl, rfl⟩
  go_wp2_with fail
  go_ret
  exact ⟨rfl, rfl⟩
theorem undN {w : World} {r : Value} (h : NoBook w r) (a n : Int) : Calls Try.prog 17 #[r, .int .i64 a, .int .i64 n] w fun e w' => e = .returned (.int .i64 1) ∧ w' = w := by
  have F1 := made_no h
  go_enter Try.func17, Try.ntmps17
  go_wp2_with fail
  refine F1.mono ?_
  rintro e w1 ⟨rfl, rfl⟩
  go_wp2_with fail
  go_ret
  exact ⟨rfl, rfl⟩
end Go.Proofs.Ytcjdbfmglckdkaa.RK
