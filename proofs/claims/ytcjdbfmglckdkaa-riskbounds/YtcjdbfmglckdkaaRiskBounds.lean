/-
  RiskBounds: whatever is done, an account uses from nothing to its limit, which is what its slots hold and what was realised; and what is done for one account changes nothing of another. For every list of limits, every number of slots and every list of steps, no condition.
-/
import Derived.Test.YtcjdbfmglckdkaaRkWho
import Derived.Test.YtcjdbfmglckdkaaFrame3
import Derived.Test.YtcjdbfmglckdkaaFrame17
namespace Go.Proofs.Ytcjdbfmglckdkaa
open Go.ChangeShapes Go.WideShapes Go.ChangeAt Go.RowKit Go.Lib RK

set_option maxRecDepth 100000 in
set_option maxHeartbeats 16000000 in
theorem bounds_long (w : World) (L : Nat → Int) (n : Nat) (v : Value) (row : Row w v n fun i => .int .i64 (L i)) (s : Int) (vo : Value) (no : Nat) (C V Q X : Nat → Int) (ops : Ops w vo no C V Q X) (hn : 16 < n) : Calls Try.prog 5 #[v, .int .i64 s, vo] w fun e w' => e = .returned (.bool true) ∧ Below w.heap.size w w' := by
  have F1 := awake_any w
  obtain ⟨a0, cap0, rfl, _, _, _⟩ := row
  obtain ⟨a1, cap1, rfl, _, _, _⟩ := ops
  have t : (16 : Int) < (n : Int) := by omega
  go_enter Try.func5, Try.ntmps5
  go_wp2_with fail
  refine F1.mono ?_
  rintro e w1 ⟨rfl, hb⟩
  go_wp2_with fail
  go_ret
  exact ⟨rfl, hb⟩
set_option maxRecDepth 100000 in
set_option maxHeartbeats 16000000 in
theorem bounds_many (w : World) (L : Nat → Int) (n : Nat) (v : Value) (row : Row w v n fun i => .int .i64 (L i)) (s : Int) (vo : Value) (no : Nat) (C V Q X : Nat → Int) (ops : Ops w vo no C V Q X) (hn : n ≤ 16 ∧ 100 < no) : Calls Try.prog 5 #[v, .int .i64 s, vo] w fun e w' => e = .returned (.bool true) ∧ Below w.heap.size w w' := by
  have F1 := awake_any w
  obtain ⟨a0, cap0, rfl, _, _, _⟩ := row
  obtain ⟨a1, cap1, rfl, _, _, _⟩ := ops
  have t0 : ¬ (16 : Int) < (n : Int) := by omega
  have t : (100 : Int) < (no : Int) := by omega
  go_enter Try.func5, Try.ntmps5
  go_wp2_with fail
  refine F1.mono ?_
  rintro e w1 ⟨rfl, hb⟩
  go_wp2_with fail
  go_ret
  exact ⟨rfl, hb⟩
set_option maxRecDepth 100000 in
set_option maxHeartbeats 16000000 in
theorem bounds_out (w : World) (L : Nat → Int) (n : Nat) (v : Value) (row : Row w v n fun i => .int .i64 (L i)) (s : Int) (vo : Value) (no : Nat) (C V Q X : Nat → Int) (ops : Ops w vo no C V Q X) (hn : n ≤ 16) (hno : no ≤ 100) (ho : n < 1 ∨ 16 < n ∨ s < 1 ∨ 64 < s) : Calls Try.prog 5 #[v, .int .i64 s, vo] w fun e w' => e = .returned (.bool true) ∧ Below w.heap.size w w' := by
  have F1 := awake_any w
  have F2 := fun w1 (hb : Below w.heap.size w w1) => new_out (row.below hb) s ho
  obtain ⟨a0, cap0, rfl, _, _, _⟩ := row
  obtain ⟨a1, cap1, rfl, _, _, _⟩ := ops
  have t0 : ¬ (16 : Int) < (n : Int) := by omega
  have t : ¬ (100 : Int) < (no : Int) := by omega
  clear ho
  go_enter Try.func5, Try.ntmps5
  go_wp2_with fail
  refine F1.mono ?_
  rintro e w1 ⟨rfl, hb⟩
  go_wp2_with fail
  refine (F2 _ hb).mono ?_
  rintro e w2 ⟨rfl, rfl⟩
  go_wp2_with fail
  go_ret
  exact ⟨by simp, hb⟩
set_option maxRecDepth 100000 in
set_option maxHeartbeats 16000000 in
theorem bounds_in (w : World) (L : Nat → Int) (n : Nat) (v : Value) (row : Row w v n fun i => .int .i64 (L i)) (m : Nat) (vo : Value) (no : Nat) (C V Q X : Nat → Int) (ops : Ops w vo no C V Q X) (hno : no ≤ 100) (a1 : 1 ≤ n) (a2 : n ≤ 16) (s1 : 1 ≤ m) (s2 : m ≤ 64) : Calls Try.prog 5 #[v, .int .i64 (m : Int), vo] w fun e w' => e = .returned (.bool true) ∧ Below w.heap.size w w' := by
  have F1 := awake_any w
  have F2 := fun w1 (hb : Below w.heap.size w w1) => new_in (row.below hb) a1 a2 s1 s2 w.heap.size hb.size
  obtain ⟨lb, lo, capv, rfl, HL3⟩ : ∃ lb lo c, v = .slice (some ⟨lb, lo, none⟩) n c ∧ Hid (∀ i, i < n → w.cell? ⟨lb, lo + i, none⟩ = some (.int .i64 (L i))) := by
    obtain ⟨a0, cap0, rfl, l1, l2, l3⟩ := row
    obtain ⟨lb, lo, rfl, c0⟩ := l3 0 (by omega)
    refine ⟨lb, lo, cap0, rfl, fun i hi => ?_⟩
    obtain ⟨b', o', e, c⟩ := l3 i hi
    injection e with e
    injection e with e1 e2
    subst e1 e2
    exact c
  have cv : n ≤ capv ∧ capv ≤ 9223372036854775807 := by
    obtain ⟨a0, cap0, e, l1, l2, _⟩ := row
    injection e with _ _ e3
    subst e3
    unfold maxLen at l2
    exact ⟨l1, by omega⟩
  obtain ⟨ao, capo, rfl, o1, o2, o3⟩ := ops
  have hmk := run_make_ints n (by omega)
  have HL : Hid (∀ (W : World) (b : Bk), Lst (W.alloc (.cells (madeCells #[.int .i64 0] n) 3)) W.heap.size n 0 (used b)) := fun W b => Lst.new W n (used b)
  obtain ⟨A, HA⟩ : ∃ A, madeCells #[.int .i64 0] n = A := ⟨_, rfl⟩
  rw [HA] at hmk HL
  have t0 : ¬ (16 : Int) < (n : Int) := by omega
  have t : ¬ (100 : Int) < (no : Int) := by omega
  clear row HA
  go_enter Try.func5, Try.ntmps5
  go_wp2_with fail
  refine F1.mono ?_
  rintro e w1 ⟨rfl, hb1⟩
  clear F1
  go_wp2_with fail
  refine (F2 _ hb1).mono ?_
  rintro e w2 ⟨B2, ⟨rfl, i, hi, hbad⟩ | ⟨rfl, FT, K2, _⟩⟩
  · have hb2 := hb1.trans (B2.mono hb1.size)
    clear F2 hb1 B2
    go_wp2_with fail
    go_ret
    exact ⟨by simp, hb2⟩
  · have hb2 := hb1.trans (B2.mono hb1.size)
    obtain ⟨P, hP⟩ : ∃ P, P = w1.heap.size + 2 := ⟨_, rfl⟩
    obtain ⟨g, h, K⟩ : ∃ g h, BookAt w2 w.heap.size P g h (newB n L m) := ⟨_, _, by rw [hP]; exact K2⟩
    rw [← hP]
    have I0 : Hid (Bx w w2 P g h (newB n L m)) := ⟨K, hb2⟩
    clear F2 hb1 B2 K2 K FT hP hb2
    go_wp2_with fail
    go_loopw [43] (fun c wr => ∃ k : Nat, c = .int .i64 (k : Int) ∧ k ≤ no ∧ ∃ b : Bk, b.nA = n ∧ b.nS = m ∧ b.L = L ∧ Hid (Bx w wr P g h b)) (fun c _ => no - (RowKit.intOf c).toNat)
    case atStart => exact ⟨0, rfl, Nat.zero_le _, _, rfl, rfl, rfl, I0.out⟩
    case round =>
      clear I0
      obtain ⟨k, rfl, hk, b, nb, mb, lb1, I⟩ := hrel
      have lb0 : Hid (b.L = L) := lb1
      clear lb1
      by_cases hlt : k < no
      · have t1 : (k : Int) < (no : Int) := by omega
        obtain ⟨qb, off, rfl, c0, c1, c2, c3⟩ := o3 k hlt
        have lt0 := World.block_lt_of_cell? _ _ c0
        have d0 : wr.cell? ⟨qb, off + k * 4, none⟩ = some (.int .i64 (C k)) := (I.out.bel.cell (p := ⟨qb, off + k * 4, none⟩) lt0).trans c0
        have d1 : wr.cell? ⟨qb, off + k * 4 + 1, none⟩ = some (.int .i64 (V k)) := (I.out.bel.cell (p := ⟨qb, off + k * 4 + 1, none⟩) lt0).trans c1
        have d2 : wr.cell? ⟨qb, off + k * 4 + 2, none⟩ = some (.int .i64 (Q k)) := (I.out.bel.cell (p := ⟨qb, off + k * 4 + 2, none⟩) lt0).trans c2
        have d3 : wr.cell? ⟨qb, off + k * 4 + 3, none⟩ = some (.int .i64 (X k)) := (I.out.bel.cell (p := ⟨qb, off + k * 4 + 3, none⟩) lt0).trans c3
        clear c0 c1 c2 c3 lt0
        generalize C k = xc at *
        generalize V k = xv at *
        generalize Q k = xq at *
        generalize X k = xx at *
        have bw := (Below.refl wr.heap.size wr).alloc (Nat.le_refl _) (.cells #[.int .i64 xc, .int .i64 xv, .int .i64 xq, .int .i64 xx] 33)
        have X1 := I.out.still bw
        have B1 := Box4.new wr xc xv xq xx 33
        have z1 : (wr.alloc (.cells #[.int .i64 xc, .int .i64 xv, .int .i64 xq, .int .i64 xx] 33)).heap.size = wr.heap.size + 1 := by simp
        have L1 := HL.out (wr.alloc (.cells #[.int .i64 xc, .int .i64 xv, .int .i64 xq, .int .i64 xx] 33)) b
        have bw2 := (Below.refl (wr.alloc (.cells #[.int .i64 xc, .int .i64 xv, .int .i64 xq, .int .i64 xx] 33)).heap.size (wr.alloc (.cells #[.int .i64 xc, .int .i64 xv, .int .i64 xq, .int .i64 xx] 33))).alloc (Nat.le_refl _) (.cells A 3)
        obtain ⟨ub, hub⟩ : ∃ ub, ub = wr.heap.size + 1 := ⟨_, rfl⟩
        obtain ⟨ob, hob⟩ : ∃ ob, ob = wr.heap.size := ⟨_, rfl⟩
        rw [z1, ← hub] at L1
        rw [← hob] at B1
        have I1 : Hid (Bx w ((wr.alloc (.cells #[.int .i64 xc, .int .i64 xv, .int .i64 xq, .int .i64 xx] 33)).alloc (.cells A 3)) P g h b ∧ Box4 ((wr.alloc (.cells #[.int .i64 xc, .int .i64 xv, .int .i64 xq, .int .i64 xx] 33)).alloc (.cells A 3)) ob xc xv xq xx ∧ Lst ((wr.alloc (.cells #[.int .i64 xc, .int .i64 xv, .int .i64 xq, .int .i64 xx] 33)).alloc (.cells A 3)) ub n 0 (used b)) := ⟨X1.still bw2, B1.below bw2, L1⟩
        have HO : Hid (¬ own P g h ob) := fun e => by have := (I.out.bk.low _ e).2; omega
        have HN : Hid (¬ own P g h ub ∧ w.heap.size ≤ ub ∧ ¬ ob = ub) := ⟨fun e => by have := (I.out.bk.low _ e).2; omega, by have := I.out.bel.size; omega, by omega⟩
        clear I bw X1 B1 z1 L1 bw2 o3
        go_wp2_with fail
        rw [← hub, ← hob]
        generalize (wr.alloc (.cells #[.int .i64 xc, .int .i64 xv, .int .i64 xq, .int .i64 xx] 33)).alloc (.cells A 3) = W3 at *
        clear hub hob hmk d0 d1 d2 d3
        go_loopw [52] (fun c wr => ∃ j : Nat, c = .int .i64 (j : Int) ∧ j ≤ n ∧ Hid (Bx w wr P g h b ∧ Box4 wr ob xc xv xq xx ∧ Lst wr ub n j (used b))) (fun c _ => n - (RowKit.intOf c).toNat)
        case atStart => exact ⟨0, rfl, Nat.zero_le _, I1.out⟩
        case round =>
          clear I1
          obtain ⟨j, rfl, hj, I⟩ := hrel
          by_cases hltj : j < n
          · have t1 : (j : Int) < (n : Int) := by omega
            have U := usedB I.out.1 j (by rw [nb]; exact hltj) wr (Below.refl _ _)
            obtain ⟨y, hy⟩ : ∃ y, Hid (used b j = y) := ⟨_, rfl⟩
            rw [hy.out] at U
            go_wp2_with fail
            refine U.mono ?_
            rintro e w5 ⟨rfl, hb5⟩
            have X5 := I.out.1.still hb5
            have L5 := I.out.2.2.below hb5
            have z0 := L5.th j
            have o0 := L5.hi j (Nat.le_refl _) hltj
            have J : Hid (Bx w (w5.setCell ⟨ub, j, none⟩ (.int .i64 y)) P g h b ∧ Box4 (w5.setCell ⟨ub, j, none⟩ (.int .i64 y)) ob xc xv xq xx ∧ Lst (w5.setCell ⟨ub, j, none⟩ (.int .i64 y)) ub n (j + 1) (used b)) := by
              refine ⟨X5.set _ _ HN.out.1 HN.out.2.1, (I.out.2.1.below hb5).kept (But.setCell (S := fun i => i = ub) (But.refl _ w5) ub j _ (fun _ => rfl)) (fun e => HN.out.2.2 e), ?_⟩
              have := L5.next hltj
              rw [hy.out] at this
              exact this
            clear X5 L5 I U hb5
            go_wp2_with fail
            go_roundw
            case rel => exact ⟨j + 1, by simp, by omega, J.out⟩
            case measure => simp [RowKit.intOf]; omega
          · obtain rfl : j = n := by omega
            have t1 : ¬ (j : Int) < (j : Int) := by omega
            obtain ⟨n, hjn⟩ : ∃ n, n = j := ⟨_, rfl⟩
            subst hjn
            have c0 := I.out.2.1.c0
            have c1 := I.out.2.1.c1
            have c2 := I.out.2.1.c2
            have c3 := I.out.2.1.c3
            obtain ⟨who, hw1, hw2⟩ : ∃ who, Hid ((xc = 2 ∨ xc = 3) → whoA b xq = who) ∧ Hid (¬ (xc = 2 ∨ xc = 3) → xv = who) := by
              by_cases e : xc = 2 ∨ xc = 3
              · exact ⟨whoA b xq, fun _ => rfl, fun h => absurd e h⟩
              · exact ⟨xv, fun h => absurd h e, fun _ => rfl⟩
            obtain ⟨T, hT1, hT2⟩ : ∃ T, Hid ((xc = 2 ∨ xc = 3) → T = true) ∧ Hid (¬ (xc = 2 ∨ xc = 3) → T = false) := by
              by_cases e : xc = 2 ∨ xc = 3
              · exact ⟨true, fun _ => rfl, fun h => absurd e h⟩
              · exact ⟨false, fun h => absurd h e, fun _ => rfl⟩
            have hw3 : Hid (T = true → whoA b xq = who) := fun h => by
              by_cases e : xc = 2 ∨ xc = 3
              · exact hw1.out e
              · rw [hT2.out e] at h; cases h
            have hw4 : Hid (T = false → xv = who) := fun h => by
              by_cases e : xc = 2 ∨ xc = 3
              · rw [hT1.out e] at h; cases h
              · exact hw2.out e
            go_upto_region 18 with fail
            go_cut [71] (fun c wx => c = .bool T ∧ wx = wr)
            case first =>
              by_cases k2 : xc = 2
              · have eT : T = true := hT1.out (.inl k2)
                clear hw1 hw2 hw3 hw4 hT1 hT2 I
                subst k2 eT
                go_wp2_with fail
                go_meet
                case rel => exact ⟨rfl, rfl⟩
              by_cases k3 : xc = 3
              · have eT : T = true := hT1.out (.inr k3)
                clear hw1 hw2 hw3 hw4 hT1 hT2 I
                subst k3 eT
                go_wp2_with fail
                go_meet
                case rel => exact ⟨rfl, rfl⟩
              · have eT : T = false := hT2.out (fun e => e.elim k2 k3)
                have e2 : (xc == 2) = false := beq_false_of_ne k2
                have e3 : (xc == 3) = false := beq_false_of_ne k3
                clear hw1 hw2 hw3 hw4 hT1 hT2 I
                subst eT
                go_wp2_with fail
                go_meet
                case rel => exact ⟨by simp, rfl⟩
            case rest =>
             obtain ⟨rfl, rfl⟩ := hcut
             go_upto_if 71 with fail
             go_cut [13] (fun c wx => c = .int .i64 who ∧ Hid (Bx w wx P g h b ∧ Box4 wx ob xc xv xq xx ∧ Lst wx ub n n (used b)))
             case first =>
               cases eT : T
               · have ew : Hid (xv = who) := hw4.out eT
                 clear hw1 hw2 hw3 hw4 hT1 hT2
                 subst eT
                 go_wp2_with fail
                 go_meet
                 case rel => exact ⟨by rw [ew.out], I.out⟩
               · have HD := heldB I.out.1 xq
                 rw [hw3.out eT] at HD
                 generalize whoN b xq = whn at *
                 generalize whoB b xq = whb at *
                 clear hw1 hw2 hw3 hw4 hT1 hT2
                 subst eT
                 go_wp2_with fail
                 refine HD.mono ?_
                 rintro e w5 ⟨rfl, hb5⟩
                 have J : Hid (Bx w w5 P g h b ∧ Box4 w5 ob xc xv xq xx ∧ Lst w5 ub n n (used b)) := ⟨I.out.1.still hb5, I.out.2.1.below hb5, I.out.2.2.below hb5⟩
                 clear I HD hb5 c0 c1 c2 c3
                 go_wp2_with fail
                 go_meet
                 case rel => exact ⟨rfl, J.out⟩
             case rest =>
               obtain ⟨rfl, I⟩ := hcut
               clear c0 c1 c2 c3
               have c0 := I.out.2.1.c0
               have c1 := I.out.2.1.c1
               have c2 := I.out.2.1.c2
               have c3 := I.out.2.1.c3
               clear hw3 hw4 hT1 hT2
               go_upto_block 4 with fail
               go_cut [] (fun wx => ∃ b' : Bk, b'.nA = n ∧ b'.nS = m ∧ Hid (b'.L = L) ∧ Hid (∀ c : Nat, ¬ (c : Int) = who → used b' c = used b c) ∧ Hid (Bx w wx P g h b' ∧ Lst wx ub n n (used b)))
               case first =>
                 by_cases k1 : xc = 1
                 · subst k1
                   have G := res_any I.out.1.bk xv xq xx
                   have HU : Hid (∀ c : Nat, ¬ (c : Int) = who → used (resB b xv xq xx) c = used b c) := fun c h => res_other b xv xq xx c (by rw [hw2.out (by decide)]; exact h)
                   have n2 : (resB b xv xq xx).nA = n := by rw [resB_nA]; exact nb
                   have m2 : (resB b xv xq xx).nS = m := by rw [resB_nS]; exact mb
                   have l2 : Hid ((resB b xv xq xx).L = L) := by show (resB b xv xq xx).L = L; rw [resB_L]; exact lb0.out
                   generalize resE b xv xq xx = E at *
                   obtain ⟨b', hb'⟩ : ∃ b', resB b xv xq xx = b' := ⟨_, rfl⟩
                   rw [hb'] at HU n2 m2 l2 G
                   clear hb' hw1 hw2
                   go_wp2_with fail
                   refine G.mono ?_
                   rintro e w6 ⟨rfl, K6, k6⟩
                   have I3 : Hid (Bx w w6 P g h b' ∧ Lst w6 ub n n (used b)) := ⟨I.out.1.put K6 k6, I.out.2.2.kept k6 HN.out.1⟩
                   clear I K6 k6 G c0 c1 c2 c3
                   go_wp2_with fail
                   go_meet
                   case rel => exact ⟨b', n2, m2, l2, HU, I3⟩
                 by_cases k2 : xc = 2
                 · subst k2
                   have G := rsz_any I.out.1.bk xq xx
                   have HU : Hid (∀ c : Nat, ¬ (c : Int) = who → used (rszB b xq xx) c = used b c) := fun c h => rsz_other b xq xx c (fun j e hj => who_other (by rw [hw1.out (by decide)]; exact h) j e hj)
                   have n2 : (rszB b xq xx).nA = n := by rw [rszB_nA]; exact nb
                   have m2 : (rszB b xq xx).nS = m := by rw [rszB_nS]; exact mb
                   have l2 : Hid ((rszB b xq xx).L = L) := by show (rszB b xq xx).L = L; rw [rszB_L]; exact lb0.out
                   generalize rszE b xq xx = E at *
                   obtain ⟨b', hb'⟩ : ∃ b', rszB b xq xx = b' := ⟨_, rfl⟩
                   rw [hb'] at HU n2 m2 l2 G
                   clear hb' hw1 hw2
                   go_wp2_with fail
                   refine G.mono ?_
                   rintro e w6 ⟨rfl, K6, k6⟩
                   have I3 : Hid (Bx w w6 P g h b' ∧ Lst w6 ub n n (used b)) := ⟨I.out.1.put K6 k6, I.out.2.2.kept k6 HN.out.1⟩
                   clear I K6 k6 G c0 c1 c2 c3
                   go_wp2_with fail
                   go_meet
                   case rel => exact ⟨b', n2, m2, l2, HU, I3⟩
                 by_cases k3 : xc = 3
                 · subst k3
                   have G := stl_any I.out.1.bk xq xx
                   have HU : Hid (∀ c : Nat, ¬ (c : Int) = who → used (stlB b xq xx) c = used b c) := fun c h => stl_other b xq xx c (fun j e hj => who_other (by rw [hw1.out (by decide)]; exact h) j e hj)
                   have n2 : (stlB b xq xx).nA = n := by rw [stlB_nA]; exact nb
                   have m2 : (stlB b xq xx).nS = m := by rw [stlB_nS]; exact mb
                   have l2 : Hid ((stlB b xq xx).L = L) := by show (stlB b xq xx).L = L; rw [stlB_L]; exact lb0.out
                   generalize stlE b xq xx = E at *
                   obtain ⟨b', hb'⟩ : ∃ b', stlB b xq xx = b' := ⟨_, rfl⟩
                   rw [hb'] at HU n2 m2 l2 G
                   clear hb' hw1 hw2
                   go_wp2_with fail
                   refine G.mono ?_
                   rintro e w6 ⟨rfl, K6, k6⟩
                   have I3 : Hid (Bx w w6 P g h b' ∧ Lst w6 ub n n (used b)) := ⟨I.out.1.put K6 k6, I.out.2.2.kept k6 HN.out.1⟩
                   clear I K6 k6 G c0 c1 c2 c3
                   go_wp2_with fail
                   go_meet
                   case rel => exact ⟨b', n2, m2, l2, HU, I3⟩
                 by_cases k4 : xc = 4
                 · subst k4
                   have G := und_any I.out.1.bk xv xx
                   have HU : Hid (∀ c : Nat, ¬ (c : Int) = who → used (undB b xv xx) c = used b c) := fun c h => und_other b xv xx c (by rw [hw2.out (by decide)]; exact h)
                   have n2 : (undB b xv xx).nA = n := by rw [undB_nA]; exact nb
                   have m2 : (undB b xv xx).nS = m := by rw [undB_nS]; exact mb
                   have l2 : Hid ((undB b xv xx).L = L) := by show (undB b xv xx).L = L; rw [undB_L]; exact lb0.out
                   generalize undE b xv xx = E at *
                   obtain ⟨b', hb'⟩ : ∃ b', undB b xv xx = b' := ⟨_, rfl⟩
                   rw [hb'] at HU n2 m2 l2 G
                   clear hb' hw1 hw2
                   go_wp2_with fail
                   refine G.mono ?_
                   rintro e w6 ⟨rfl, K6, k6⟩
                   have I3 : Hid (Bx w w6 P g h b' ∧ Lst w6 ub n n (used b)) := ⟨I.out.1.put K6 k6, I.out.2.2.kept k6 HN.out.1⟩
                   clear I K6 k6 G c0 c1 c2 c3
                   go_wp2_with fail
                   go_meet
                   case rel => exact ⟨b', n2, m2, l2, HU, I3⟩
                 · have I3 : Hid (Bx w wc P g h b ∧ Lst wc ub n n (used b)) := ⟨I.out.1, I.out.2.2⟩
                   have e1 : (xc == 1) = false := beq_false_of_ne k1
                   have e2 : (xc == 2) = false := beq_false_of_ne k2
                   have e3 : (xc == 3) = false := beq_false_of_ne k3
                   have e4 : (xc == 4) = false := beq_false_of_ne k4
                   clear I hw1 hw2
                   go_wp2_with fail
                   go_meet
                   case rel => exact ⟨b, nb, mb, lb0, fun _ _ => rfl, I3⟩
               case rest =>
                 obtain ⟨b', n2, m2, l2, HU, I3⟩ := hcut
                 clear hw1 hw2 I c0 c1 c2 c3
                 go_wp2_with fail
                 go_loopw [118] (fun c wr => ∃ a : Nat, c = .int .i64 (a : Int) ∧ a ≤ n ∧ Hid (Bx w wr P g h b' ∧ Lst wr ub n n (used b))) (fun c _ => n - (RowKit.intOf c).toNat)
                 case atStart => exact ⟨0, rfl, Nat.zero_le _, I3.out⟩
                 case round =>
                   clear I3
                   obtain ⟨a, rfl, ha, I⟩ := hrel
                   by_cases hlt : a < n
                   · have t2 : (a : Int) < (n : Int) := by omega
                     have x0 : wr.cell? ⟨lb, lo + a, none⟩ = some (.int .i64 (L a)) := (I.out.1.bel.cell (p := ⟨lb, lo + a, none⟩) (World.block_lt_of_cell? _ _ (HL3.out a hlt))).trans (HL3.out a hlt)
                     have Re := real_yes I.out.1.bk a (by rw [n2]; exact hlt)
                     have HA : Hid (a < b'.nA) := by show a < b'.nA; rw [n2]; exact hlt
                     have HLa : Hid (b'.L a = L a) := by show b'.L a = L a; rw [l2.out]
                     obtain ⟨x, hx⟩ : ∃ x, Hid (L a = x) := ⟨_, rfl⟩
                     rw [hx.out] at x0
                     have hd0 := I.out.1.bk.good.d0 a HA.out
                     have hp0 : Hid (b'.D a + RK.part b' a 0 = b'.D a) := by show b'.D a + 0 = b'.D a; omega
                     go_wp2_with fail
                     refine Re.mono ?_
                     rintro e w9 ⟨rfl, rfl⟩
                     clear Re x0
                     go_wp2_with fail
                     go_loopw [127, 16] (fun c u wr => ∃ i : Nat, c = .int .i64 (i : Int) ∧ u = .int .i64 (b'.D a + RK.part b' a i) ∧ i ≤ m ∧ Hid (Bx w wr P g h b' ∧ Lst wr ub n n (used b))) (fun c _ _ => m - (RowKit.intOf c).toNat)
                     case atStart => exact ⟨0, rfl, by rw [hp0.out], Nat.zero_le _, I.out⟩
                     case round =>
                       clear I
                       obtain ⟨i, rfl, rfl, hi, I⟩ := hrel
                       by_cases hlt2 : i < m
                       · have t3 : (i : Int) < (m : Int) := by omega
                         have hiS : i < b'.nS := by rw [m2]; exact hlt2
                         have H := held_yes I.out.1.bk i hiS
                         have q1 := part_bounds I.out.1.bk.good (a := a) (k := i) (by omega)
                         have q2 := part_bounds I.out.1.bk.good (a := a) (k := i + 1) (by omega)
                         have q3 : RK.part b' a (i + 1) = RK.part b' a i + amt (b'.S i) a := part_succ b' a i
                         have q4 := amt_nonneg I.out.1.bk.good hiS a
                         have q5 := used_bounds I.out.1.bk.good HA.out
                         have q6 := I.out.1.bk.good.l1 a HA.out
                         have q7 : used b' a = b'.D a + RK.part b' a b'.nS := rfl
                         have r1 : 0 ≤ b'.D a + RK.part b' a i := by omega
                         have r2 : b'.D a + RK.part b' a i + amt (b'.S i) a ≤ 4611686018427387904 := by omega
                         have HQ : Hid (b'.D a + RK.part b' a (i + 1) = b'.D a + RK.part b' a i + amt (b'.S i) a) := by show b'.D a + RK.part b' a (i + 1) = b'.D a + RK.part b' a i + amt (b'.S i) a; omega
                         clear q1 q2 q3 q5 q6 q7
                         obtain ⟨U, hu⟩ : ∃ U, Hid (b'.D a + RK.part b' a i = U) := ⟨_, rfl⟩
                         rw [hu.out] at r1 r2 HQ ⊢
                         cases eS : b'.S i with
                         | none =>
                           rw [eS] at H HQ
                           rw [amt_none] at HQ
                           replace H : Calls Try.prog 13 #[.pointer (some ⟨P, 0, none⟩), .int .i64 (i : Int)] wr fun e w' => e = .returned (.tuple #[.int .i64 0, .int .i64 0, .bool false]) ∧ Below wr.heap.size wr w' := H
                           clear r2 q4 eS
                           go_wp2_with fail
                           refine H.mono ?_
                           rintro e w10 ⟨rfl, hb10⟩
                           have J : Hid (Bx w w10 P g h b' ∧ Lst w10 ub n n (used b)) := ⟨I.out.1.still hb10, I.out.2.below hb10⟩
                           clear I hb10 H
                           go_wp2_with fail
                           go_roundw
                           case rel => exact ⟨i + 1, by simp, by rw [HQ.out, Int.add_zero], by omega, J.out⟩
                           case measure => simp [RowKit.intOf]; omega
                         | some z =>
                           obtain ⟨c, q⟩ := z
                           rw [eS] at H HQ r2 q4
                           rw [amt_some] at HQ r2 q4
                           replace H : Calls Try.prog 13 #[.pointer (some ⟨P, 0, none⟩), .int .i64 (i : Int)] wr fun e w' => e = .returned (.tuple #[.int .i64 (c : Int), .int .i64 q, .bool true]) ∧ Below wr.heap.size wr w' := H
                           clear eS
                           by_cases ec : c = a
                           · subst ec
                             rw [if_pos rfl] at HQ r2 q4
                             go_wp2_with fail
                             refine H.mono ?_
                             rintro e w10 ⟨rfl, hb10⟩
                             have J : Hid (Bx w w10 P g h b' ∧ Lst w10 ub n n (used b)) := ⟨I.out.1.still hb10, I.out.2.below hb10⟩
                             clear I hb10 H
                             go_wp2_with fail
                             go_roundw
                             case rel => exact ⟨i + 1, by simp, by rw [HQ.out], by omega, J.out⟩
                             case measure => simp [RowKit.intOf]; omega
                           · rw [if_neg ec] at HQ
                             have ec1 : ¬ (c : Int) = (a : Int) := by omega
                             have ec2 : ((c : Int) == (a : Int)) = false := beq_false_of_ne ec1
                             clear r2 q4
                             go_wp2_with fail
                             refine H.mono ?_
                             rintro e w10 ⟨rfl, hb10⟩
                             have J : Hid (Bx w w10 P g h b' ∧ Lst w10 ub n n (used b)) := ⟨I.out.1.still hb10, I.out.2.below hb10⟩
                             clear I hb10 H
                             go_wp2_with fail
                             go_roundw
                             case rel => exact ⟨i + 1, by simp, by rw [HQ.out, Int.add_zero], by omega, J.out⟩
                             case measure => simp [RowKit.intOf]; omega
                       · obtain rfl : i = m := by omega
                         have t3 : ¬ (i : Int) < (i : Int) := by omega
                         have eU : b'.D a + RK.part b' a i = used b' a := by rw [← m2]; rfl
                         have U1 := usedB I.out.1 a HA.out
                         have L1 := leftB I.out.1 a HA.out
                         rw [HLa.out, hx.out] at L1
                         have q5 := used_bounds I.out.1.bk.good HA.out
                         have q6 := I.out.1.bk.good.l1 a HA.out
                         rw [HLa.out, hx.out] at q5 q6
                         have v1 := q5.1
                         have v2 := q5.2
                         have d0 := I.out.2.lo a hlt
                         have y0 := I.out.2.lt
                         have HUa : Hid (¬ (a : Int) = who → used b' a = used b a) := HU.out a
                         rw [eU]
                         clear q5 eU
                         obtain ⟨y, hy⟩ : ∃ y, Hid (used b' a = y) := ⟨_, rfl⟩
                         rw [hy.out] at U1 L1 v1 v2 HUa ⊢
                         have hwr : IntKind.i64.wrap (x - y) = x - y := by rw [IntKind.wrap_i64]; omega
                         have g1 : decide (y < 0) = false := decide_eq_false (by omega)
                         have g2 : decide (x < y) = false := decide_eq_false (by omega)
                         go_upto_region 40 with fail
                         go_cut [184] (fun c wx => c = .bool false ∧ Hid (Bx w wx P g h b' ∧ Lst wx ub n n (used b)))
                         case first =>
                           by_cases ew : (a : Int) = who
                           · subst ew
                             refine wp_region_held_drew (S := fun _ => True) (by kernel_rfl) trivial (fun _ => ?_)
                             refine wpAnyH_take (i := 0) (v := .pointer (some ⟨P, 0, none⟩)) rfl (by kernel_rfl) (by kernel_rfl) (by kernel_rfl) (fun _ _ _ h => h) (Or.inl ⟨by rfl, fun _ _ => by first | (go_simp; done) | (go_simp; simp [*]; done) | (go_simp; rfl)⟩) trivial ?_
                             try simp only [Act.put, List.setIfInBounds_toArray, List.set_cons_zero, List.set_cons_succ, List.getElem_toArray, List.getElem_cons_zero]
                             refine wpAnyH_take (i := 1) (v := .int .i64 (a : Int)) rfl (by kernel_rfl) (by kernel_rfl) (by kernel_rfl) (fun _ _ _ h => h) (Or.inl ⟨by rfl, fun _ _ => by first | (go_simp; done) | (go_simp; simp [*]; done) | (go_simp; rfl)⟩) trivial ?_
                             try simp only [Act.put, List.setIfInBounds_toArray, List.set_cons_zero, List.set_cons_succ, List.getElem_toArray, List.getElem_cons_zero, List.getElem_cons_succ]
                             refine wpAnyH_take (i := 3) (v := .int .i64 y) rfl (by kernel_rfl) (by kernel_rfl) (by kernel_rfl) (fun _ _ _ h => h) (Or.inl ⟨by rfl, fun _ _ => by first | (go_simp; done) | (go_simp; simp [*]; done) | (go_simp; rfl)⟩) trivial ?_
                             try simp only [Act.put, List.setIfInBounds_toArray, List.set_cons_zero, List.set_cons_succ, List.getElem_toArray, List.getElem_cons_zero, List.getElem_cons_succ]
                             refine wpAnyH_ready (rs := [2]) (by kernel_rfl) (by simp) ?_
                             refine AllReadyH.cons rfl (fun K hK => ?_) AllReadyH.nil
                             go_simp
                             refine (U1 _ (below_drewN _ 1 _)).mono ?_
                             rintro e w12 ⟨rfl, hb12⟩
                             go_wp2_with fail
                             refine hK.out _ _ trivial (fun _ => ?_)
                             clear hK K
                             try simp only [Act.put, List.setIfInBounds_toArray, List.set_cons_zero, List.set_cons_succ, List.getElem_toArray, List.getElem_cons_zero, List.getElem_cons_succ]
                             refine wpAnyH_take (i := 4) (v := .bool false) rfl (by kernel_rfl) (by kernel_rfl) (by kernel_rfl) (fun _ _ _ h => h) (Or.inl ⟨by rfl, fun _ _ => by first | (go_simp; done) | (go_simp; simp [*]; done) | (go_simp; rfl)⟩) trivial ?_
                             try simp only [Act.put, List.setIfInBounds_toArray, List.set_cons_zero, List.set_cons_succ, List.getElem_toArray, List.getElem_cons_zero, List.getElem_cons_succ]
                             refine wpAnyH_take (i := 5) (v := .bool false) rfl (by kernel_rfl) (by kernel_rfl) (by kernel_rfl) (fun _ _ _ h => h) (Or.inl ⟨by rfl, fun _ _ => by first | (go_simp; done) | (go_simp; simp [*]; done) | (go_simp; rfl)⟩) trivial ?_
                             try simp only [Act.put, List.setIfInBounds_toArray, List.set_cons_zero, List.set_cons_succ, List.getElem_toArray, List.getElem_cons_zero, List.getElem_cons_succ]
                             refine wpAnyH_take (i := 6) (v := .int .i64 y) rfl (by kernel_rfl) (by kernel_rfl) (by kernel_rfl) (fun _ _ _ h => h) (Or.inl ⟨by rfl, fun _ _ => by first | (go_simp; done) | (go_simp; simp [*]; done) | (go_simp; rfl)⟩) trivial ?_
                             try simp only [Act.put, List.setIfInBounds_toArray, List.set_cons_zero, List.set_cons_succ, List.getElem_toArray, List.getElem_cons_zero, List.getElem_cons_succ]
                             refine wpAnyH_take (i := 7) (v := .bool false) rfl (by kernel_rfl) (by kernel_rfl) (by kernel_rfl) (fun _ _ _ h => h) (Or.inl ⟨by rfl, fun _ _ => by first | (go_simp; done) | (go_simp; simp [*]; done) | (go_simp; rfl)⟩) trivial ?_
                             try simp only [Act.put, List.setIfInBounds_toArray, List.set_cons_zero, List.set_cons_succ, List.getElem_toArray, List.getElem_cons_zero, List.getElem_cons_succ]
                             refine wpAnyH_take (i := 8) (v := .bool false) rfl (by kernel_rfl) (by kernel_rfl) (by kernel_rfl) (fun _ _ _ h => h) (Or.inl ⟨by rfl, fun _ _ => by first | (go_simp; done) | (go_simp; simp [*]; done) | (go_simp; rfl)⟩) trivial ?_
                             try simp only [Act.put, List.setIfInBounds_toArray, List.set_cons_zero, List.set_cons_succ, List.getElem_toArray, List.getElem_cons_zero, List.getElem_cons_succ]
                             refine wpAnyH_take (i := 9) (v := .bool false) rfl (by kernel_rfl) (by kernel_rfl) (by kernel_rfl) (fun _ _ _ h => h) (Or.inl ⟨by rfl, fun _ _ => by first | (go_simp; done) | (go_simp; simp [*]; done) | (go_simp; rfl)⟩) trivial ?_
                             try simp only [Act.put, List.setIfInBounds_toArray, List.set_cons_zero, List.set_cons_succ, List.getElem_toArray, List.getElem_cons_zero, List.getElem_cons_succ]
                             refine wpAnyH_take (i := 10) (v := .int .i64 y) rfl (by kernel_rfl) (by kernel_rfl) (by kernel_rfl) (fun _ _ _ h => h) (Or.inl ⟨by rfl, fun _ _ => by first | (go_simp; done) | (go_simp; simp [*]; done) | (go_simp; rfl)⟩) trivial ?_
                             try simp only [Act.put, List.setIfInBounds_toArray, List.set_cons_zero, List.set_cons_succ, List.getElem_toArray, List.getElem_cons_zero, List.getElem_cons_succ]
                             refine wpAnyH_take (i := 11) (v := .int .i64 x) rfl (by kernel_rfl) (by kernel_rfl) (by kernel_rfl) (fun _ _ _ h => h) (Or.inl ⟨by rfl, fun _ _ => by first | (go_simp; done) | (go_simp; simp [*]; done) | (go_simp; rfl)⟩) trivial ?_
                             try simp only [Act.put, List.setIfInBounds_toArray, List.set_cons_zero, List.set_cons_succ, List.getElem_toArray, List.getElem_cons_zero, List.getElem_cons_succ]
                             refine wpAnyH_take (i := 12) (v := .bool false) rfl (by kernel_rfl) (by kernel_rfl) (by kernel_rfl) (fun _ _ _ h => h) (Or.inl ⟨by rfl, fun _ _ => by first | (go_simp; done) | (go_simp; simp [*]; done) | (go_simp; rfl)⟩) trivial ?_
                             try simp only [Act.put, List.setIfInBounds_toArray, List.set_cons_zero, List.set_cons_succ, List.getElem_toArray, List.getElem_cons_zero, List.getElem_cons_succ]
                             refine wpAnyH_take (i := 13) (v := .bool false) rfl (by kernel_rfl) (by kernel_rfl) (by kernel_rfl) (fun _ _ _ h => h) (Or.inl ⟨by rfl, fun _ _ => by first | (go_simp; done) | (go_simp; simp [*]; done) | (go_simp; rfl)⟩) trivial ?_
                             try simp only [Act.put, List.setIfInBounds_toArray, List.set_cons_zero, List.set_cons_succ, List.getElem_toArray, List.getElem_cons_zero, List.getElem_cons_succ]
                             refine wpAnyH_take (i := 14) (v := .bool false) rfl (by kernel_rfl) (by kernel_rfl) (by kernel_rfl) (fun _ _ _ h => h) (Or.inl ⟨by rfl, fun _ _ => by first | (go_simp; done) | (go_simp; simp [*]; done) | (go_simp; rfl)⟩) trivial ?_
                             try simp only [Act.put, List.setIfInBounds_toArray, List.set_cons_zero, List.set_cons_succ, List.getElem_toArray, List.getElem_cons_zero, List.getElem_cons_succ]
                             refine wpAnyH_take (i := 15) (v := .pointer (some ⟨P, 0, none⟩)) rfl (by kernel_rfl) (by kernel_rfl) (by kernel_rfl) (fun _ _ _ h => h) (Or.inl ⟨by rfl, fun _ _ => by first | (go_simp; done) | (go_simp; simp [*]; done) | (go_simp; rfl)⟩) trivial ?_
                             try simp only [Act.put, List.setIfInBounds_toArray, List.set_cons_zero, List.set_cons_succ, List.getElem_toArray, List.getElem_cons_zero, List.getElem_cons_succ]
                             refine wpAnyH_take (i := 16) (v := .int .i64 (a : Int)) rfl (by kernel_rfl) (by kernel_rfl) (by kernel_rfl) (fun _ _ _ h => h) (Or.inl ⟨by rfl, fun _ _ => by first | (go_simp; done) | (go_simp; simp [*]; done) | (go_simp; rfl)⟩) trivial ?_
                             try simp only [Act.put, List.setIfInBounds_toArray, List.set_cons_zero, List.set_cons_succ, List.getElem_toArray, List.getElem_cons_zero, List.getElem_cons_succ]
                             refine wpAnyH_take (i := 18) (v := .int .i64 x) rfl (by kernel_rfl) (by kernel_rfl) (by kernel_rfl) (fun _ _ _ h => h) (Or.inl ⟨by rfl, fun _ _ => by first | (go_simp; done) | (go_simp; simp [*]; done) | (go_simp; rfl)⟩) trivial ?_
                             try simp only [Act.put, List.setIfInBounds_toArray, List.set_cons_zero, List.set_cons_succ, List.getElem_toArray, List.getElem_cons_zero, List.getElem_cons_succ]
                             refine wpAnyH_take (i := 19) (v := .int .i64 y) rfl (by kernel_rfl) (by kernel_rfl) (by kernel_rfl) (fun _ _ _ h => h) (Or.inl ⟨by rfl, fun _ _ => by first | (go_simp; done) | (go_simp; simp [*]; done) | (go_simp; rfl)⟩) trivial ?_
                             try simp only [Act.put, List.setIfInBounds_toArray, List.set_cons_zero, List.set_cons_succ, List.getElem_toArray, List.getElem_cons_zero, List.getElem_cons_succ]
                             refine wpAnyH_take (i := 20) (v := .int .i64 (x - y)) rfl (by kernel_rfl) (by kernel_rfl) (by kernel_rfl) (fun _ _ _ h => h) (Or.inl ⟨by rfl, fun _ _ => by first | (go_simp; done) | (go_simp; simp [*]; done) | (go_simp; rfl)⟩) trivial ?_
                             try simp only [Act.put, List.setIfInBounds_toArray, List.set_cons_zero, List.set_cons_succ, List.getElem_toArray, List.getElem_cons_zero, List.getElem_cons_succ]
                             refine wpAnyH_ready (rs := [17]) (by kernel_rfl) (by simp) ?_
                             refine AllReadyH.cons rfl (fun K hK => ?_) AllReadyH.nil
                             go_simp
                             refine (L1 _ hb12).mono ?_
                             rintro e w17 ⟨rfl, hb17⟩
                             go_wp2_with fail
                             refine hK.out _ _ trivial (fun _ => ?_)
                             clear hK K
                             try simp only [Act.put, List.setIfInBounds_toArray, List.set_cons_zero, List.set_cons_succ, List.getElem_toArray, List.getElem_cons_zero, List.getElem_cons_succ]
                             refine wpAnyH_take (i := 21) (v := .bool false) rfl (by kernel_rfl) (by kernel_rfl) (by kernel_rfl) (fun _ _ _ h => h) (Or.inl ⟨by rfl, fun _ _ => by first | (go_simp; done) | (go_simp; simp [*]; done) | (go_simp; rfl)⟩) trivial ?_
                             try simp only [Act.put, List.setIfInBounds_toArray, List.set_cons_zero, List.set_cons_succ, List.getElem_toArray, List.getElem_cons_zero, List.getElem_cons_succ]
                             refine wpAnyH_take (i := 22) (v := .bool false) rfl (by kernel_rfl) (by kernel_rfl) (by kernel_rfl) (fun _ _ _ h => h) (Or.inl ⟨by rfl, fun _ _ => by first | (go_simp; done) | (go_simp; simp [*]; done) | (go_simp; rfl)⟩) trivial ?_
                             try simp only [Act.put, List.setIfInBounds_toArray, List.set_cons_zero, List.set_cons_succ, List.getElem_toArray, List.getElem_cons_zero, List.getElem_cons_succ]
                             refine wpAnyH_take (i := 23) (v := .bool false) rfl (by kernel_rfl) (by kernel_rfl) (by kernel_rfl) (fun _ _ _ h => h) (Or.inl ⟨by rfl, fun _ _ => by first | (go_simp; done) | (go_simp; simp [*]; done) | (go_simp; rfl)⟩) trivial ?_
                             try simp only [Act.put, List.setIfInBounds_toArray, List.set_cons_zero, List.set_cons_succ, List.getElem_toArray, List.getElem_cons_zero, List.getElem_cons_succ]
                             refine wpAnyH_take (i := 24) (v := .int .i64 (a : Int)) rfl (by kernel_rfl) (by kernel_rfl) (by kernel_rfl) (fun _ _ _ h => h) (Or.inl ⟨by rfl, fun _ _ => by first | (go_simp; done) | (go_simp; simp [*]; done) | (go_simp; rfl)⟩) trivial ?_
                             try simp only [Act.put, List.setIfInBounds_toArray, List.set_cons_zero, List.set_cons_succ, List.getElem_toArray, List.getElem_cons_zero, List.getElem_cons_succ]
                             refine wpAnyH_take (i := 25) (v := .int .i64 (a : Int)) rfl (by kernel_rfl) (by kernel_rfl) (by kernel_rfl) (fun _ _ _ h => h) (Or.inl ⟨by rfl, fun _ _ => by first | (go_simp; done) | (go_simp; simp [*]; done) | (go_simp; rfl)⟩) trivial ?_
                             try simp only [Act.put, List.setIfInBounds_toArray, List.set_cons_zero, List.set_cons_succ, List.getElem_toArray, List.getElem_cons_zero, List.getElem_cons_succ]
                             refine wpAnyH_take (i := 26) (v := .bool false) rfl (by kernel_rfl) (by kernel_rfl) (by kernel_rfl) (fun _ _ _ h => h) (Or.inl ⟨by rfl, fun _ _ => by first | (go_simp; done) | (go_simp; simp [*]; done) | (go_simp; rfl)⟩) trivial ?_
                             try simp only [Act.put, List.setIfInBounds_toArray, List.set_cons_zero, List.set_cons_succ, List.getElem_toArray, List.getElem_cons_zero, List.getElem_cons_succ]
                             refine wpAnyH_take (i := 27) (v := .bool false) rfl (by kernel_rfl) (by kernel_rfl) (by kernel_rfl) (fun _ _ _ h => h) (Or.inl ⟨by rfl, fun _ _ => by first | (go_simp; done) | (go_simp; simp [*]; done) | (go_simp; rfl)⟩) trivial ?_
                             try simp only [Act.put, List.setIfInBounds_toArray, List.set_cons_zero, List.set_cons_succ, List.getElem_toArray, List.getElem_cons_zero, List.getElem_cons_succ]
                             refine wpAnyH_take (i := 28) (v := undef) rfl (by kernel_rfl) (by kernel_rfl) (by kernel_rfl) (fun _ _ _ h => h) (Or.inr ⟨by rfl, rfl⟩) trivial ?_
                             try simp only [Act.put, List.setIfInBounds_toArray, List.set_cons_zero, List.set_cons_succ, List.getElem_toArray, List.getElem_cons_zero, List.getElem_cons_succ]
                             refine wpAnyH_take (i := 29) (v := undef) rfl (by kernel_rfl) (by kernel_rfl) (by kernel_rfl) (fun _ _ _ h => h) (Or.inr ⟨by rfl, rfl⟩) trivial ?_
                             try simp only [Act.put, List.setIfInBounds_toArray, List.set_cons_zero, List.set_cons_succ, List.getElem_toArray, List.getElem_cons_zero, List.getElem_cons_succ]
                             refine wpAnyH_take (i := 30) (v := undef) rfl (by kernel_rfl) (by kernel_rfl) (by kernel_rfl) (fun _ _ _ h => h) (Or.inr ⟨by rfl, rfl⟩) trivial ?_
                             try simp only [Act.put, List.setIfInBounds_toArray, List.set_cons_zero, List.set_cons_succ, List.getElem_toArray, List.getElem_cons_zero, List.getElem_cons_succ]
                             refine wpAnyH_take (i := 31) (v := undef) rfl (by kernel_rfl) (by kernel_rfl) (by kernel_rfl) (fun _ _ _ h => h) (Or.inr ⟨by rfl, rfl⟩) trivial ?_
                             try simp only [Act.put, List.setIfInBounds_toArray, List.set_cons_zero, List.set_cons_succ, List.getElem_toArray, List.getElem_cons_zero, List.getElem_cons_succ]
                             refine wpAnyH_take (i := 32) (v := undef) rfl (by kernel_rfl) (by kernel_rfl) (by kernel_rfl) (fun _ _ _ h => h) (Or.inr ⟨by rfl, rfl⟩) trivial ?_
                             try simp only [Act.put, List.setIfInBounds_toArray, List.set_cons_zero, List.set_cons_succ, List.getElem_toArray, List.getElem_cons_zero, List.getElem_cons_succ]
                             refine wpAnyH_take (i := 33) (v := undef) rfl (by kernel_rfl) (by kernel_rfl) (by kernel_rfl) (fun _ _ _ h => h) (Or.inr ⟨by rfl, rfl⟩) trivial ?_
                             try simp only [Act.put, List.setIfInBounds_toArray, List.set_cons_zero, List.set_cons_succ, List.getElem_toArray, List.getElem_cons_zero, List.getElem_cons_succ]
                             refine wpAnyH_take (i := 34) (v := undef) rfl (by kernel_rfl) (by kernel_rfl) (by kernel_rfl) (fun _ _ _ h => h) (Or.inr ⟨by rfl, rfl⟩) trivial ?_
                             try simp only [Act.put, List.setIfInBounds_toArray, List.set_cons_zero, List.set_cons_succ, List.getElem_toArray, List.getElem_cons_zero, List.getElem_cons_succ]
                             refine wpAnyH_take (i := 35) (v := undef) rfl (by kernel_rfl) (by kernel_rfl) (by kernel_rfl) (fun _ _ _ h => h) (Or.inr ⟨by rfl, rfl⟩) trivial ?_
                             try simp only [Act.put, List.setIfInBounds_toArray, List.set_cons_zero, List.set_cons_succ, List.getElem_toArray, List.getElem_cons_zero, List.getElem_cons_succ]
                             refine wpAnyH_take (i := 36) (v := .bool false) rfl (by kernel_rfl) (by kernel_rfl) (by kernel_rfl) (fun _ _ _ h => h) (Or.inl ⟨by rfl, fun _ _ => by first | (go_simp; done) | (go_simp; simp [*]; done) | (go_simp; rfl)⟩) trivial ?_
                             try simp only [Act.put, List.setIfInBounds_toArray, List.set_cons_zero, List.set_cons_succ, List.getElem_toArray, List.getElem_cons_zero, List.getElem_cons_succ]
                             refine wpAnyH_take (i := 37) (v := .bool false) rfl (by kernel_rfl) (by kernel_rfl) (by kernel_rfl) (fun _ _ _ h => h) (Or.inl ⟨by rfl, fun _ _ => by first | (go_simp; done) | (go_simp; simp [*]; done) | (go_simp; rfl)⟩) trivial ?_
                             try simp only [Act.put, List.setIfInBounds_toArray, List.set_cons_zero, List.set_cons_succ, List.getElem_toArray, List.getElem_cons_zero, List.getElem_cons_succ]
                             have J : Hid (Bx w w17 P g h b' ∧ Lst w17 ub n n (used b)) := ⟨I.out.1.still hb17, I.out.2.below hb17⟩
                             refine wpAnyH_done (by kernel_rfl) ?_ _
                             go_wp2_with fail
                             go_meet
                             case rel => exact ⟨rfl, J.out⟩
                           · rw [← HUa.out ew] at d0
                             have ew1 : ((a : Int) == who) = false := beq_false_of_ne ew
                             have ew2 : ((a : Int) != who) = true := by simp [bne, ew1]
                             go_region_held3 (fun w' => w'.cell? ⟨ub, a, none⟩ = some (.int .i64 y)) (go_keep) (first
                               | (go_at_call 18; refine (U1 _ (by first | assumption | exact below_drewN _ _ _)).mono ?_; rintro e w12 ⟨rfl, hb12⟩; have f0 := (hb12.cell (p := ⟨ub, a, none⟩) y0).trans d0)
                               | (go_at_call 20; refine (L1 _ (by first | assumption | exact below_drewN _ _ _)).mono ?_; rintro e w12 ⟨rfl, hb12⟩; have f0 := (hb12.cell (p := ⟨ub, a, none⟩) y0).trans d0))
                             have J : Hid (Bx w _ P g h b' ∧ Lst _ ub n n (used b)) := ⟨I.out.1.still hb12, I.out.2.below hb12⟩
                             go_wp2_with fail
                             go_meet
                             case rel => exact ⟨rfl, J.out⟩
                         case rest =>
                           obtain ⟨rfl, J⟩ := hcut
                           clear U1 L1 d0
                           go_wp2_with fail
                           go_roundw
                           case rel => exact ⟨a + 1, by simp, by omega, J.out⟩
                           case measure => simp [RowKit.intOf]; omega
                   · obtain rfl : a = n := by omega
                     have t2 : ¬ (a : Int) < (a : Int) := by omega
                     go_wp2_with fail
                     go_roundw
                     case rel => exact ⟨k + 1, by simp, by omega, b', n2, m2, l2.out, I.out.1⟩
                     case measure => simp [RowKit.intOf]; omega
      · obtain rfl : k = no := by omega
        have t1 : ¬ (k : Int) < (k : Int) := by omega
        clear o3
        go_wp2_with fail
        go_ret
        exact ⟨rfl, I.out.bel⟩
theorem riskBounds_walk (w : World) (L : Nat → Int) (n : Nat) (v : Value) (row : Row w v n fun i => .int .i64 (L i)) (_ : ∀ i, n ≤ i → L i = 0) (_ : ∀ i, -9223372036854775808 ≤ L i ∧ L i ≤ 9223372036854775807) (s : Int) (_ : -9223372036854775808 ≤ s ∧ s ≤ 9223372036854775807) (vo : Value) (no : Nat) (C V Q X : Nat → Int) (ops : Ops w vo no C V Q X) : Calls Try.prog 5 #[v, .int .i64 s, vo] w fun e w' => e = .returned (.bool true) ∧ Below w.heap.size w w' := by
  by_cases h1 : 16 < n
  · exact bounds_long w L n v row s vo no C V Q X ops h1
  by_cases h2 : 100 < no
  · exact bounds_many w L n v row s vo no C V Q X ops ⟨by omega, h2⟩
  by_cases ho : n < 1 ∨ 16 < n ∨ s < 1 ∨ 64 < s
  · exact bounds_out w L n v row s vo no C V Q X ops (by omega) (by omega) ho
  · obtain ⟨m, rfl⟩ : ∃ m : Nat, s = (m : Int) := ⟨s.toNat, by omega⟩
    exact bounds_in w L n v row m vo no C V Q X ops (by omega) (by omega) (by omega) (by omega) (by omega)
theorem riskBounds_own : ownKnob Try.prog.godebug = none := by kernel_rfl
theorem riskBounds_laidOut : laidOutB Try.prog = true := by kernel_rfl
set_option maxRecDepth 100000 in
theorem riskBounds_lifted (os : Os) (started : os.Started) (H : Type) (enc : TypeId × Value → H) :
    ReturnsInHanded {} Try.checked os 5 .any (Rows.riskBoundsSpec.pre6 enc Try.prog Try.f5 Rows.riskBoundsRow.domain false) (Rows.riskBoundsSpec.post enc Try.prog Try.f5 false true false false) := by
  refine returnsInHanded_of_change (C := Try.checked) riskBounds_own started (by kernel_rfl) Try.func5
    (ChangeSpec.witness6 (enc := enc) (C := Try.checked) false ⟨#[], #[.slice none 0 0, .int .i64 0, .slice none 0 0], []⟩ 8 (by kernel_rfl) (by kernel_rfl) (by kernel_rfl) (by kernel_rfl)) ?_
  intro W base args ds gs before hval0 hW hcnd _
  have hval : ∀ (j : Nat) t v, Try.f5.params[j]? = some t → args[j]? = some v → Value.okWide Try.prog W .any base t v := hval0
  have hW' := hW
  obtain ⟨p, q, hA0, hV, rfl, hfz, hnd⟩ := hW
  have hA : DataW.TrodAll enc Try.prog W 0 (fun _ => true) true Try.f5.params.toList args.toList ds p := hA0
  rw [Try.params5] at hA hval
  obtain ⟨v0, vs0, d0, ds0, p0, q0, hargs, rfl, rfl, h0, r0⟩ := trodAll_cons hA
  obtain ⟨v1, vs1, d1, ds1, p1, q1, rfl, rfl, rfl, h1, r1⟩ := trodAll_cons r0
  obtain ⟨v2, vs2, d2, ds2, p2, q2, rfl, rfl, rfl, h2, r2⟩ := trodAll_cons r1
  obtain ⟨rfl, rfl, rfl⟩ := trodAll_nil r2
  obtain rfl : args = #[v0, v1, v2] := by cases args; simp_all
  obtain ⟨rfl, rfl⟩ := trodVars_none hV
  obtain ⟨ad0, n0, cap0, rfl⟩ := okWide_slice Try.underlying22 (hval 0 22 v0 rfl rfl)
  have k0 := h0
  have lt0 : ∀ x ∈ p0, x.block < W.heap.size := by obtain ⟨m, hm⟩ := k0; exact DataW.trod_lt m _ _ _ hm
  obtain ⟨f0, row0, be0, bd0⟩ : ∃ f : Nat → Int, Row W (.slice ad0 n0 cap0) n0 (fun i => .int .i64 (f i)) ∧ (∀ i, n0 ≤ i → f i = 0) ∧ ∀ i, -9223372036854775808 ≤ f i ∧ f i ≤ 9223372036854775807 := by
    obtain ⟨fuel, hf⟩ := h0
    rcases open_ints Try.underlying22 Try.underlying3 (by kernel_rfl) hf with ⟨hcs, _⟩ | ⟨x, l, c, zs, hcs, _, hl, hm, hz, _, hcell, hwz⟩
    · simp [Value.cells] at hcs
      obtain ⟨rfl, rfl, rfl⟩ := hcs
      exact row_none W
    · simp [Value.cells] at hcs
      obtain ⟨rfl, rfl, rfl⟩ := hcs
      exact row_some hl hm (by simpa using hz) hcell (fun z hz => bounds_i64 (hwz z hz))
  obtain ⟨a1, rfl, rfl, rfl, w1⟩ := open_int Try.underlying3 (hval 1 3 v1 rfl rfl) h1
  have bd1 := bounds_i64 w1
  obtain ⟨ad2, n2, cap2, rfl⟩ := okWide_slice Try.underlying23 (hval 2 23 v2 rfl rfl)
  have k2 := h2
  have lt2 : ∀ x ∈ p2, x.block < W.heap.size := by obtain ⟨m, hm⟩ := k2; exact DataW.trod_lt m _ _ _ hm
  obtain ⟨C2, V2, Q2, X2, ops2⟩ : ∃ C V Q X, Ops W (.slice ad2 n2 cap2) n2 C V Q X := by obtain ⟨fuel, hf⟩ := h2; exact open_ops hf
  clear hA0 hval0
  simp only [List.append_nil, List.nil_append] at hW'
  refine (riskBounds_walk W f0 n0 _ row0 be0 bd0 a1 bd1 _ n2 C2 V2 Q2 X2 ops2).mono fun e W' ⟨he, bel⟩ => ?_
  subst he
  exact ⟨_, rfl, _, _, _, [], _, [], hW', trodAll_mk1 (shut_bool Try.underlying4 _), (trodAll_cons_mk (Below.trod riskBounds_laidOut (by kernel_rfl) (of_decide_eq_true (by kernel_rfl)) k0 bel lt0) (trodAll_cons_mk (shut_int Try.underlying3 w1) (trodAll_cons_mk (Below.trod riskBounds_laidOut (by kernel_rfl) (of_decide_eq_true (by kernel_rfl)) k2 bel lt2) trodAll_mk0))), rfl, bel.frame _, fun h => by cases h⟩

/-- THE STATEMENT. -/
theorem riskBounds_proved : Rows.RiskBoundsSaid :=
  OpenClaim.holds_of_wide 5 Try.f5 rfl rfl rfl rfl rfl rfl rfl ⟨rfl, rfl, rfl, rfl, rfl⟩ rfl rfl rfl rfl rfl (by kernel_rfl) Try.func5 (by kernel_rfl)
    (of_decide_eq_true (by kernel_rfl)) (by unfold Func.isWrapper; first | (rw [if_pos (by decide +kernel)]; kernel_rfl) | (rw [if_neg (by decide +kernel)]; exact ⟨rfl, rfl⟩))
    (fun os started H enc _ => riskBounds_lifted os started H enc)
#print axioms riskBounds_proved
end Go.Proofs.Ytcjdbfmglckdkaa
