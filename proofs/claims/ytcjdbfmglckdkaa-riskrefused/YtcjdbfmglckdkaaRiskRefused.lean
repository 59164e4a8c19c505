/-
  RiskRefused: what is refused changes nothing of what accounts use; what is reserved and settled for nothing leaves what was. For every list of limits, every list of steps and every step, no condition.
-/
import Derived.Test.YtcjdbfmglckdkaaRkLaw
import Derived.Test.YtcjdbfmglckdkaaFrame3
import Derived.Test.YtcjdbfmglckdkaaFrame17
namespace Go.Proofs.Ytcjdbfmglckdkaa
open Go.ChangeShapes Go.WideShapes Go.ChangeAt Go.RowKit Go.Lib RK

set_option maxRecDepth 100000 in
set_option maxHeartbeats 16000000 in
theorem refused_long (w : World) (L : Nat → Int) (n : Nat) (v : Value) (row : Row w v n fun i => .int .i64 (L i)) (vo : Value) (no : Nat) (C V Q X : Nat → Int) (ops : Ops w vo no C V Q X) (xk xa xs xn : Int) (hn : 16 < n) : Calls Try.prog 6 #[v, vo, .agg #[.int .i64 xk, .int .i64 xa, .int .i64 xs, .int .i64 xn]] w fun e w' => e = .returned (.bool true) ∧ Below w.heap.size w w' := by
  have b0 := (Below.refl _ w).alloc (Nat.le_refl _) (.cells #[.int .i64 xk, .int .i64 xa, .int .i64 xs, .int .i64 xn] 33)
  have F1 := awake_any (w.alloc (.cells #[.int .i64 xk, .int .i64 xa, .int .i64 xs, .int .i64 xn] 33))
  obtain ⟨a0, cap0, rfl, _, _, _⟩ := row
  obtain ⟨a1, cap1, rfl, _, _, _⟩ := ops
  have HB0 : Hid (Below w.heap.size w (w.alloc (.cells #[.int .i64 xk, .int .i64 xa, .int .i64 xs, .int .i64 xn] 33))) := b0
  clear b0
  have t : (16 : Int) < (n : Int) := by omega
  go_enter Try.func6, Try.ntmps6
  go_wp2_with fail
  refine F1.mono ?_
  rintro e w1 ⟨rfl, hb⟩
  go_wp2_with fail
  go_ret
  exact ⟨rfl, HB0.out.trans (hb.mono HB0.out.size)⟩
set_option maxRecDepth 100000 in
set_option maxHeartbeats 16000000 in
theorem refused_many (w : World) (L : Nat → Int) (n : Nat) (v : Value) (row : Row w v n fun i => .int .i64 (L i)) (vo : Value) (no : Nat) (C V Q X : Nat → Int) (ops : Ops w vo no C V Q X) (xk xa xs xn : Int) (hn : n ≤ 16 ∧ 60 < no) : Calls Try.prog 6 #[v, vo, .agg #[.int .i64 xk, .int .i64 xa, .int .i64 xs, .int .i64 xn]] w fun e w' => e = .returned (.bool true) ∧ Below w.heap.size w w' := by
  have b0 := (Below.refl _ w).alloc (Nat.le_refl _) (.cells #[.int .i64 xk, .int .i64 xa, .int .i64 xs, .int .i64 xn] 33)
  have F1 := awake_any (w.alloc (.cells #[.int .i64 xk, .int .i64 xa, .int .i64 xs, .int .i64 xn] 33))
  obtain ⟨a0, cap0, rfl, _, _, _⟩ := row
  obtain ⟨a1, cap1, rfl, _, _, _⟩ := ops
  have HB0 : Hid (Below w.heap.size w (w.alloc (.cells #[.int .i64 xk, .int .i64 xa, .int .i64 xs, .int .i64 xn] 33))) := b0
  clear b0
  have t0 : ¬ (16 : Int) < (n : Int) := by omega
  have t : (60 : Int) < (no : Int) := by omega
  go_enter Try.func6, Try.ntmps6
  go_wp2_with fail
  refine F1.mono ?_
  rintro e w1 ⟨rfl, hb⟩
  go_wp2_with fail
  go_ret
  exact ⟨rfl, HB0.out.trans (hb.mono HB0.out.size)⟩
set_option maxRecDepth 100000 in
set_option maxHeartbeats 16000000 in
theorem refused_none (w : World) (L : Nat → Int) (n : Nat) (v : Value) (row : Row w v n fun i => .int .i64 (L i)) (vo : Value) (no : Nat) (C V Q X : Nat → Int) (ops : Ops w vo no C V Q X) (xk xa xs xn : Int) (hn : n < 1) (hno : no ≤ 60) : Calls Try.prog 6 #[v, vo, .agg #[.int .i64 xk, .int .i64 xa, .int .i64 xs, .int .i64 xn]] w fun e w' => e = .returned (.bool true) ∧ Below w.heap.size w w' := by
  have b0 := (Below.refl _ w).alloc (Nat.le_refl _) (.cells #[.int .i64 xk, .int .i64 xa, .int .i64 xs, .int .i64 xn] 33)
  have F1 := awake_any (w.alloc (.cells #[.int .i64 xk, .int .i64 xa, .int .i64 xs, .int .i64 xn] 33))
  have HB0 : Hid (Below w.heap.size w (w.alloc (.cells #[.int .i64 xk, .int .i64 xa, .int .i64 xs, .int .i64 xn] 33)) ∧ Box4 (w.alloc (.cells #[.int .i64 xk, .int .i64 xa, .int .i64 xs, .int .i64 xn] 33)) w.heap.size xk xa xs xn) := ⟨b0, Box4.new _ _ _ _ _ _⟩
  have F2 := fun w1 (hb : Below w.heap.size w w1) => new_out (row.below hb) 4 (.inl hn)
  obtain ⟨a0, cap0, rfl, _, _, _⟩ := row
  obtain ⟨a1, cap1, rfl, _, _, _⟩ := ops
  have t0 : ¬ (16 : Int) < (n : Int) := by omega
  have t : ¬ (60 : Int) < (no : Int) := by omega
  clear b0
  go_enter Try.func6, Try.ntmps6
  go_wp2_with fail
  refine F1.mono ?_
  rintro e w1 ⟨rfl, hb⟩
  have hb1 := HB0.out.1.trans (hb.mono HB0.out.1.size)
  clear HB0 hb
  go_wp2_with fail
  refine (F2 _ hb1).mono ?_
  rintro e w2 ⟨rfl, rfl⟩
  go_wp2_with fail
  go_ret
  exact ⟨by simp, hb1⟩
set_option maxRecDepth 100000 in
set_option maxHeartbeats 16000000 in
theorem refused_in (w : World) (L : Nat → Int) (n : Nat) (v : Value) (row : Row w v n fun i => .int .i64 (L i)) (vo : Value) (no : Nat) (C V Q X : Nat → Int) (ops : Ops w vo no C V Q X) (xk xa xs xn : Int) (a1 : 1 ≤ n) (a2 : n ≤ 16) (hno : no ≤ 60) : Calls Try.prog 6 #[v, vo, .agg #[.int .i64 xk, .int .i64 xa, .int .i64 xs, .int .i64 xn]] w fun e w' => e = .returned (.bool true) ∧ Below w.heap.size w w' := by
  have b0 := (Below.refl _ w).alloc (Nat.le_refl _) (.cells #[.int .i64 xk, .int .i64 xa, .int .i64 xs, .int .i64 xn] 33)
  have F1 := awake_any (w.alloc (.cells #[.int .i64 xk, .int .i64 xa, .int .i64 xs, .int .i64 xn] 33))
  have HB0 : Hid (Below w.heap.size w (w.alloc (.cells #[.int .i64 xk, .int .i64 xa, .int .i64 xs, .int .i64 xn] 33)) ∧ Box4 (w.alloc (.cells #[.int .i64 xk, .int .i64 xa, .int .i64 xs, .int .i64 xn] 33)) w.heap.size xk xa xs xn) := ⟨b0, Box4.new _ _ _ _ _ _⟩
  have F2 := fun w1 (hb : Below w.heap.size w w1) => new_in (row.below hb) a1 a2 (m := 4) (by omega) (by omega) w.heap.size hb.size
  obtain ⟨av, capv, rfl⟩ : ∃ a c, v = .slice a n c := by obtain ⟨a0, cap0, rfl, _, _, _⟩ := row; exact ⟨_, _, rfl⟩
  obtain ⟨ao, capo, rfl, o1, o2, o3⟩ := ops
  have hmk := run_make_ints n (by omega)
  have HL : Hid (∀ (W : World) (b : Bk), Lst (W.alloc (.cells (madeCells #[.int .i64 0] n) 3)) W.heap.size n 0 (used b)) := fun W b => Lst.new W n (used b)
  obtain ⟨A, HA⟩ : ∃ A, madeCells #[.int .i64 0] n = A := ⟨_, rfl⟩
  rw [HA] at hmk HL
  have t0 : ¬ (16 : Int) < (n : Int) := by omega
  have t : ¬ (60 : Int) < (no : Int) := by omega
  obtain ⟨ob, hob⟩ : ∃ ob, ob = w.heap.size := ⟨_, rfl⟩
  clear row HA b0
  go_enter Try.func6, Try.ntmps6
  go_wp2_with fail
  refine F1.mono ?_
  rintro e w1 ⟨rfl, hb⟩
  have hb1 := HB0.out.1.trans (hb.mono HB0.out.1.size)
  have Bo1 := HB0.out.2.below hb
  clear F1 hb HB0
  go_wp2_with fail
  refine (F2 _ hb1).mono ?_
  rintro e w2 ⟨B2, ⟨rfl, i, hi, hbad⟩ | ⟨rfl, FT, K2, _⟩⟩
  · have hb2 := hb1.trans (B2.mono hb1.size)
    clear F2 hb1 B2 Bo1
    go_wp2_with fail
    go_ret
    exact ⟨by simp, hb2⟩
  · have hb2 := hb1.trans (B2.mono hb1.size)
    have Bo2 := Bo1.below B2
    have lo1 := Bo1.lt
    obtain ⟨P, hP⟩ : ∃ P, P = w1.heap.size + 2 := ⟨_, rfl⟩
    obtain ⟨g, h, K, HO⟩ : ∃ g h, BookAt w2 w.heap.size P g h (newB n L 4) ∧ Hid (¬ own P g h ob) := ⟨_, _, by rw [hP]; exact K2, fun e => by rcases e with e | e | e <;> omega⟩
    rw [← hP]
    rw [← hob] at Bo2
    have I0 : Hid (Bx w w2 P g h (newB n L 4) ∧ Box4 w2 ob xk xa xs xn) := ⟨⟨K, hb2⟩, Bo2⟩
    clear F2 hb1 B2 K2 K FT hP hb2 Bo2 Bo1 lo1
    go_wp2_with fail
    rw [← hob]
    clear hob
    go_loopw [36] (fun c wr => ∃ k : Nat, c = .int .i64 (k : Int) ∧ k ≤ no ∧ ∃ b : Bk, b.nA = n ∧ Hid (Bx w wr P g h b ∧ Box4 wr ob xk xa xs xn)) (fun c _ => no - (RowKit.intOf c).toNat)
    case atStart => exact ⟨0, rfl, Nat.zero_le _, _, rfl, I0.out⟩
    case round =>
      clear I0
      obtain ⟨k, rfl, hk, b, nb, I⟩ := hrel
      by_cases hlt : k < no
      · have t1 : (k : Int) < (no : Int) := by omega
        obtain ⟨qb, off, rfl, c0, c1, c2, c3⟩ := o3 k hlt
        have lt0 := World.block_lt_of_cell? _ _ c0
        have d0 : wr.cell? ⟨qb, off + k * 4, none⟩ = some (.int .i64 (C k)) := (I.out.1.bel.cell (p := ⟨qb, off + k * 4, none⟩) lt0).trans c0
        have d1 : wr.cell? ⟨qb, off + k * 4 + 1, none⟩ = some (.int .i64 (V k)) := (I.out.1.bel.cell (p := ⟨qb, off + k * 4 + 1, none⟩) lt0).trans c1
        have d2 : wr.cell? ⟨qb, off + k * 4 + 2, none⟩ = some (.int .i64 (Q k)) := (I.out.1.bel.cell (p := ⟨qb, off + k * 4 + 2, none⟩) lt0).trans c2
        have d3 : wr.cell? ⟨qb, off + k * 4 + 3, none⟩ = some (.int .i64 (X k)) := (I.out.1.bel.cell (p := ⟨qb, off + k * 4 + 3, none⟩) lt0).trans c3
        clear c0 c1 c2 c3 lt0
        generalize C k = xc at *
        generalize V k = xv at *
        generalize Q k = xq at *
        generalize X k = xx at *
        have bw := (Below.refl wr.heap.size wr).alloc (Nat.le_refl _) (.cells #[.int .i64 xc, .int .i64 xv, .int .i64 xq, .int .i64 xx] 33)
        have X1 := I.out.1.still bw
        have B1 := I.out.2.below bw
        clear I bw
        by_cases k1 : xc = 1
        · subst k1
          have G := res_any X1.bk xv xq xx
          have nb' := resB_nA b xv xq xx
          generalize resE b xv xq xx = E at *
          generalize resB b xv xq xx = b' at *
          have HX : Hid (Bx w (wr.alloc (.cells #[.int .i64 1, .int .i64 xv, .int .i64 xq, .int .i64 xx] 33)) P g h b ∧ Box4 (wr.alloc (.cells #[.int .i64 1, .int .i64 xv, .int .i64 xq, .int .i64 xx] 33)) ob xk xa xs xn) := ⟨X1, B1⟩
          clear X1 B1
          go_wp2_with fail
          refine G.mono ?_
          rintro e w6 ⟨rfl, K6, k6⟩
          have J : Hid (Bx w w6 P g h b' ∧ Box4 w6 ob xk xa xs xn) := ⟨HX.out.1.put K6 k6, HX.out.2.kept k6 HO.out⟩
          clear HX K6 k6 G d0 d1 d2 d3
          go_wp2_with fail
          go_roundw
          case rel => exact ⟨k + 1, by simp, by omega, b', by rw [nb']; exact nb, J.out⟩
          case measure => simp [RowKit.intOf]; omega
        by_cases k2 : xc = 2
        · subst k2
          have G := rsz_any X1.bk xq xx
          have nb' := rszB_nA b xq xx
          generalize rszE b xq xx = E at *
          generalize rszB b xq xx = b' at *
          have HX : Hid (Bx w (wr.alloc (.cells #[.int .i64 2, .int .i64 xv, .int .i64 xq, .int .i64 xx] 33)) P g h b ∧ Box4 (wr.alloc (.cells #[.int .i64 2, .int .i64 xv, .int .i64 xq, .int .i64 xx] 33)) ob xk xa xs xn) := ⟨X1, B1⟩
          clear X1 B1
          go_wp2_with fail
          refine G.mono ?_
          rintro e w6 ⟨rfl, K6, k6⟩
          have J : Hid (Bx w w6 P g h b' ∧ Box4 w6 ob xk xa xs xn) := ⟨HX.out.1.put K6 k6, HX.out.2.kept k6 HO.out⟩
          clear HX K6 k6 G d0 d1 d2 d3
          go_wp2_with fail
          go_roundw
          case rel => exact ⟨k + 1, by simp, by omega, b', by rw [nb']; exact nb, J.out⟩
          case measure => simp [RowKit.intOf]; omega
        · have G := stl_any X1.bk xq xx
          have nb' := stlB_nA b xq xx
          generalize stlE b xq xx = E at *
          generalize stlB b xq xx = b' at *
          have HX : Hid (Bx w (wr.alloc (.cells #[.int .i64 xc, .int .i64 xv, .int .i64 xq, .int .i64 xx] 33)) P g h b ∧ Box4 (wr.alloc (.cells #[.int .i64 xc, .int .i64 xv, .int .i64 xq, .int .i64 xx] 33)) ob xk xa xs xn) := ⟨X1, B1⟩
          clear X1 B1
          go_wp2_with fail
          refine G.mono ?_
          rintro e w6 ⟨rfl, K6, k6⟩
          have J : Hid (Bx w w6 P g h b' ∧ Box4 w6 ob xk xa xs xn) := ⟨HX.out.1.put K6 k6, HX.out.2.kept k6 HO.out⟩
          clear HX K6 k6 G d0 d1 d2 d3
          go_wp2_with fail
          go_roundw
          case rel => exact ⟨k + 1, by simp, by omega, b', by rw [nb']; exact nb, J.out⟩
          case measure => simp [RowKit.intOf]; omega
      · obtain rfl : k = no := by omega
        have t1 : ¬ (k : Int) < (k : Int) := by omega
        clear o3
        have bw := (Below.refl wr.heap.size wr).alloc (Nat.le_refl _) (.cells A 3)
        obtain ⟨ub, hub⟩ : ∃ ub, ub = wr.heap.size := ⟨_, rfl⟩
        have I1 : Hid (Bx w (wr.alloc (.cells A 3)) P g h b ∧ Box4 (wr.alloc (.cells A 3)) ob xk xa xs xn ∧ Lst (wr.alloc (.cells A 3)) ub n 0 (used b)) := ⟨I.out.1.still bw, I.out.2.below bw, by rw [hub]; exact HL.out wr b⟩
        have HN : Hid (¬ own P g h ub ∧ w.heap.size ≤ ub ∧ ¬ ob = ub) := ⟨fun e => by have := (I.out.1.bk.low _ e).2; omega, by have := I.out.1.bel.size; omega, by have := I.out.2.lt; omega⟩
        clear I bw
        go_wp2_with fail
        rw [← hub]
        generalize wr.alloc (.cells A 3) = W3 at *
        clear hub hmk
        go_loopw [72] (fun c wr => ∃ k : Nat, c = .int .i64 (k : Int) ∧ k ≤ n ∧ Hid (Bx w wr P g h b ∧ Box4 wr ob xk xa xs xn ∧ Lst wr ub n k (used b))) (fun c _ => n - (RowKit.intOf c).toNat)
        case atStart => exact ⟨0, rfl, Nat.zero_le _, I1.out⟩
        case round =>
          clear I1
          obtain ⟨k, rfl, hk, I⟩ := hrel
          by_cases hlt : k < n
          · have t1 : (k : Int) < (n : Int) := by omega
            have U := usedB I.out.1 k (by rw [nb]; exact hlt) wr (Below.refl _ _)
            obtain ⟨y, hy⟩ : ∃ y, Hid (used b k = y) := ⟨_, rfl⟩
            rw [hy.out] at U
            go_wp2_with fail
            refine U.mono ?_
            rintro e w5 ⟨rfl, hb5⟩
            have X5 := I.out.1.still hb5
            have L5 := I.out.2.2.below hb5
            have z0 := L5.th k
            have o0 := L5.hi k (Nat.le_refl _) hlt
            have J : Hid (Bx w (w5.setCell ⟨ub, k, none⟩ (.int .i64 y)) P g h b ∧ Box4 (w5.setCell ⟨ub, k, none⟩ (.int .i64 y)) ob xk xa xs xn ∧ Lst (w5.setCell ⟨ub, k, none⟩ (.int .i64 y)) ub n (k + 1) (used b)) := by
              refine ⟨X5.set _ _ HN.out.1 HN.out.2.1, (I.out.2.1.below hb5).kept (But.setCell (S := fun i => i = ub) (But.refl _ w5) ub k _ (fun _ => rfl)) (fun e => HN.out.2.2 e), ?_⟩
              have := L5.next hlt
              rw [hy.out] at this
              exact this
            clear X5 L5 I U hb5
            go_wp2_with fail
            go_roundw
            case rel => exact ⟨k + 1, by simp, by omega, J.out⟩
            case measure => simp [RowKit.intOf]; omega
          · obtain ⟨nn, hnn⟩ : ∃ nn, nn = n := ⟨_, rfl⟩
            obtain rfl : k = n := by omega
            subst hnn
            have t1 : ¬ (nn : Int) < (nn : Int) := by omega
            have c1 := I.out.2.1.c1
            have c2 := I.out.2.1.c2
            have c3 := I.out.2.1.c3
            have G := res_any I.out.1.bk xa xs xn
            by_cases hE : resE b xa xs xn = 0
            · obtain ⟨i, j, rfl, rfl, hi, hj, hS, x0, x1, eB⟩ := res_ok hE
              have ub0 := used_bounds I.out.1.bk.good hi
              have ub1 := I.out.1.bk.good.l1 i hi
              have HE : Hid (b.S j = none ∧ 0 ≤ xn ∧ j < b.nS ∧ i < b.nA) := ⟨hS, x0, hj, hi⟩
              have i0 := I.out.2.2.lo i (by omega)
              have y0 := I.out.2.2.lt
              have y1 := I.out.2.1.lt
              rw [hE, eB] at G
              clear hE eB hS
              go_wp2_with fail
              refine G.mono ?_
              rintro e w6 ⟨rfl, K6, k6⟩
              have X6 : Bx w w6 P g h (setS b j (some (i, xn))) := I.out.1.put K6 k6
              have L6 := I.out.2.2.kept k6 HN.out.1
              have B6 := I.out.2.1.kept k6 HO.out
              have U := usedB X6 i hi
              rw [used_res b HE.out.2.2.1 HE.out.1] at U
              have V := fun Y (hY : Below w6.heap.size w6 Y) => stl_any (X6.bk.below hY) (j : Int) 0
              rw [stl_ok b HE.out.2.2.1 HE.out.2.1] at V
              have d0 := L6.lo i (by omega)
              have f1 := B6.c1
              have f2 := B6.c2
              have f3 := B6.c3
              have y2 := L6.lt
              have y3 := B6.lt
              have HX : Hid (Bx w w6 P g h (setS b j (some (i, xn))) ∧ Lst w6 ub nn nn (used b)) := ⟨X6, L6⟩
              have ti : (i : Int) < (nn : Int) := by omega
              have nO := HO.out
              have nU := HN.out.1
              clear I X6 L6 B6 K6 k6 G c1 c2 c3 i0 y0 y1
              obtain ⟨y, hy⟩ : ∃ y, Hid (used b i = y) := ⟨_, rfl⟩
              rw [hy.out] at U d0 ub0 x1
              have hw : IntKind.i64.wrap (y + xn) = y + xn := by rw [IntKind.wrap_i64]; omega
              go_wp2_with fail
              go_region_held3 (fun w' => w'.cell? ⟨ob, 1, none⟩ = some (.int .i64 (i : Int)) ∧ w'.cell? ⟨ob, 2, none⟩ = some (.int .i64 (j : Int)) ∧ w'.cell? ⟨ob, 3, none⟩ = some (.int .i64 xn) ∧ w'.cell? ⟨ub, i, none⟩ = some (.int .i64 y)) (go_keep) (first
                | (go_at_call 18; refine (U _ (by first | assumption | exact below_drewN _ _ _)).mono ?_; rintro e w7 ⟨rfl, hb7⟩; have g1 := (hb7.cell (p := ⟨ob, 1, none⟩) y3).trans f1; have g2 := (hb7.cell (p := ⟨ob, 2, none⟩) y3).trans f2; have g3 := (hb7.cell (p := ⟨ob, 3, none⟩) y3).trans f3; have g0 := (hb7.cell (p := ⟨ub, i, none⟩) y2).trans d0)
                | (go_at_call 16; refine (V _ hb7).mono ?_; rintro e w8 ⟨rfl, K8, k8⟩; have h1 := (k8.cell (k := ob) (o := 1) (Nat.lt_of_lt_of_le y3 hb7.size) nO).trans g1; have h2 := (k8.cell (k := ob) (o := 2) (Nat.lt_of_lt_of_le y3 hb7.size) nO).trans g2; have h3 := (k8.cell (k := ob) (o := 3) (Nat.lt_of_lt_of_le y3 hb7.size) nO).trans g3; have h0 := (k8.cell (k := ub) (o := i) (Nat.lt_of_lt_of_le y2 hb7.size) nU).trans g0))
              obtain ⟨b2, hb2⟩ : ∃ b2, stlB (setS b j (some (i, xn))) (j : Int) 0 = b2 := ⟨_, rfl⟩
              rw [hb2] at K8
              have n2 : b2.nA = nn := by rw [← hb2, stlB_nA]; exact nb
              have HU : Hid (∀ c, used b2 c = used b c) := fun c => by rw [← hb2]; exact stl_back b HE.out.2.2.1 HE.out.2.1 HE.out.1 c
              have I2 : Hid (Bx w w8 P g h b2 ∧ Lst w8 ub nn nn (used b)) := ⟨(HX.out.1.still hb7).put K8 k8, (HX.out.2.below hb7).kept k8 nU⟩
              clear HX K8 k8 hb7 U V g0 g1 g2 g3 h0 h1 h2 h3 f1 f2 f3 d0 hb2 HE
              go_wp2_with fail
              go_loopw [116] (fun c wr => ∃ k : Nat, c = .int .i64 (k : Int) ∧ k ≤ nn ∧ Hid (Bx w wr P g h b2 ∧ Lst wr ub nn nn (used b))) (fun c _ => nn - (RowKit.intOf c).toNat)
              case atStart => exact ⟨0, rfl, Nat.zero_le _, I2.out⟩
              case round =>
                clear I2
                obtain ⟨k, rfl, hk, I⟩ := hrel
                by_cases hlt : k < nn
                · have t1 : (k : Int) < (nn : Int) := by omega
                  have U := usedB I.out.1 k (by rw [n2]; exact hlt)
                  rw [HU.out] at U
                  have d0 := I.out.2.lo k hlt
                  have y0 := I.out.2.lt
                  generalize used b k = y at *
                  go_wp2_with fail
                  go_region_held3 (fun w' => w'.cell? ⟨ub, k, none⟩ = some (.int .i64 y)) (go_keep) (first
                    | (go_at_call 18; refine (U _ (by first | assumption | exact below_drewN _ _ _)).mono ?_; rintro e w5 ⟨rfl, hb5⟩; have f0 := (hb5.cell (p := ⟨ub, k, none⟩) y0).trans d0))
                  have J : Hid _ := And.intro (I.out.1.still hb5) (I.out.2.below hb5)
                  go_wp2_with fail
                  go_roundw
                  case rel => exact ⟨k + 1, by simp, by omega, J.out⟩
                  case measure => simp [RowKit.intOf]; omega
                · obtain rfl : k = nn := by omega
                  have t1 : ¬ (k : Int) < (k : Int) := by omega
                  go_wp2_with fail
                  go_ret
                  exact ⟨rfl, I.out.1.bel⟩
            · rw [res_same hE] at G
              have hv : resE b xa xs xn = 2 ∨ resE b xa xs xn = 41 ∨ resE b xa xs xn = 170 := by
                rcases res_vals b xa xs xn with h | h
                · exact absurd h hE
                · exact h
              clear hE
              rcases hv with hv | hv | hv
              · rw [hv] at G
                clear hv
                go_wp2_with fail
                refine G.mono ?_
                rintro e w6 ⟨rfl, K6, k6⟩
                have B6 := I.out.2.1.kept k6 HO.out
                have f1 := B6.c1
                have I2 : Hid (Bx w w6 P g h b ∧ Lst w6 ub nn nn (used b)) := ⟨I.out.1.put K6 k6, I.out.2.2.kept k6 HN.out.1⟩
                clear I B6 K6 k6 G c1 c2 c3
                go_wp2_with fail
                go_quiet (fail)
                obtain ⟨b2, hb2⟩ : ∃ b2, b2 = b := ⟨_, rfl⟩
                have n2 : b2.nA = nn := by rw [hb2]; exact nb
                have HU : Hid (∀ c, used b2 c = used b c) := fun c => by rw [hb2]
                have I2 : Hid (Bx w _ P g h b2 ∧ Lst _ ub nn nn (used b)) := ⟨by rw [hb2]; exact I2.out.1.still (below_drewN _ nq _), I2.out.2.below (below_drewN _ nq _)⟩
                clear hb2 f1
                go_wp2_with fail
                go_loopw [116] (fun c wr => ∃ k : Nat, c = .int .i64 (k : Int) ∧ k ≤ nn ∧ Hid (Bx w wr P g h b2 ∧ Lst wr ub nn nn (used b))) (fun c _ => nn - (RowKit.intOf c).toNat)
                case atStart => exact ⟨0, rfl, Nat.zero_le _, I2.out⟩
                case round =>
                  clear I2
                  obtain ⟨k, rfl, hk, I⟩ := hrel
                  by_cases hlt : k < nn
                  · have t1 : (k : Int) < (nn : Int) := by omega
                    have U := usedB I.out.1 k (by rw [n2]; exact hlt)
                    rw [HU.out] at U
                    have d0 := I.out.2.lo k hlt
                    have y0 := I.out.2.lt
                    generalize used b k = y at *
                    go_wp2_with fail
                    go_region_held3 (fun w' => w'.cell? ⟨ub, k, none⟩ = some (.int .i64 y)) (go_keep) (first
                      | (go_at_call 18; refine (U _ (by first | assumption | exact below_drewN _ _ _)).mono ?_; rintro e w5 ⟨rfl, hb5⟩; have f0 := (hb5.cell (p := ⟨ub, k, none⟩) y0).trans d0))
                    have J : Hid _ := And.intro (I.out.1.still hb5) (I.out.2.below hb5)
                    go_wp2_with fail
                    go_roundw
                    case rel => exact ⟨k + 1, by simp, by omega, J.out⟩
                    case measure => simp [RowKit.intOf]; omega
                  · obtain rfl : k = nn := by omega
                    have t1 : ¬ (k : Int) < (k : Int) := by omega
                    go_wp2_with fail
                    go_ret
                    exact ⟨rfl, I.out.1.bel⟩
              · rw [hv] at G
                clear hv
                go_wp2_with fail
                refine G.mono ?_
                rintro e w6 ⟨rfl, K6, k6⟩
                have B6 := I.out.2.1.kept k6 HO.out
                have f1 := B6.c1
                have I2 : Hid (Bx w w6 P g h b ∧ Lst w6 ub nn nn (used b)) := ⟨I.out.1.put K6 k6, I.out.2.2.kept k6 HN.out.1⟩
                clear I B6 K6 k6 G c1 c2 c3
                go_wp2_with fail
                go_quiet (fail)
                obtain ⟨b2, hb2⟩ : ∃ b2, b2 = b := ⟨_, rfl⟩
                have n2 : b2.nA = nn := by rw [hb2]; exact nb
                have HU : Hid (∀ c, used b2 c = used b c) := fun c => by rw [hb2]
                have I2 : Hid (Bx w _ P g h b2 ∧ Lst _ ub nn nn (used b)) := ⟨by rw [hb2]; exact I2.out.1.still (below_drewN _ nq _), I2.out.2.below (below_drewN _ nq _)⟩
                clear hb2 f1
                go_wp2_with fail
                go_loopw [116] (fun c wr => ∃ k : Nat, c = .int .i64 (k : Int) ∧ k ≤ nn ∧ Hid (Bx w wr P g h b2 ∧ Lst wr ub nn nn (used b))) (fun c _ => nn - (RowKit.intOf c).toNat)
                case atStart => exact ⟨0, rfl, Nat.zero_le _, I2.out⟩
                case round =>
                  clear I2
                  obtain ⟨k, rfl, hk, I⟩ := hrel
                  by_cases hlt : k < nn
                  · have t1 : (k : Int) < (nn : Int) := by omega
                    have U := usedB I.out.1 k (by rw [n2]; exact hlt)
                    rw [HU.out] at U
                    have d0 := I.out.2.lo k hlt
                    have y0 := I.out.2.lt
                    generalize used b k = y at *
                    go_wp2_with fail
                    go_region_held3 (fun w' => w'.cell? ⟨ub, k, none⟩ = some (.int .i64 y)) (go_keep) (first
                      | (go_at_call 18; refine (U _ (by first | assumption | exact below_drewN _ _ _)).mono ?_; rintro e w5 ⟨rfl, hb5⟩; have f0 := (hb5.cell (p := ⟨ub, k, none⟩) y0).trans d0))
                    have J : Hid _ := And.intro (I.out.1.still hb5) (I.out.2.below hb5)
                    go_wp2_with fail
                    go_roundw
                    case rel => exact ⟨k + 1, by simp, by omega, J.out⟩
                    case measure => simp [RowKit.intOf]; omega
                  · obtain rfl : k = nn := by omega
                    have t1 : ¬ (k : Int) < (k : Int) := by omega
                    go_wp2_with fail
                    go_ret
                    exact ⟨rfl, I.out.1.bel⟩
              · rw [hv] at G
                clear hv
                go_wp2_with fail
                refine G.mono ?_
                rintro e w6 ⟨rfl, K6, k6⟩
                have B6 := I.out.2.1.kept k6 HO.out
                have f1 := B6.c1
                have I2 : Hid (Bx w w6 P g h b ∧ Lst w6 ub nn nn (used b)) := ⟨I.out.1.put K6 k6, I.out.2.2.kept k6 HN.out.1⟩
                clear I B6 K6 k6 G c1 c2 c3
                go_wp2_with fail
                go_quiet (fail)
                obtain ⟨b2, hb2⟩ : ∃ b2, b2 = b := ⟨_, rfl⟩
                have n2 : b2.nA = nn := by rw [hb2]; exact nb
                have HU : Hid (∀ c, used b2 c = used b c) := fun c => by rw [hb2]
                have I2 : Hid (Bx w _ P g h b2 ∧ Lst _ ub nn nn (used b)) := ⟨by rw [hb2]; exact I2.out.1.still (below_drewN _ nq _), I2.out.2.below (below_drewN _ nq _)⟩
                clear hb2 f1
                go_wp2_with fail
                go_loopw [116] (fun c wr => ∃ k : Nat, c = .int .i64 (k : Int) ∧ k ≤ nn ∧ Hid (Bx w wr P g h b2 ∧ Lst wr ub nn nn (used b))) (fun c _ => nn - (RowKit.intOf c).toNat)
                case atStart => exact ⟨0, rfl, Nat.zero_le _, I2.out⟩
                case round =>
                  clear I2
                  obtain ⟨k, rfl, hk, I⟩ := hrel
                  by_cases hlt : k < nn
                  · have t1 : (k : Int) < (nn : Int) := by omega
                    have U := usedB I.out.1 k (by rw [n2]; exact hlt)
                    rw [HU.out] at U
                    have d0 := I.out.2.lo k hlt
                    have y0 := I.out.2.lt
                    generalize used b k = y at *
                    go_wp2_with fail
                    go_region_held3 (fun w' => w'.cell? ⟨ub, k, none⟩ = some (.int .i64 y)) (go_keep) (first
                      | (go_at_call 18; refine (U _ (by first | assumption | exact below_drewN _ _ _)).mono ?_; rintro e w5 ⟨rfl, hb5⟩; have f0 := (hb5.cell (p := ⟨ub, k, none⟩) y0).trans d0))
                    have J : Hid _ := And.intro (I.out.1.still hb5) (I.out.2.below hb5)
                    go_wp2_with fail
                    go_roundw
                    case rel => exact ⟨k + 1, by simp, by omega, J.out⟩
                    case measure => simp [RowKit.intOf]; omega
                  · obtain rfl : k = nn := by omega
                    have t1 : ¬ (k : Int) < (k : Int) := by omega
                    go_wp2_with fail
                    go_ret
                    exact ⟨rfl, I.out.1.bel⟩
theorem riskRefused_walk (w : World) (L : Nat → Int) (n : Nat) (v : Value) (row : Row w v n fun i => .int .i64 (L i)) (_ : ∀ i, n ≤ i → L i = 0) (_ : ∀ i, -9223372036854775808 ≤ L i ∧ L i ≤ 9223372036854775807) (vo : Value) (no : Nat) (C V Q X : Nat → Int) (ops : Ops w vo no C V Q X) (xk xa xs xn : Int) : Calls Try.prog 6 #[v, vo, .agg #[.int .i64 xk, .int .i64 xa, .int .i64 xs, .int .i64 xn]] w fun e w' => e = .returned (.bool true) ∧ Below w.heap.size w w' := by
  by_cases h1 : 16 < n
  · exact refused_long w L n v row vo no C V Q X ops xk xa xs xn h1
  by_cases h2 : 60 < no
  · exact refused_many w L n v row vo no C V Q X ops xk xa xs xn ⟨by omega, h2⟩
  by_cases h3 : n < 1
  · exact refused_none w L n v row vo no C V Q X ops xk xa xs xn h3 (by omega)
  · exact refused_in w L n v row vo no C V Q X ops xk xa xs xn (by omega) (by omega) (by omega)
theorem riskRefused_own : ownKnob Try.prog.godebug = none := by kernel_rfl
theorem riskRefused_laidOut : laidOutB Try.prog = true := by kernel_rfl
set_option maxRecDepth 100000 in
theorem riskRefused_lifted (os : Os) (started : os.Started) (H : Type) (enc : TypeId × Value → H) :
    ReturnsInHanded {} Try.checked os 6 .any (Rows.riskRefusedSpec.pre6 enc Try.prog Try.f6 Rows.riskRefusedRow.domain false) (Rows.riskRefusedSpec.post enc Try.prog Try.f6 false true false false) := by
  refine returnsInHanded_of_change (C := Try.checked) riskRefused_own started (by kernel_rfl) Try.func6
    (ChangeSpec.witness6 (enc := enc) (C := Try.checked) false ⟨#[], #[.slice none 0 0, .slice none 0 0, .agg #[.int .i64 0, .int .i64 0, .int .i64 0, .int .i64 0]], []⟩ 8 (by kernel_rfl) (by kernel_rfl) (by kernel_rfl) (by kernel_rfl)) ?_
  intro W base args ds gs before hval0 hW hcnd _
  have hval : ∀ (j : Nat) t v, Try.f6.params[j]? = some t → args[j]? = some v → Value.okWide Try.prog W .any base t v := hval0
  have hW' := hW
  obtain ⟨p, q, hA0, hV, rfl, hfz, hnd⟩ := hW
  have hA : DataW.TrodAll enc Try.prog W 0 (fun _ => true) true Try.f6.params.toList args.toList ds p := hA0
  rw [Try.params6] at hA hval
  obtain ⟨v0, vs0, d0, ds0, p0, q0, hargs, rfl, rfl, h0, r0⟩ := trodAll_cons hA
  obtain ⟨v1, vs1, d1, ds1, p1, q1, rfl, rfl, rfl, h1, r1⟩ := trodAll_cons r0
  obtain ⟨v2, vs2, d2, ds2, p2, q2, rfl, rfl, rfl, h2, r2⟩ := trodAll_cons r1
  obtain ⟨rfl, rfl, rfl⟩ := trodAll_nil r2
  obtain rfl : args = #[v0, v1, v2] := by cases args; simp_all
  obtain ⟨rfl, rfl⟩ := trodVars_none hV
  obtain ⟨ad0, n0, cap0, rfl⟩ := okWide_slice Try.underlying22 (hval 0 22 v0 rfl rfl)
  have k0 := h0
  have lt0 : ∀ x ∈ p0, x.block < W.heap.size := by obtain ⟨m, hm⟩ := k0; exact DataW.trod_lt m _ _ _ hm
  obtain ⟨f0, row0, be0, bd0⟩ : ∃ f : Nat → Int, Row W (.slice ad0 n0 cap0) n0 (fun i => .int .i64 (f i)) ∧ (∀ i, n0 ≤ i → f i = 0) ∧ ∀ i, -9223372036854775808 ≤ f i ∧ f i ≤ 9223372036854775807 := by
    obtain ⟨fuel, hf⟩ := h0
    rcases open_ints Try.underlying22 Try.underlying3 (by kernel_rfl) hf with ⟨hcs, _⟩ | ⟨x, l, c, zs, hcs, _, hl, hm, hz, _, hcell, hwz⟩
    · simp [Value.cells] at hcs
      obtain ⟨rfl, rfl, rfl⟩ := hcs
      exact row_none W
    · simp [Value.cells] at hcs
      obtain ⟨rfl, rfl, rfl⟩ := hcs
      exact row_some hl hm (by simpa using hz) hcell (fun z hz => bounds_i64 (hwz z hz))
  obtain ⟨ad1, n1, cap1, rfl⟩ := okWide_slice Try.underlying23 (hval 1 23 v1 rfl rfl)
  have k1 := h1
  have lt1 : ∀ x ∈ p1, x.block < W.heap.size := by obtain ⟨m, hm⟩ := k1; exact DataW.trod_lt m _ _ _ hm
  obtain ⟨C1, V1, Q1, X1, ops1⟩ : ∃ C V Q X, Ops W (.slice ad1 n1 cap1) n1 C V Q X := by obtain ⟨fuel, hf⟩ := h1; exact open_ops hf
  obtain ⟨f20, f21, f22, f23, y20, y21, y22, y23, m2, rfl, rfl, rfl, g20, g21, g22, g23⟩ := Joins.open_agg4 Try.underlying33 (by kernel_rfl) (by kernel_rfl) (hval 2 33 v2 rfl rfl) h2
  obtain ⟨b2, eb2, rfl, wb2⟩ := DataW.trod_int Try.underlying3 g20
  obtain ⟨x2, ex2, rfl, wx2⟩ := DataW.trod_int Try.underlying3 g21
  obtain ⟨y2, ey2, rfl, wy2⟩ := DataW.trod_int Try.underlying3 g22
  obtain ⟨z2, ez2, rfl, wz2⟩ := DataW.trod_int Try.underlying3 g23
  simp only [List.cons.injEq, and_true] at eb2 ex2 ey2 ez2
  subst eb2 ex2 ey2 ez2
  clear hA0 hval0
  simp only [List.append_nil] at hW'
  refine (riskRefused_walk W f0 n0 _ row0 be0 bd0 _ n1 C1 V1 Q1 X1 ops1 b2 x2 y2 z2).mono fun e W' ⟨he, bel⟩ => ?_
  subst he
  exact ⟨_, rfl, _, _, _, [], _, [], hW', trodAll_mk1 (shut_bool Try.underlying4 _), (trodAll_cons_mk (Below.trod riskRefused_laidOut (by kernel_rfl) (of_decide_eq_true (by kernel_rfl)) k0 bel lt0) (trodAll_cons_mk (Below.trod riskRefused_laidOut (by kernel_rfl) (of_decide_eq_true (by kernel_rfl)) k1 bel lt1) (trodAll_cons_mk (Joins.shut_agg4 (P := Try.prog) (y0 := (.lit (.int .i64 b2), [])) (y1 := (.lit (.int .i64 x2), [])) (y2 := (.lit (.int .i64 y2), [])) (y3 := (.lit (.int .i64 z2), [])) Try.underlying33 (by kernel_rfl) (by kernel_rfl) ⟨1, by simp [DataW.trod, Try.underlying3, wb2]⟩ ⟨1, by simp [DataW.trod, Try.underlying3, wx2]⟩ ⟨1, by simp [DataW.trod, Try.underlying3, wy2]⟩ ⟨1, by simp [DataW.trod, Try.underlying3, wz2]⟩) trodAll_mk0))), rfl, bel.frame _, fun h => by cases h⟩

/-- THE STATEMENT. -/
theorem riskRefused_proved : Rows.RiskRefusedSaid :=
  OpenClaim.holds_of_wide 6 Try.f6 rfl rfl rfl rfl rfl rfl rfl ⟨rfl, rfl, rfl, rfl, rfl⟩ rfl rfl rfl rfl rfl (by kernel_rfl) Try.func6 (by kernel_rfl)
    (of_decide_eq_true (by kernel_rfl)) (by unfold Func.isWrapper; first | (rw [if_pos (by decide +kernel)]; kernel_rfl) | (rw [if_neg (by decide +kernel)]; exact ⟨rfl, rfl⟩))
    (fun os started H enc _ => riskRefused_lifted os started H enc)
#print axioms riskRefused_proved
end Go.Proofs.Ytcjdbfmglckdkaa
