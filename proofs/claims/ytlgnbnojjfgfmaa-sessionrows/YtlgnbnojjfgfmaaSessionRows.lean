/-
  SessionRows: orders come out in the order in which they went in, numbered without a hole; replies are taken in their order, each once. For every room and every list of steps, no condition.
-/
import Derived.Test.YtlgnbnojjfgfmaaSnRows
namespace Go.Proofs.Ytlgnbnojjfgfmaa
open Go.ChangeShapes Go.WideShapes Go.ChangeAt Go.RowKit Go.Deep Go.WideElems Go.Lib SN RU

theorem infoO : (Try.prog.info? 34).map (fun i => (i.zero, i.size, i.bytes)) = some (some (.agg #[.int .i64 0, .int .i64 0, .string ⟨#[]⟩, .string ⟨#[]⟩, .int .i64 0, .int .i64 0, .int .i64 0]), 7, 72) := by kernel_rfl
set_option maxRecDepth 100000 in
set_option maxHeartbeats 16000000 in
theorem sessionRows_walk (w : World) (room : Int) (_bd : -9223372036854775808 ≤ room ∧ room ≤ 9223372036854775807) (v : Value) (n0 : Nat) (X : Nat → Opc) (h : Ops w v n0 X) : Calls Try.prog 5 #[.int .i64 room, v] w fun e w' => e = .returned (.bool true) ∧ Below w.heap.size w w' := by
  have HO : Hid (Ops w v n0 X) := h
  obtain ⟨ad, cap, rfl, q1, q2, h3⟩ := h
  have H3 : Hid (∀ i, i < n0 → (∃ b off, ad = some ⟨b, off, none⟩ ∧ w.cell? ⟨b, off + i * 9, none⟩ = some (.int .i64 (X i).k) ∧ w.cell? ⟨b, off + i * 9 + 1, none⟩ = some (.int .i64 (X i).n) ∧ w.cell? ⟨b, off + i * 9 + 2, none⟩ = some (.int .i64 (X i).o.k) ∧ w.cell? ⟨b, off + i * 9 + 3, none⟩ = some (.int .i64 (X i).o.s) ∧ w.cell? ⟨b, off + i * 9 + 4, none⟩ = some (.string (X i).o.i) ∧ w.cell? ⟨b, off + i * 9 + 5, none⟩ = some (.string (X i).o.y) ∧ w.cell? ⟨b, off + i * 9 + 6, none⟩ = some (.int .i64 (X i).o.d) ∧ w.cell? ⟨b, off + i * 9 + 7, none⟩ = some (.int .i64 (X i).o.q) ∧ w.cell? ⟨b, off + i * 9 + 8, none⟩ = some (.int .i64 (X i).o.p)) ∧ (X i).o.i.size ≤ maxLen ∧ (X i).o.y.size ≤ maxLen ∧ (X i).n ≤ 9223372036854775807) := h3
  clear h3
  unfold maxLen at q2
  have F1 := awake_any w
  go_enter Try.func5, Try.ntmps5
  go_wp2_with fail
  refine F1.mono ?_
  rintro e w1 ⟨rfl, hb1⟩
  have HB1 : Hid (Below w.heap.size w w1) := hb1
  clear F1 hb1
  have F2 := few_any (HO.out.below HB1.out)
  go_wp2_with fail
  refine F2.mono ?_
  rintro e w2 ⟨⟨T, rfl, hT⟩, hb2⟩
  have HB2 : Hid (Below w.heap.size w w2) := HB1.out.trans (hb2.mono HB1.out.size)
  clear F2 hb2 HB1 HO
  cases T
  · go_wp2_with fail
    go_ret
    exact ⟨rfl, HB2.out⟩
  have HS : Hid (fewB n0 X) := hT.out.1 rfl
  clear hT
  by_cases t0 : room < 1
  · have F3 := snew_no room w2 (by omega)
    go_wp2_with fail
    refine F3.mono ?_
    rintro e w3 ⟨rfl, rfl⟩
    go_wp2_with fail
    go_ret
    exact ⟨rfl, HB2.out⟩
  by_cases t1 : (1024 : Int) < room
  · have F3 := snew_no room w2 (by omega)
    go_wp2_with fail
    refine F3.mono ?_
    rintro e w3 ⟨rfl, rfl⟩
    go_wp2_with fail
    go_ret
    exact ⟨rfl, HB2.out⟩
  obtain ⟨m, rfl⟩ := Int.eq_ofNat_of_zero_le (show 0 ≤ room by omega)
  have F3 := snew_yes m w2 (by omega) (by omega)
  have tn : (n0 : Int) ≤ 100 := by have := HS.out.1; omega
  go_wp2_with fail
  refine F3.mono ?_
  rintro e w3 ⟨rfl, K3, B3, Z3⟩
  have I0 : Hid (Rws w w3 (w2.heap.size + 1) w2.heap.size w3.heap.size (newX m) 0 (newX m).L (.slice none 0 0)) := by
    have b3 : Below w.heap.size w w3 := HB2.out.trans (B3.mono HB2.out.size)
    have hz := HB2.out.size
    refine ⟨none, 0, 0, K3, World.ownsRow_nil _ _ _ _, fun k hk => ?_, b3.size, Nat.le_refl _, b3⟩
    have hk' : k = w2.heap.size + 1 ∨ k = w2.heap.size := by
      rcases hk with e | e | e
      · exact .inl e
      · exact .inr e
      · cases e
    exact ⟨by omega, fun e => by cases e⟩
  clear F3 K3 B3 HB2 Z3
  obtain ⟨base, hbase⟩ : ∃ base, w3.heap.size = base := ⟨_, rfl⟩
  rw [hbase] at I0
  clear hbase
  generalize w2.heap.size = r at *
  go_wp2_with fail
  go_loopw [7, 8, 9, 32] (fun vi vo vt c wr => ∃ (i : Nat) (x : Ss) (v : Value), v = vi ∧ vo = .int .i64 (x.out : Int) ∧ vt = .int .i64 (x.tk : Int) ∧ c = .int .i64 (i : Int) ∧ i ≤ n0 ∧ Hid (Rws w wr (r + 1) r base x x.sn x.L v) ∧ Hid (Lim x i ∧ x.room = m)) (fun _ _ _ c _ => n0 - (RowKit.intOf c).toNat)
  case atStart => exact ⟨0, newX m, _, rfl, rfl, rfl, rfl, Nat.zero_le _, I0.out, ⟨Nat.le_refl _, Nat.le_refl _, Nat.le_refl _⟩, rfl⟩
  case round =>
    clear I0
    obtain ⟨i, x, v, rfl, rfl, rfl, rfl, hi, I, HLR⟩ := hrel
    have HL : Hid (Lim x i) := HLR.out.1
    have HRm : Hid (x.room = m) := HLR.out.2
    clear HLR
    by_cases hlt : i < n0
    · have hB := I.out.bel
      have tk : (i : Int) < (n0 : Int) := by omega
      obtain ⟨⟨b1, o1, e1, y0, y1, y2, y3, y4, y5, y6, y7, y8⟩, _, _, zn⟩ := H3.out i hlt
      have l1 := World.block_lt_of_cell? _ _ y0
      subst e1
      replace y0 := (hB.cell (p := ⟨b1, o1 + i * 9, none⟩) l1).trans y0
      replace y1 := (hB.cell (p := ⟨b1, o1 + i * 9 + 1, none⟩) l1).trans y1
      replace y2 := (hB.cell (p := ⟨b1, o1 + i * 9 + 2, none⟩) l1).trans y2
      replace y3 := (hB.cell (p := ⟨b1, o1 + i * 9 + 3, none⟩) l1).trans y3
      replace y4 := (hB.cell (p := ⟨b1, o1 + i * 9 + 4, none⟩) l1).trans y4
      replace y5 := (hB.cell (p := ⟨b1, o1 + i * 9 + 5, none⟩) l1).trans y5
      replace y6 := (hB.cell (p := ⟨b1, o1 + i * 9 + 6, none⟩) l1).trans y6
      replace y7 := (hB.cell (p := ⟨b1, o1 + i * 9 + 7, none⟩) l1).trans y7
      replace y8 := (hB.cell (p := ⟨b1, o1 + i * 9 + 8, none⟩) l1).trans y8
      replace l1 := Nat.lt_of_lt_of_le l1 hB.size
      have HZ : Hid (Sml (X i)) := HS.out.2 i hlt
      have hi1 : i < 100 := by omega
      obtain ⟨x1, hx1⟩ : ∃ x1, X i = x1 := ⟨_, rfl⟩
      rw [hx1] at y0 y1 y2 y3 y4 y5 y6 y7 y8 HZ zn
      clear hx1
      obtain ⟨ok, on, ⟨xk, xs, xi, xy, xd, xq, xp⟩⟩ := x1
      simp only at y0 y1 y2 y3 y4 y5 y6 y7 y8 zn
      have D0 : Hid (Rwb w (wr.alloc (.cells #[.int .i64 ok, .int .i64 on, .int .i64 xk, .int .i64 xs, .string xi, .string xy, .int .i64 xd, .int .i64 xq, .int .i64 xp] 36)) (r + 1) r base wr.heap.size ⟨ok, on, ⟨xk, xs, xi, xy, xd, xq, xp⟩⟩ x x.sn x.L v) := Rwb.new I.out ⟨ok, on, ⟨xk, xs, xi, xy, xd, xq, xp⟩⟩
      have l2 : x.sn ≤ 4096 := Nat.le_trans HL.out.1 (by omega)
      have l3 : x.tk ≤ 4096 := Nat.le_trans HL.out.2.1 (by omega)
      have l4 : (x.sn : Int) ≤ 4096 := by omega
      have l5 : (x.tk : Int) ≤ 4096 := by omega
      have ho : x.out ≤ x.sn := by
        obtain ⟨S, C, f, h1, _⟩ := I.out
        exact h1.ord
      clear I hB HZ
      go_upto_region 13 with fail
      generalize wr.alloc (.cells #[.int .i64 ok, .int .i64 on, .int .i64 xk, .int .i64 xs, .string xi, .string xy, .int .i64 xd, .int .i64 xq, .int .i64 xp] 36) = wB at *
      obtain ⟨gx, hgx⟩ : ∃ g, g = wr.heap.size := ⟨_, rfl⟩
      rw [← hgx] at D0
      rw [← hgx]
      clear hgx l1 y0 y1 y2 y3 y4 y5 y6 y7 y8
      obtain ⟨⟨d0, d1, d2, d3, d4, d5, d6, d7, d8⟩, _⟩ := D0.out.nine
      simp only at d0 d1 d2 d3 d4 d5 d6 d7 d8
      by_cases k1 : ok = 1
      · subst k1
        have G := rw_send D0.out ⟨xk, xs, xi, xy, xd, xq, xp⟩ l2
        by_cases hE : sndE x ⟨xk, xs, xi, xy, xd, xq, xp⟩ = 0
        · have hN : sndN x ⟨xk, xs, xi, xy, xd, xq, xp⟩ = (x.sn : Int) + 1 := if_pos hE
          obtain ⟨Z, hZ⟩ : ∃ Z, sndX x ⟨xk, xs, xi, xy, xd, xq, xp⟩ = Z := ⟨_, rfl⟩
          have hZ2 : Z = ⟨x.room, x.sn + 1, x.out, x.tk, x.fa, x.dn, upd x.L x.sn ⟨xk, ((x.sn : Int) + 1), xi, xy, xd, xq, xp⟩⟩ := by rw [← hZ]; exact if_pos hE
          have HL2 : Hid (Lim Z (i + 1)) := by rw [← hZ]; exact HL.out.snd _
          have HZ : Hid (Z = ⟨x.room, x.sn + 1, x.out, x.tk, x.fa, x.dn, upd x.L x.sn ⟨xk, ((x.sn : Int) + 1), xi, xy, xd, xq, xp⟩⟩) := hZ2
          rw [hE, hN, hZ] at G
          clear hE hN hZ hZ2 D0 HL zn
          dsimp only [oV] at G
          go_wp2_with fail
          refine G.mono ?_
          rintro e w4 ⟨rfl, D4⟩
          clear G d0 d1 d2 d3 d4 d5 d6 d7 d8
          obtain ⟨⟨d0, d1, d2, d3, d4, d5, d6, d7, d8⟩, fz⟩ := D4.out.nine
          simp only at d0 d1 d2 d3 d4 d5 d6 d7 d8
          have f3 := fz 3
          clear fz
          obtain ⟨w5, hw5⟩ : ∃ w5, Hid (w5 = w4.setCell ⟨gx, 3, none⟩ (.int .i64 ((x.sn : Int) + 1))) := ⟨_, rfl⟩
          have D5 : Hid (Rwb w w5 (r + 1) r base gx ⟨1, on, ⟨xk, ((x.sn : Int) + 1), xi, xy, xd, xq, xp⟩⟩ Z x.sn x.L v) := by rw [hw5.out]; exact D4.out.number _
          clear D4
          go_upto_region 18 with fail
          rw [← hw5.out]
          clear hw5 d0 d1 d2 d3 d4 d5 d6 d7 d8 f3
          obtain ⟨⟨d0, d1, d2, d3, d4, d5, d6, d7, d8⟩, _⟩ := D5.out.nine
          simp only at d0 d1 d2 d3 d4 d5 d6 d7 d8
          have B6 : Below w5.heap.size w5 (w5.alloc (.cells #[.int .i64 xk, .int .i64 ((x.sn : Int) + 1), .string xi, .string xy, .int .i64 xd, .int .i64 xq, .int .i64 xp] 34)) := below1 _ _
          obtain ⟨hown, hbs⟩ : (w5.alloc (.cells #[.int .i64 xk, .int .i64 ((x.sn : Int) + 1), .string xi, .string xy, .int .i64 xd, .int .i64 xq, .int .i64 xp] 34)).ownsRow base 34 7 v x.sn (allO x.L x.sn) ∧ base ≤ w5.heap.size := by
            obtain ⟨S, C, f, _, h2, _, _, _, h5, _⟩ := D5.out
            exact ⟨own_below h2 B6, h5⟩
          have hcn := cell_news w5 #[.int .i64 xk, .int .i64 ((x.sn : Int) + 1), .string xi, .string xy, .int .i64 xd, .int .i64 xq, .int .i64 xp] 34
          obtain ⟨i0, hi0, hz0, hzs, hzb⟩ := info_parts infoO
          obtain ⟨va, vc, rfl⟩ := own_shape hown
          have HB6 : Hid (Below w5.heap.size w5 (w5.alloc (.cells #[.int .i64 xk, .int .i64 ((x.sn : Int) + 1), .string xi, .string xy, .int .i64 xd, .int .i64 xq, .int .i64 xp] 34))) := B6
          clear B6
          go_wp2_with (at_builtin; refine wpList_append_own_at _ rfl _ _ 50 rfl base 34 i0 (.agg #[.int .i64 0, .int .i64 0, .string ⟨#[]⟩, .string ⟨#[]⟩, .int .i64 0, .int .i64 0, .int .i64 0]) 7 72 Try.underlying50 hi0 hz0 hzs hzb rfl (by decide) _ _ _ rfl hown ⟨w5.heap.size, 0, none⟩ 1 1 (cellsO ⟨xk, ((x.sn : Int) + 1), xi, xy, xd, xq, xp⟩) rfl rfl ?hnews (cellsO_one _) ?h63 ?hbytes ?hbase ?_)
          case hnews => first | exact hcn | exact fun _ _ h => h
          case h63 => unfold maxLen; omega
          case hbytes => omega
          case hbase => first | omega | (simp; omega)
          intro v6 w6 hown6 hg6 _ hat6
          have hat7 : v6.ownBlock = (Value.slice va x.sn vc).ownBlock ∨ v6.ownBlock = some (w5.alloc (.cells #[.int .i64 xk, .int .i64 ((x.sn : Int) + 1), .string xi, .string xy, .int .i64 xd, .int .i64 xq, .int .i64 xp] 34)).heap.size := by rw [World.size_alloc]; exact hat6
          have R6 := D5.out.more HB6.out hg6 hown6 hat7
          have R7 : Hid (Rws w w6 (r + 1) r base Z Z.sn Z.L v6) := by rw [HZ.out] at R6 ⊢; exact R6
          obtain ⟨a6, c6, rfl⟩ := own_shape hown6
          have ec : ((x.sn + 1 : Nat) : Int) = (x.sn : Int) + 1 := by omega
          have eo : (x.out : Int) = (Z.out : Int) := by rw [HZ.out]
          have et : (x.tk : Int) = (Z.tk : Int) := by rw [HZ.out]
          clear hown6 hg6 hat6 hat7 R6 hown hcn HB6 D5 d0 d1 d2 d3 d4 d5 d6 d7 d8
          go_wp2_with fail
          go_roundw
          case rel => exact ⟨i + 1, Z, _, rfl, by first | rfl | rw [eo], by first | rfl | rw [et], by simp, by omega, R7.out, HL2.out, by first | exact HRm.out | (rw [HZ.out]; exact HRm.out)⟩
          case measure => simp [RowKit.intOf]; omega
        · have hN : sndN x ⟨xk, xs, xi, xy, xd, xq, xp⟩ = 0 := if_neg hE
          have hZ : sndX x ⟨xk, xs, xi, xy, xd, xq, xp⟩ = x := if_neg hE
          rw [hN, hZ] at G
          have HL2 : Hid (Lim x (i + 1)) := HL.out.more
          obtain ⟨E, hEE⟩ : ∃ E, sndE x ⟨xk, xs, xi, xy, xd, xq, xp⟩ = E := ⟨_, rfl⟩
          rw [hEE] at G hE
          have hEb : (E == 0) = false := beq_false_of_ne hE
          clear hEE hN hZ D0 HL zn
          dsimp only [oV] at G
          go_wp2_with fail
          refine G.mono ?_
          rintro e w4 ⟨rfl, D4⟩
          have R7 : Hid (Rws w w4 (r + 1) r base x x.sn x.L v) := D4.out.rws
          clear G D4
          go_wp2_with fail
          go_roundw
          case rel => exact ⟨i + 1, x, v, rfl, rfl, rfl, by simp, by omega, R7.out, HL2.out, by first | exact HRm.out | (rw [HZ.out]; exact HRm.out)⟩
          case measure => simp [RowKit.intOf]; omega
      by_cases k2 : ok = 2
      · subst k2
        have G := rw_pop D0.out
        by_cases hz : x.sn ≤ x.out
        · rw [show popE x = 50 from if_pos hz, show popO x = o0 from if_pos hz, show popX x = x from if_pos hz] at G
          have HL2 : Hid (Lim x (i + 1)) := HL.out.more
          simp only [oV, o0] at G
          clear D0 HL zn
          go_wp2_with fail
          refine G.mono ?_
          rintro e w4 ⟨rfl, D4⟩
          have R7 : Hid (Rws w (w4.alloc (.cells #[.int .i64 0, .int .i64 0, .string ⟨#[]⟩, .string ⟨#[]⟩, .int .i64 0, .int .i64 0, .int .i64 0] 34)) (r + 1) r base x x.sn x.L v) := (D4.out.below (below1 _ _)).rws
          clear G D4
          go_wp2_with fail
          go_roundw
          case rel => exact ⟨i + 1, x, v, rfl, rfl, rfl, by simp, by omega, R7.out, HL2.out, by first | exact HRm.out | (rw [HZ.out]; exact HRm.out)⟩
          case measure => simp [RowKit.intOf]; omega
        · rw [show popE x = 0 from if_neg hz, show popO x = x.L x.out from if_neg hz] at G
          obtain ⟨Z, hZ⟩ : ∃ Z, popX x = Z := ⟨_, rfl⟩
          have HZ : Hid (Z = ⟨x.room, x.sn, x.out + 1, x.tk, x.fa, x.dn, x.L⟩) := by show Z = _; rw [← hZ]; exact if_neg hz
          have HL2 : Hid (Lim Z (i + 1)) := by rw [← hZ]; exact HL.out.pop
          rw [hZ] at G
          obtain ⟨N, hN⟩ : ∃ N, x.L x.out = N := ⟨_, rfl⟩
          have HN : Hid (x.L x.out = N) := hN
          rw [hN] at G
          clear hN hZ D0 HL zn
          obtain ⟨pk, ps, pi, py, pd, pq, pp⟩ := N
          dsimp only [oV] at G
          have E1 := od_eq pk ps pd pq pp pi py
          go_wp2_with fail
          refine G.mono ?_
          rintro e w4 ⟨rfl, D4⟩
          have D5 : Hid (Rwb w (w4.alloc (.cells #[.int .i64 pk, .int .i64 ps, .string pi, .string py, .int .i64 pd, .int .i64 pq, .int .i64 pp] 34)) (r + 1) r base gx ⟨2, on, ⟨xk, xs, xi, xy, xd, xq, xp⟩⟩ Z x.sn x.L v) := D4.out.below (below1 _ _)
          have X5 : Hid (Bx (w4.alloc (.cells #[.int .i64 pk, .int .i64 ps, .string pi, .string py, .int .i64 pd, .int .i64 pq, .int .i64 pp] 34)) w4.heap.size ⟨pk, ps, pi, py, pd, pq, pp⟩) := Bx.new w4 ⟨pk, ps, pi, py, pd, pq, pp⟩ _
          clear G D4 d0 d1 d2 d3 d4 d5 d6 d7 d8
          go_upto_region 24 with fail
          generalize w4.alloc (.cells #[.int .i64 pk, .int .i64 ps, .string pi, .string py, .int .i64 pd, .int .i64 pq, .int .i64 pp] 34) = w5 at *
          generalize w4.heap.size = gy at *
          obtain ⟨n0', n1, n2, n3, n4, n5, n6⟩ := X5.out.sev.all0
          simp only at n0' n1 n2 n3 n4 n5 n6
          have hrow : w5.ownsRow base 34 7 v x.sn (allO x.L x.sn) := by
            obtain ⟨S, C, f, _, h2, _⟩ := D5.out
            exact h2
          obtain ⟨q, vc, rfl, q3, q4, _, hS⟩ := own_cells hrow (i := x.out) (by omega)
          unfold maxLen at q4
          rw [HN.out] at hS
          obtain ⟨m0, m1, m2, m3, m4, m5, m6⟩ := hS.all
          simp only at m0 m1 m2 m3 m4 m5 m6
          have t5 : (x.out : Int) < (x.sn : Int) := by omega
          have t6 : ¬ (x.sn : Int) ≤ (x.out : Int) := by omega
          have R7 : Hid (∀ k, Rws w (w5.drewN k) (r + 1) r base Z Z.sn Z.L (.slice (some ⟨q, 0, none⟩) x.sn vc)) := fun k => by
            have := (D5.out.below (below_drewN _ k _)).rws
            rw [HZ.out] at this ⊢
            exact this
          have eo : (x.out : Int) + 1 = (Z.out : Int) := by rw [HZ.out]; rfl
          have et : (x.tk : Int) = (Z.tk : Int) := by rw [HZ.out]
          clear hrow hS D5 X5 HN
          go_wp2_with fail
          go_region
          go_wp2_with fail
          go_roundw
          case rel => exact ⟨i + 1, Z, _, rfl, by first | rfl | rw [eo], by first | rfl | rw [et], by simp, by omega, R7.out 1, HL2.out, by first | exact HRm.out | (rw [HZ.out]; exact HRm.out)⟩
          case measure => simp [RowKit.intOf]; omega
      by_cases k3 : ok = 3
      · subst k3
        have G := rw_take D0.out on zn l3
        by_cases hE : tkE x on = 0
        · have en : on = (x.tk : Int) + 1 := by
            unfold tkE at hE
            by_cases e1 : on ≤ (x.tk : Int)
            · rw [if_pos e1] at hE; exact absurd hE (by decide)
            · rw [if_neg e1] at hE
              by_cases e2 : (x.tk : Int) + 1 < on
              · rw [if_pos e2] at hE; exact absurd hE (by decide)
              · omega
          obtain ⟨Z, hZ⟩ : ∃ Z, tkX x on = Z := ⟨_, rfl⟩
          have HZ : Hid (Z = ⟨x.room, x.sn, x.out, x.tk + 1, x.fa, x.dn, x.L⟩) := by show Z = _; rw [← hZ]; exact if_pos hE
          have HL2 : Hid (Lim Z (i + 1)) := by rw [← hZ]; exact HL.out.tk on
          rw [hE, hZ] at G
          have HEN : Hid (on = (x.tk : Int) + 1) := en
          clear hE hZ D0 HL zn en
          go_wp2_with fail
          refine G.mono ?_
          rintro e w4 ⟨rfl, D4⟩
          have R7 : Hid (Rws w w4 (r + 1) r base Z Z.sn Z.L v) := by
            have := D4.out.rws
            rw [HZ.out] at this ⊢
            exact this
          have eo : (x.out : Int) = (Z.out : Int) := by rw [HZ.out]
          have et : (x.tk : Int) + 1 = (Z.tk : Int) := by rw [HZ.out]; rfl
          clear d0 d1 d2 d3 d4 d5 d6 d7 d8
          obtain ⟨⟨_, d1, _, _, _, _, _, _, _⟩, _⟩ := D4.out.nine
          simp only at d1
          rw [HEN.out] at d1
          clear HEN
          clear G D4
          go_wp2_with fail
          go_roundw
          case rel => exact ⟨i + 1, Z, v, rfl, by first | rfl | rw [eo], by first | rfl | rw [et], by simp, by omega, R7.out, HL2.out, by first | exact HRm.out | (rw [HZ.out]; exact HRm.out)⟩
          case measure => simp [RowKit.intOf]; omega
        · have hZ : tkX x on = x := if_neg hE
          rw [hZ] at G
          have HL2 : Hid (Lim x (i + 1)) := HL.out.more
          obtain ⟨E, hEE⟩ : ∃ E, tkE x on = E := ⟨_, rfl⟩
          rw [hEE] at G hE
          have hEb : (E == 0) = false := beq_false_of_ne hE
          clear hEE hZ D0 HL zn
          go_wp2_with fail
          refine G.mono ?_
          rintro e w4 ⟨rfl, D4⟩
          have R7 : Hid (Rws w w4 (r + 1) r base x x.sn x.L v) := D4.out.rws
          clear G D4
          go_wp2_with fail
          go_roundw
          case rel => exact ⟨i + 1, x, v, rfl, rfl, rfl, by simp, by omega, R7.out, HL2.out, by first | exact HRm.out | (rw [HZ.out]; exact HRm.out)⟩
          case measure => simp [RowKit.intOf]; omega
      by_cases k5 : ok = 5
      · subst k5
        have G := rw_down D0.out
        have HL2 : Hid (Lim (dnX x true) (i + 1)) := HL.out.dn true
        clear D0 HL zn
        go_wp2_with fail
        refine G.mono ?_
        rintro e w4 ⟨rfl, D4⟩
        have R7 : Hid (Rws w w4 (r + 1) r base (dnX x true) (dnX x true).sn (dnX x true).L v) := D4.out.rws
        clear G D4
        go_wp2_with fail
        go_roundw
        case rel => exact ⟨i + 1, dnX x true, v, rfl, rfl, rfl, by simp, by omega, R7.out, HL2.out, by first | exact HRm.out | (rw [HZ.out]; exact HRm.out)⟩
        case measure => simp [RowKit.intOf]; omega
      by_cases k6 : ok = 6
      · subst k6
        have G := rw_up D0.out
        have HL2 : Hid (Lim (dnX x false) (i + 1)) := HL.out.dn false
        clear D0 HL zn
        go_wp2_with fail
        refine G.mono ?_
        rintro e w4 ⟨rfl, D4⟩
        have R7 : Hid (Rws w w4 (r + 1) r base (dnX x false) (dnX x false).sn (dnX x false).L v) := D4.out.rws
        clear G D4
        go_wp2_with fail
        go_roundw
        case rel => exact ⟨i + 1, dnX x false, v, rfl, rfl, rfl, by simp, by omega, R7.out, HL2.out, by first | exact HRm.out | (rw [HZ.out]; exact HRm.out)⟩
        case measure => simp [RowKit.intOf]; omega
      · have HL2 : Hid (Lim x (i + 1)) := HL.out.more
        have R7 : Hid (Rws w wB (r + 1) r base x x.sn x.L v) := D0.out.rws
        have q1' : (ok == 1) = false := beq_false_of_ne k1
        have q2' : (ok == 2) = false := beq_false_of_ne k2
        have q3' : (ok == 3) = false := beq_false_of_ne k3
        have q5' : (ok == 5) = false := beq_false_of_ne k5
        have q6' : (ok == 6) = false := beq_false_of_ne k6
        clear D0 HL zn
        go_wp2_with fail
        go_roundw
        case rel => exact ⟨i + 1, x, v, rfl, rfl, rfl, by simp, by omega, R7.out, HL2.out, by first | exact HRm.out | (rw [HZ.out]; exact HRm.out)⟩
        case measure => simp [RowKit.intOf]; omega
    · obtain rfl : i = n0 := by omega
      have tk : ¬ (i : Int) < (i : Int) := by omega
      obtain ⟨S, C, f, h1, h2, _, _, _, B⟩ := I.out
      obtain ⟨va, vc, rfl⟩ := own_shape h2
      have F1 := waiting_any h1
      have F2 := taken_any h1
      have l4 : (x.sn : Int) ≤ 4096 := by have := HL.out.1; omega
      have ho := h1.ord
      have l6 : (x.out : Int) ≤ 4096 := by omega
      rw [show ((x.sn - x.out : Nat) : Int) = (x.sn : Int) - (x.out : Int) by omega] at F1
      have hm : (x.sn : Int) - (x.out : Int) ≤ (m : Int) := by have := h1.rng.fits; have := h1.rng.capped; have := HRm.out; omega
      have HB : Hid (Below w.heap.size w wr) := B
      clear h1 h2 B I HL ho
      go_wp2_with fail
      refine F1.mono ?_
      rintro e w4 ⟨rfl, rfl⟩
      go_wp2_with fail
      refine F1.mono ?_
      rintro e w4 ⟨rfl, rfl⟩
      go_wp2_with fail
      refine F2.mono ?_
      rintro e w4 ⟨rfl, rfl⟩
      go_wp2_with fail
      go_ret
      exact ⟨rfl, HB.out⟩
theorem sessionRows_own : ownKnob Try.prog.godebug = none := by kernel_rfl
theorem sessionRows_laidOut : laidOutB Try.prog = true := by kernel_rfl
set_option maxRecDepth 100000 in
theorem sessionRows_lifted (os : Os) (started : os.Started) (H : Type) (enc : TypeId × Value → H) :
    ReturnsInHanded {} Try.checked os 5 .any (Rows.sessionRowsSpec.pre6 enc Try.prog Try.f5 Rows.sessionRowsRow.domain false) (Rows.sessionRowsSpec.post enc Try.prog Try.f5 false true false false) := by
  refine returnsInHanded_of_change (C := Try.checked) sessionRows_own started (by kernel_rfl) Try.func5
    (ChangeSpec.witness6 (enc := enc) (C := Try.checked) false ⟨#[], #[.int .i64 0, .slice none 0 0], []⟩ 8 (by kernel_rfl) (by kernel_rfl) (by kernel_rfl) (by kernel_rfl)) ?_
  intro W base args ds gs before hval0 hW hcnd _
  have hval : ∀ (j : Nat) t v, Try.f5.params[j]? = some t → args[j]? = some v → Value.okWide Try.prog W .any base t v := hval0
  have hW' := hW
  obtain ⟨p, q, hA0, hV, rfl, hfz, hnd⟩ := hW
  have hA : DataW.TrodAll enc Try.prog W 0 (fun _ => true) true Try.f5.params.toList args.toList ds p := hA0
  rw [Try.params5] at hA hval
  obtain ⟨v0, vs0, d0, ds0, p0, q0, hargs, rfl, rfl, h0, r0⟩ := trodAll_cons hA
  obtain ⟨v1, vs1, d1, ds1, p1, q1, rfl, rfl, rfl, h1, r1⟩ := trodAll_cons r0
  obtain ⟨rfl, rfl, rfl⟩ := trodAll_nil r1
  obtain rfl : args = #[v0, v1] := by cases args; simp_all
  obtain ⟨rfl, rfl⟩ := trodVars_none hV
  obtain ⟨a0, rfl, rfl, rfl, w0⟩ := open_int Try.underlying3 (hval 0 3 v0 rfl rfl) h0
  have bd0 := bounds_i64 w0
  obtain ⟨ad1, n1, cap1, rfl⟩ := okWide_slice Try.underlying22 (hval 1 22 v1 rfl rfl)
  have k1 := h1
  have lt1 : ∀ x ∈ p1, x.block < W.heap.size := by obtain ⟨m, hm⟩ := k1; exact DataW.trod_lt m _ _ _ hm
  obtain ⟨X1, ops1⟩ : ∃ X, Ops W (.slice ad1 n1 cap1) n1 X := by obtain ⟨fuel, hf⟩ := h1; exact open_ops hf
  clear hA0 hval0
  simp only [List.append_nil, List.nil_append] at hW'
  refine (sessionRows_walk W a0 bd0 _ n1 X1 ops1).mono fun e W' ⟨he, bel⟩ => ?_
  subst he
  exact ⟨_, rfl, _, _, _, [], _, [], hW', trodAll_mk1 (shut_bool Try.underlying4 _), (trodAll_cons_mk (shut_int Try.underlying3 w0) (trodAll_cons_mk (Below.trod sessionRows_laidOut (by kernel_rfl) (of_decide_eq_true (by kernel_rfl)) k1 bel lt1) trodAll_mk0)), rfl, bel.frame _, fun h => by cases h⟩

/-- THE STATEMENT. -/
theorem sessionRows_proved : Rows.SessionRowsSaid :=
  OpenClaim.holds_of_wide 5 Try.f5 rfl rfl rfl rfl rfl rfl rfl ⟨rfl, rfl, rfl, rfl, rfl⟩ rfl rfl rfl rfl rfl (by kernel_rfl) Try.func5 (by kernel_rfl)
    (of_decide_eq_true (by kernel_rfl)) (by unfold Func.isWrapper; first | (rw [if_pos (by decide +kernel)]; kernel_rfl) | (rw [if_neg (by decide +kernel)]; exact ⟨rfl, rfl⟩))
    (fun os started H enc _ => sessionRows_lifted os started H enc)
#print axioms sessionRows_proved
end Go.Proofs.Ytlgnbnojjfgfmaa
