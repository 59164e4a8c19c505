/-
  Contract of the eighteenth reference's Sum: the walk.
-/
import Derived.Test.YtbmmokdccfajmaaPoSum
namespace Go.Proofs.Ytbmmokdccfajmaa.PO
open Go.ChangeShapes Go.WideShapes Go.ChangeAt Go.RowKit Go.Lib

set_option maxRecDepth 100000 in
set_option maxHeartbeats 16000000 in
theorem sum_any {w : World} {v : Value} {n : Nat} {X : Nat → Ex} (h : Ops w v n X) (hn : n ≤ 41) (hX : ∀ i, i < n → Fin (X i)) (a s d : Int) :
    Calls Try.prog 16 #[v, .int .i64 a, .int .i64 s, .int .i64 d] w fun e w' => ∃ r1 u1 r2 u2, e = .returned (.tuple #[.agg #[.bool r1, u1], .agg #[.bool r2, u2]]) ∧ Below w.heap.size w w' ∧ IsNum w.heap.size w' r1 u1 (SQ X a s d n) 200 ∧ IsNum w.heap.size w' r2 u2 (SW X a s d n) 200 := by
  obtain ⟨ad, cap, rfl, q1, q2, h3⟩ := h
  unfold maxLen at q2
  have H3 : Hid (∀ i, i < n → ∃ b off, ad = some ⟨b, off, none⟩ ∧ w.cell? ⟨b, off + i * 6, none⟩ = some (.int .i64 (X i).a) ∧ w.cell? ⟨b, off + i * 6 + 1, none⟩ = some (.int .i64 (X i).s) ∧ w.cell? ⟨b, off + i * 6 + 2, none⟩ = some (.int .i64 (X i).d) ∧ w.cell? ⟨b, off + i * 6 + 3, none⟩ = some (.int .i64 (X i).q) ∧ w.cell? ⟨b, off + i * 6 + 4, none⟩ = some (.int .i64 (X i).p) ∧ w.cell? ⟨b, off + i * 6 + 5, none⟩ = some (.bool (X i).k)) := h3
  have HX : Hid (∀ i, i < n → Fin (X i)) := hX
  have ST : Hid _ := SumAt.start w
  clear h3 hX
  go_enter Try.func16, Try.ntmps16
  go_wp2_with fail
  obtain ⟨g11, hg11⟩ : ∃ g, g = w.heap.size + 1 + 1 + 1 := ⟨_, rfl⟩
  rw [← hg11] at ST
  rw [← hg11]
  clear hg11
  obtain ⟨g10, hg10⟩ : ∃ g, g = w.heap.size + 1 + 1 := ⟨_, rfl⟩
  rw [← hg10] at ST
  rw [← hg10]
  clear hg10
  obtain ⟨g9, hg9⟩ : ∃ g, g = w.heap.size + 1 := ⟨_, rfl⟩
  rw [← hg9] at ST
  rw [← hg9]
  clear hg9
  obtain ⟨g8, hg8⟩ : ∃ g, Hid (w.heap.size = g) := ⟨_, rfl⟩
  rw [hg8.out] at ST
  rw [hg8.out]
  go_loopw [12] (fun c wr => ∃ (i : Nat) (r1 r2 : Bool) (u1 u2 : Value), c = .int .i64 (i : Int) ∧ i ≤ n ∧ Hid (SumAt w wr g8 g9 g10 g11 r1 r2 u1 u2 (SQ X a s d i) (SW X a s d i) i i)) (fun c _ => n - (RowKit.intOf c).toNat)
  case atStart => exact ⟨0, _, _, _, _, rfl, Nat.zero_le _, ST.out⟩
  case round =>
    clear ST
    obtain ⟨i, r1, r2, u1, u2, rfl, hi, I⟩ := hrel
    by_cases hlt : i < n
    · have t1 : (i : Int) < (n : Int) := by omega
      obtain ⟨b1, o1, e1, y0, y1, y2, y3, y4, y5⟩ := H3.out i hlt
      have l1 := World.block_lt_of_cell? _ _ y0
      subst e1
      replace y0 := (I.out.bel.cell (p := ⟨b1, o1 + i * 6, none⟩) l1).trans y0
      replace y1 := (I.out.bel.cell (p := ⟨b1, o1 + i * 6 + 1, none⟩) l1).trans y1
      replace y2 := (I.out.bel.cell (p := ⟨b1, o1 + i * 6 + 2, none⟩) l1).trans y2
      replace y3 := (I.out.bel.cell (p := ⟨b1, o1 + i * 6 + 3, none⟩) l1).trans y3
      replace y4 := (I.out.bel.cell (p := ⟨b1, o1 + i * 6 + 4, none⟩) l1).trans y4
      replace y5 := (I.out.bel.cell (p := ⟨b1, o1 + i * 6 + 5, none⟩) l1).trans y5
      replace l1 := Nat.lt_of_lt_of_le l1 I.out.bel.size
      obtain ⟨x, hx⟩ : ∃ x, X i = x := ⟨_, rfl⟩
      have HF : Hid (Fin x) := hx ▸ HX.out i hlt
      rw [hx] at y0 y1 y2 y3 y4 y5
      have HQ : Hid (SQ X a s d (i + 1) = SQ X a s d i + sq a s d x) := by rw [← hx]; exact SQ_next X a s d i
      have HV : Hid (SW X a s d (i + 1) = SW X a s d i + sw a s d x) := by rw [← hx]; exact SW_next X a s d i
      clear hx
      obtain ⟨xa, xs, xd, xq, xp, xk⟩ := x
      simp only at y0 y1 y2 y3 y4 y5
      go_upto_region 7 with fail
      have I2 : Hid (SumAt w (wr.alloc (.cells #[.int .i64 xa, .int .i64 xs, .int .i64 xd, .int .i64 xq, .int .i64 xp, .bool xk] 33)) g8 g9 g10 g11 r1 r2 u1 u2 (SQ X a s d i) (SW X a s d i) i i) := I.out.below ((Below.refl _ _).alloc (Nat.le_refl _) _)
      have d0 : (wr.alloc (.cells #[.int .i64 xa, .int .i64 xs, .int .i64 xd, .int .i64 xq, .int .i64 xp, .bool xk] 33)).cell? ⟨wr.heap.size, 0, none⟩ = some (.int .i64 xa) := by go_simp
      have d1 : (wr.alloc (.cells #[.int .i64 xa, .int .i64 xs, .int .i64 xd, .int .i64 xq, .int .i64 xp, .bool xk] 33)).cell? ⟨wr.heap.size, 1, none⟩ = some (.int .i64 xs) := by go_simp
      have d2 : (wr.alloc (.cells #[.int .i64 xa, .int .i64 xs, .int .i64 xd, .int .i64 xq, .int .i64 xp, .bool xk] 33)).cell? ⟨wr.heap.size, 2, none⟩ = some (.int .i64 xd) := by go_simp
      have d3 : (wr.alloc (.cells #[.int .i64 xa, .int .i64 xs, .int .i64 xd, .int .i64 xq, .int .i64 xp, .bool xk] 33)).cell? ⟨wr.heap.size, 3, none⟩ = some (.int .i64 xq) := by go_simp
      have d4 : (wr.alloc (.cells #[.int .i64 xa, .int .i64 xs, .int .i64 xd, .int .i64 xq, .int .i64 xp, .bool xk] 33)).cell? ⟨wr.heap.size, 4, none⟩ = some (.int .i64 xp) := by go_simp
      have d5 : (wr.alloc (.cells #[.int .i64 xa, .int .i64 xs, .int .i64 xd, .int .i64 xq, .int .i64 xp, .bool xk] 33)).cell? ⟨wr.heap.size, 5, none⟩ = some (.bool xk) := by go_simp
      have lx : wr.heap.size < (wr.alloc (.cells #[.int .i64 xa, .int .i64 xs, .int .i64 xd, .int .i64 xq, .int .i64 xp, .bool xk] 33)).heap.size := by simp
      generalize wr.alloc (.cells #[.int .i64 xa, .int .i64 xs, .int .i64 xd, .int .i64 xq, .int .i64 xp, .bool xk] 33) = wA at *
      obtain ⟨gx, hgx⟩ : ∃ g, g = wr.heap.size := ⟨_, rfl⟩
      rw [← hgx] at d0 d1 d2 d3 d4 d5 lx
      rw [← hgx]
      have GX : Hid (g11 < gx) := by
        have := World.block_lt_of_cell? _ _ I.out.v.c0
        rw [hgx]
        exact this
      clear hgx l1 y0 y1 y2 y3 y4 y5 I
      cases m1 : (xa == a)
      · have nm1 : ¬ (xa = a) := by simpa using m1
        have km1 : (xa != a) = true := by simp [m1, bne]
        have e0 : sq a s d ⟨xa, xs, xd, xq, xp, xk⟩ = 0 := by simp [sq, mt, m1]
        have e1 : sw a s d ⟨xa, xs, xd, xq, xp, xk⟩ = 0 := by simp [sw, mt, m1]
        rw [e0, Int.add_zero] at HQ
        rw [e1, Int.add_zero] at HV
        clear e0 e1
        go_wp2_with fail
        go_roundw
        case rel => exact ⟨i + 1, r1, r2, u1, u2, by simp, by omega, by rw [HQ.out, HV.out]; exact I2.out.wide (by omega) (by omega)⟩
        case measure => simp [RowKit.intOf]; omega
      obtain rfl : a = xa := (by simpa using m1 : xa = a).symm
      clear m1
      cases m2 : (xs == s)
      · have nm2 : ¬ (xs = s) := by simpa using m2
        have km2 : (xs != s) = true := by simp [m2, bne]
        have e0 : sq a s d ⟨a, xs, xd, xq, xp, xk⟩ = 0 := by simp [sq, mt, m2]
        have e1 : sw a s d ⟨a, xs, xd, xq, xp, xk⟩ = 0 := by simp [sw, mt, m2]
        rw [e0, Int.add_zero] at HQ
        rw [e1, Int.add_zero] at HV
        clear e0 e1
        go_wp2_with fail
        go_roundw
        case rel => exact ⟨i + 1, r1, r2, u1, u2, by simp, by omega, by rw [HQ.out, HV.out]; exact I2.out.wide (by omega) (by omega)⟩
        case measure => simp [RowKit.intOf]; omega
      obtain rfl : s = xs := (by simpa using m2 : xs = s).symm
      clear m2
      cases m3 : (xd == d)
      · have nm3 : ¬ (xd = d) := by simpa using m3
        have km3 : (xd != d) = true := by simp [m3, bne]
        have e0 : sq a s d ⟨a, s, xd, xq, xp, xk⟩ = 0 := by simp [sq, mt, m3]
        have e1 : sw a s d ⟨a, s, xd, xq, xp, xk⟩ = 0 := by simp [sw, mt, m3]
        rw [e0, Int.add_zero] at HQ
        rw [e1, Int.add_zero] at HV
        clear e0 e1
        go_wp2_with fail
        go_roundw
        case rel => exact ⟨i + 1, r1, r2, u1, u2, by simp, by omega, by rw [HQ.out, HV.out]; exact I2.out.wide (by omega) (by omega)⟩
        case measure => simp [RowKit.intOf]; omega
      obtain rfl : d = xd := (by simpa using m3 : xd = d).symm
      clear m3
      have HQ2 : Hid (SQ X a s d (i + 1) = SQ X a s d i + (if xk then -xq else xq)) := by show _ = _; rw [HQ.out]; simp [sq, mt, sg]
      have HV2 : Hid (SW X a s d (i + 1) = SW X a s d i + (if xk then -(xq * xp) else xq * xp)) := by show _ = _; rw [HV.out]; simp [sw, mt, sg]
      clear HQ HV
      obtain ⟨⟨hq0, hq1⟩, hp0, hp1⟩ : (1 ≤ xq ∧ xq ≤ 1099511627776) ∧ 1 ≤ xp ∧ xp ≤ 1099511627776 := HF.out
      clear HF
      have G1 := of_any xq wA (by omega) (by omega)
      have lA : g11 + 1 ≤ wA.heap.size := by have := GX.out; omega
      go_wp2_with fail
      refine G1.mono ?_
      rintro e w7 ⟨uq, rfl, hb7, lq, p1, p2, p3, p4⟩
      have nq : IsNum (g11 + 1) w7 (decide (xq < 0)) uq xq 64 := ⟨rfl, lq, p1.mono lA, p2, p3, p4⟩
      clear p1 p2 p3 p4 G1
      obtain ⟨aq, mq, cq, rfl⟩ := num_slice nq
      obtain ⟨rq, hrq⟩ : ∃ r, decide (xq < 0) = r := ⟨_, rfl⟩
      rw [hrq] at nq
      rw [hrq]
      clear hrq
      have z7 := hb7.size
      have e4 := (hb7.cell (p := ⟨gx, 4, none⟩) lx).trans d4
      have e5 := (hb7.cell (p := ⟨gx, 5, none⟩) lx).trans d5
      have H7 : Hid (Below wA.heap.size wA w7) := hb7
      have NQ : Hid (IsNum (g11 + 1) w7 rq (.slice aq mq cq) xq 64) := nq
      have l7 : gx < w7.heap.size := by omega
      clear hb7 nq d0 d1 d2 d3 d4 d5
      go_upto_region 9 with fail
      have HB : Hid (Below w7.heap.size w7 (w7.alloc (.cells #[.bool rq, .slice aq mq cq] 51))) := (Below.refl _ _).alloc (Nat.le_refl _) _
      have NB : Hid (Nw (w7.alloc (.cells #[.bool rq, .slice aq mq cq] 51)) w7.heap.size rq (.slice aq mq cq) xq 64 (g11 + 1) w7) := Nw.new _ NQ.out
      have sB : (w7.alloc (.cells #[.bool rq, .slice aq mq cq] 51)).heap.size = w7.heap.size + 1 := by simp
      generalize w7.alloc (.cells #[.bool rq, .slice aq mq cq] 51) = wB at *
      obtain ⟨g14, hg14⟩ : ∃ g, g = w7.heap.size := ⟨_, rfl⟩
      rw [← hg14] at NB sB
      rw [← hg14]
      replace e4 := (HB.out.cell (p := ⟨gx, 4, none⟩) l7).trans e4
      replace e5 := (HB.out.cell (p := ⟨gx, 5, none⟩) l7).trans e5
      have c0 := NB.out.c0
      have c1 := NB.out.c1
      have L14 : Hid (wA.heap.size ≤ g14 ∧ w7.heap.size ≤ g14) := ⟨by omega, by omega⟩
      have lB : gx < wB.heap.size := by omega
      have lC : g14 < wB.heap.size := by omega
      have HSB : Hid (wB.heap.size = g14 + 1) := sB
      have lA2 : g11 + 1 ≤ wB.heap.size := by omega
      clear hg14 z7 l7 sB
      have hp9 : -9223372036854775808 ≤ xp := by omega
      have hp8 : xp ≤ 9223372036854775807 := by omega
      go_cut [15] from 47 to 51 (fun s15 wx => ∃ (g15 : Nat) (rw : Bool) (au : Option Addr) (mu cu B9 : Nat) (w9 : World), s15 = .pointer (some ⟨g15, 0, none⟩) ∧ Hid (Nw wx g15 rw (.slice au mu cu) (xq * xp) 128 B9 w9 ∧ wB.heap.size ≤ B9 ∧ Below wB.heap.size wB wx ∧ wB.heap.size ≤ g15))
      case first =>
        go_region_held3 (fun w' => w'.cell? ⟨g14, 0, none⟩ = some (.bool rq) ∧ w'.cell? ⟨g14, 1, none⟩ = some (.slice aq mq cq) ∧ w'.cell? ⟨gx, 4, none⟩ = some (.int .i64 xp)) (first | go_keep | (refine ⟨?_, ?_, ?_⟩ <;> (rw [World.cell?_setCell_other _ _ _ _ (by intro e; injection e with e1; omega), World.cell?_setCell_other _ _ _ _ (by intro e; injection e with e1; omega)]; assumption))) (first
          | (go_at_call 18; refine (of_any xp _ hp9 hp8).mono ?_; rintro e w8 ⟨up, rfl, hb8, lp, p1, p2, p3, p4⟩; have E8 := early hb8; obtain ⟨D8, M8, l8⟩ := E8; have np : IsNum 0 w8 (decide (xp < 0)) up xp 64 := ⟨rfl, lp, p1.mono (Nat.zero_le _), p2, p3, p4⟩; clear p1 p2 p3 p4; obtain ⟨ap, mp, cp, rfl⟩ := num_slice np; have v0 := (D8.cell (p := ⟨g14, 0, none⟩) lC).trans c0; have v1 := (D8.cell (p := ⟨g14, 1, none⟩) lC).trans c1; have nq8 := NB.out.num.below D8; have lC8 := Nat.lt_of_lt_of_le lC D8.size; have lB8 := Nat.lt_of_lt_of_le lB D8.size; have v2 := (D8.cell (p := ⟨gx, 4, none⟩) lB).trans e4)
          | (go_at_call 18; refine (of_any xp _ hp9 hp8).mono ?_; rintro e w8 ⟨up, rfl, hb8, lp, p1, p2, p3, p4⟩; have D8 : Below wB.heap.size wB w8 := (Below.refl _ _).drew.trans hb8; have np : IsNum 0 w8 (decide (xp < 0)) up xp 64 := ⟨rfl, lp, p1.mono (Nat.zero_le _), p2, p3, p4⟩; clear p1 p2 p3 p4; obtain ⟨ap, mp, cp, rfl⟩ := num_slice np; have v0 := (D8.cell (p := ⟨g14, 0, none⟩) lC).trans c0; have v1 := (D8.cell (p := ⟨g14, 1, none⟩) lC).trans c1; have nq8 := NB.out.num.below D8; have lC8 := Nat.lt_of_lt_of_le lC D8.size; have lB8 := Nat.lt_of_lt_of_le lB D8.size; have v2 := (D8.cell (p := ⟨gx, 4, none⟩) lB).trans e4)
          | (go_at_call 17; refine (mulR_any rq _ _ _ xq xp 64 64 _ nq8 np (by decide) (by decide)).mono ?_; rintro e w9 ⟨rw, uw, rfl, hb9, n9⟩; obtain ⟨au, mu, cu, rfl⟩ := num_slice n9; have M9 := M8.below hb9; have lG := l8; have k0 := M9.c0; have k1 := M9.c1; have k2 := M9.f0; have k3 := M9.f1; have D9 : Below wB.heap.size wB w9 := D8.trans (hb9.mono D8.size); have lW := Nat.le_refl wB.heap.size; have q1' := Nat.ne_of_lt lC; have q2' := Nat.ne_of_lt lB; have x0 := (D9.cell (p := ⟨g14, 0, none⟩) lC).trans c0; have x1 := (D9.cell (p := ⟨g14, 1, none⟩) lC).trans c1; have x2 := (D9.cell (p := ⟨gx, 4, none⟩) lB).trans e4)
          | (go_at_call 17; refine (mulR_any rq _ _ _ xq xp 64 64 _ (nq8.below ((Below.refl _ _).alloc (Nat.le_refl _) _)) (np.below ((Below.refl _ _).alloc (Nat.le_refl _) _)) (by decide) (by decide)).mono ?_; rintro e w9 ⟨rw, uw, rfl, hb9, n9⟩; obtain ⟨au, mu, cu, rfl⟩ := num_slice n9; have E9 := middle hb9; obtain ⟨B9, M9, lG⟩ := E9; have k0 := M9.c0; have k1 := M9.c1; have k2 := M9.f0; have k3 := M9.f1; have D9 : Below wB.heap.size wB w9 := D8.trans (B9.mono D8.size); have lW := D8.size; have q1' := Nat.ne_of_lt lC8; have q2' := Nat.ne_of_lt lB8; have x0 := (D9.cell (p := ⟨g14, 0, none⟩) lC).trans c0; have x1 := (D9.cell (p := ⟨g14, 1, none⟩) lC).trans c1; have x2 := (D9.cell (p := ⟨gx, 4, none⟩) lB).trans e4)
          | (go_at_call 17; refine (mulR_any rq _ _ _ xq xp 64 64 _ nq8 np (by decide) (by decide)).mono ?_; rintro e w9 ⟨rw, uw, rfl, hb9, n9⟩; obtain ⟨au, mu, cu, rfl⟩ := num_slice n9; have D9 : Below wB.heap.size wB w9 := D8.trans (hb9.mono D8.size); have x0 := (D9.cell (p := ⟨g14, 0, none⟩) lC).trans c0; have x1 := (D9.cell (p := ⟨g14, 1, none⟩) lC).trans c1; have x2 := (D9.cell (p := ⟨gx, 4, none⟩) lB).trans e4))
        all_goals
          have z8 := D8.size
          first
          | (have N9 : Hid (∃ B, Nw _ _ rw (.slice au mu cu) (xq * xp) 128 B w9 ∧ wB.heap.size ≤ B) := ⟨_, Nw.over M9 lG n9, by omega⟩
             have HD9 : Hid (Below wB.heap.size wB w9) := D9
             have hG := lW
             clear n9 np nq8 hb9 hb8 D8 D9 v0 v1 M9
             go_wp2_with fail
             go_meet
             case rel =>
               obtain ⟨B9, n1, n2⟩ := N9.out
               exact ⟨_, rw, au, mu, cu, B9, w9, rfl, n1, n2, (HD9.out.setCell hG _).setCell hG _, hG⟩)
          | (have N9 : Hid (IsNum wB.heap.size w9 rw (.slice au mu cu) (xq * xp) 128) := num_mono n9 (by omega)
             have HD9 : Hid (Below wB.heap.size wB w9) := D9
             clear n9 np nq8 hb9 hb8 D8 D9 v0 v1
             go_wp2_with fail
             go_meet
             case rel => exact ⟨_, rw, au, mu, cu, _, w9, rfl, Nw.new _ N9.out, Nat.le_refl _, HD9.out.alloc HD9.out.size _, HD9.out.size⟩)
      case rest =>
        obtain ⟨g15, rw, au, mu, cu, B9, w9, rfl, R⟩ := hcut
        have HA : Hid (Below wA.heap.size wA wc) := (H7.out.trans (HB.out.mono H7.out.size)).trans (R.out.2.2.1.mono (by have := H7.out.size; have := HB.out.size; omega))
        have I3 : Hid (SumAt w wc g8 g9 g10 g11 r1 r2 u1 u2 (SQ X a s d i) (SW X a s d i) i i) := I2.out.below HA.out
        have N14 : Hid (Nw wc g14 rq (.slice aq mq cq) xq 64 (g11 + 1) w7) := NB.out.below R.out.2.2.1
        have N15 : Hid (Nw wc g15 rw (.slice au mu cu) (xq * xp) 128 B9 w9) := R.out.1
        have LB9 : Hid (g14 < B9 ∧ g11 + 1 ≤ B9) := by have := R.out.2.1; have := HSB.out; exact ⟨by omega, by omega⟩
        have L15 : Hid (g14 < g15) := by have := R.out.2.2.2; have := HSB.out; show g14 < g15; omega
        replace e5 := (R.out.2.2.1.cell (p := ⟨gx, 5, none⟩) lB).trans e5
        have L7 : Hid (g11 < g14 ∧ w7.heap.size ≤ g14) := by have := L14.out; exact ⟨by omega, by omega⟩
        obtain ⟨a1, m1, c1', rfl⟩ := num_slice I3.out.q.nm
        obtain ⟨a2, m2, c2', rfl⟩ := num_slice I3.out.v.nm
        generalize SQ X a s d i = Q at *
        generalize SW X a s d i = V at *
        generalize xq * xp = zw at *
        have LA : Hid (wA.heap.size ≤ g14 ∧ wA.heap.size ≤ g15) := by have := L14.out; have := L15.out; exact ⟨by omega, by omega⟩
        clear H7 NQ HB NB R c0 c1 e4 lB lC lA lA2 lx GX HSB L14
        cases xk
        · simp only [Bool.false_eq_true, if_false] at HQ2 HV2
          have k0 := N14.out.c0
          have k1 := N14.out.c1
          have j0 := I3.out.q.c0
          have j1 := I3.out.q.c1
          have G1 := addR_any r1 rq _ _ Q (xq) (64 + i) 64 _ I3.out.q.nm N14.out.num (by omega) (by decide)
          go_wp2_with fail
          refine G1.mono ?_
          rintro e wD ⟨rD, uD, rfl, hbD, nD⟩
          obtain ⟨aD, mD, cD, rfl⟩ := num_slice nD
          have ID := I3.out.below hbD
          have ND : Hid (Nw wD g15 rw (.slice au mu cu) (zw) 128 B9 w9) := N15.out.below hbD
          have lD := World.block_lt_of_cell? _ _ I3.out.v.c0
          have IE : Hid (SumAt w ((wD.setCell ⟨g10, 0, none⟩ (.bool rD)).setCell ⟨g10, 1, none⟩ (.slice aD mD cD)) g8 g9 g10 g11 rD r2 (.slice aD mD cD) (.slice a2 m2 c2') (Q + xq) V (i + 1) i) := ID.addQ ((num_mono nD lD).wide (by omega))
          have NE : Hid (Nw ((wD.setCell ⟨g10, 0, none⟩ (.bool rD)).setCell ⟨g10, 1, none⟩ (.slice aD mD cD)) g15 rw (.slice au mu cu) (zw) 128 B9 w9) := ND.out.kept (put_but _ _ _ _) (fun t _ h => by have h' : t = g10 := h; have := LB9.out; have := ID.o4; omega) (fun h => by have h' : g15 = g10 := h; have := L15.out; have := L7.out; have := ID.o4; omega)
          have j0' := ID.q.c0
          have j1' := ID.q.c1
          have j2' := ID.q.f0
          have j3' := ID.q.f1
          clear G1 nD hbD ID ND lD k0 k1 j0 j1 I3 N14 N15
          go_upto_region 14 with fail
          generalize (wD.setCell ⟨g10, 0, none⟩ (.bool rD)).setCell ⟨g10, 1, none⟩ (.slice aD mD cD) = wE at *
          clear j0' j1' j2' j3'
          have k0 := NE.out.c0
          have k1 := NE.out.c1
          have j0 := IE.out.v.c0
          have j1 := IE.out.v.c1
          have G2 := addR_any r2 rw _ _ V (zw) (128 + i) 128 _ IE.out.v.nm NE.out.num (by omega) (by decide)
          go_wp2_with fail
          refine G2.mono ?_
          rintro e wF ⟨rF, uF, rfl, hbF, nF⟩
          obtain ⟨aF, mF, cF, rfl⟩ := num_slice nF
          have IF' := IE.out.below hbF
          have lF := World.block_lt_of_cell? _ _ IE.out.v.c0
          have IG : Hid (SumAt w ((wF.setCell ⟨g11, 0, none⟩ (.bool rF)).setCell ⟨g11, 1, none⟩ (.slice aF mF cF)) g8 g9 g10 g11 rD rF (.slice aD mD cD) (.slice aF mF cF) (Q + xq) (V + zw) (i + 1) (i + 1)) := IF'.addV ((num_mono nF lF).wide (by omega))
          have j0' := IF'.v.c0
          have j1' := IF'.v.c1
          have j2' := IF'.v.f0
          have j3' := IF'.v.f1
          clear G2 nF hbF IF' lF k0 k1 j0 j1 IE NE
          go_wp2_with fail
          go_roundw
          case rel => exact ⟨i + 1, rD, rF, _, _, by simp, by omega, by rw [HQ2.out, HV2.out]; exact IG.out⟩
          case measure => simp [RowKit.intOf]; omega
        · simp only [if_true] at HQ2 HV2
          have k0 := N14.out.c0
          have k1 := N14.out.c1
          have G0 := negR_any rq _ xq 64 _ N14.out.num
          go_wp2_with fail
          refine G0.mono ?_
          rintro e wN ⟨rn, rfl, hbN, nN⟩
          have NA := N14.out.below hbN
          have HM : Hid (Nw ((wN.setCell ⟨g14, 0, none⟩ (.bool rn)).setCell ⟨g14, 1, none⟩ (.slice aq mq cq)) g14 rn (.slice aq mq cq) (-xq) 64 (g11 + 1) w7) := NA.turn nN.1
          have HN : Hid (Nw ((wN.setCell ⟨g14, 0, none⟩ (.bool rn)).setCell ⟨g14, 1, none⟩ (.slice aq mq cq)) g15 rw (.slice au mu cu) zw 128 B9 w9) := (N15.out.below hbN).kept (put_but _ _ _ _) (fun t _ h => by have h' : t = g14 := h; have := LB9.out; omega) (fun h => by have h' : g15 = g14 := h; have := L15.out; omega)
          have HA2 : Hid (Below wA.heap.size wA ((wN.setCell ⟨g14, 0, none⟩ (.bool rn)).setCell ⟨g14, 1, none⟩ (.slice aq mq cq))) := ((HA.out.trans (hbN.mono HA.out.size)).setCell LA.out.1 _).setCell LA.out.1 _
          have j0' := NA.c0
          have j1' := NA.c1
          have j2' := NA.f0
          have j3' := NA.f1
          clear G0 nN hbN NA k0 k1 N14 N15 HA I3
          go_upto_region 12 with fail
          generalize (wN.setCell ⟨g14, 0, none⟩ (.bool rn)).setCell ⟨g14, 1, none⟩ (.slice aq mq cq) = wM at *
          clear j0' j1' j2' j3'
          have k0 := HN.out.c0
          have k1 := HN.out.c1
          have G0 := negR_any rw _ zw 128 _ HN.out.num
          go_wp2_with fail
          refine G0.mono ?_
          rintro e wP ⟨rv, rfl, hbN, nN⟩
          have NA := HN.out.below hbN
          have N15 : Hid (Nw ((wP.setCell ⟨g15, 0, none⟩ (.bool rv)).setCell ⟨g15, 1, none⟩ (.slice au mu cu)) g15 rv (.slice au mu cu) (-zw) 128 B9 w9) := NA.turn nN.1
          have N14 : Hid (Nw ((wP.setCell ⟨g15, 0, none⟩ (.bool rv)).setCell ⟨g15, 1, none⟩ (.slice au mu cu)) g14 rn (.slice aq mq cq) (-xq) 64 (g11 + 1) w7) := (HM.out.below hbN).kept (put_but _ _ _ _) (fun t ht h => by have h' : t = g15 := h; have := L15.out; have := L7.out; omega) (fun h => by have h' : g14 = g15 := h; have := L15.out; omega)
          have HA3 : Hid (Below wA.heap.size wA ((wP.setCell ⟨g15, 0, none⟩ (.bool rv)).setCell ⟨g15, 1, none⟩ (.slice au mu cu))) := ((HA2.out.trans (hbN.mono HA2.out.size)).setCell LA.out.2 _).setCell LA.out.2 _
          have j0' := NA.c0
          have j1' := NA.c1
          have j2' := NA.f0
          have j3' := NA.f1
          clear G0 nN hbN NA k0 k1 HM HN HA2
          go_upto_region 13 with fail
          generalize (wP.setCell ⟨g15, 0, none⟩ (.bool rv)).setCell ⟨g15, 1, none⟩ (.slice au mu cu) = wQ at *
          clear j0' j1' j2' j3'
          have I3 : Hid (SumAt w wQ g8 g9 g10 g11 r1 r2 (.slice a1 m1 c1') (.slice a2 m2 c2') Q V i i) := I2.out.below HA3.out
          clear I2 HA3
          have k0 := N14.out.c0
          have k1 := N14.out.c1
          have j0 := I3.out.q.c0
          have j1 := I3.out.q.c1
          have G1 := addR_any r1 rn _ _ Q (-xq) (64 + i) 64 _ I3.out.q.nm N14.out.num (by omega) (by decide)
          go_wp2_with fail
          refine G1.mono ?_
          rintro e wD ⟨rD, uD, rfl, hbD, nD⟩
          obtain ⟨aD, mD, cD, rfl⟩ := num_slice nD
          have ID := I3.out.below hbD
          have ND : Hid (Nw wD g15 rv (.slice au mu cu) (-zw) 128 B9 w9) := N15.out.below hbD
          have lD := World.block_lt_of_cell? _ _ I3.out.v.c0
          have IE : Hid (SumAt w ((wD.setCell ⟨g10, 0, none⟩ (.bool rD)).setCell ⟨g10, 1, none⟩ (.slice aD mD cD)) g8 g9 g10 g11 rD r2 (.slice aD mD cD) (.slice a2 m2 c2') (Q + -xq) V (i + 1) i) := ID.addQ ((num_mono nD lD).wide (by omega))
          have NE : Hid (Nw ((wD.setCell ⟨g10, 0, none⟩ (.bool rD)).setCell ⟨g10, 1, none⟩ (.slice aD mD cD)) g15 rv (.slice au mu cu) (-zw) 128 B9 w9) := ND.out.kept (put_but _ _ _ _) (fun t _ h => by have h' : t = g10 := h; have := LB9.out; have := ID.o4; omega) (fun h => by have h' : g15 = g10 := h; have := L15.out; have := L7.out; have := ID.o4; omega)
          have j0' := ID.q.c0
          have j1' := ID.q.c1
          have j2' := ID.q.f0
          have j3' := ID.q.f1
          clear G1 nD hbD ID ND lD k0 k1 j0 j1 I3 N14 N15
          go_upto_region 14 with fail
          generalize (wD.setCell ⟨g10, 0, none⟩ (.bool rD)).setCell ⟨g10, 1, none⟩ (.slice aD mD cD) = wE at *
          clear j0' j1' j2' j3'
          have k0 := NE.out.c0
          have k1 := NE.out.c1
          have j0 := IE.out.v.c0
          have j1 := IE.out.v.c1
          have G2 := addR_any r2 rv _ _ V (-zw) (128 + i) 128 _ IE.out.v.nm NE.out.num (by omega) (by decide)
          go_wp2_with fail
          refine G2.mono ?_
          rintro e wF ⟨rF, uF, rfl, hbF, nF⟩
          obtain ⟨aF, mF, cF, rfl⟩ := num_slice nF
          have IF' := IE.out.below hbF
          have lF := World.block_lt_of_cell? _ _ IE.out.v.c0
          have IG : Hid (SumAt w ((wF.setCell ⟨g11, 0, none⟩ (.bool rF)).setCell ⟨g11, 1, none⟩ (.slice aF mF cF)) g8 g9 g10 g11 rD rF (.slice aD mD cD) (.slice aF mF cF) (Q + -xq) (V + -zw) (i + 1) (i + 1)) := IF'.addV ((num_mono nF lF).wide (by omega))
          have j0' := IF'.v.c0
          have j1' := IF'.v.c1
          have j2' := IF'.v.f0
          have j3' := IF'.v.f1
          clear G2 nF hbF IF' lF k0 k1 j0 j1 IE NE
          go_wp2_with fail
          go_roundw
          case rel => exact ⟨i + 1, rD, rF, _, _, by simp, by omega, by rw [HQ2.out, HV2.out]; exact IG.out⟩
          case measure => simp [RowKit.intOf]; omega
    · obtain rfl : i = n := by omega
      have t1 : ¬ (i : Int) < (i : Int) := by omega
      obtain ⟨a1, m1, c1', rfl⟩ := num_slice I.out.q.nm
      obtain ⟨a2, m2, c2', rfl⟩ := num_slice I.out.v.nm
      have j0 := I.out.q.c0
      have j1 := I.out.q.c1
      have k0 := I.out.v.c0
      have k1 := I.out.v.c1
      have p0 := I.out.z8.c0
      have p1 := I.out.z8.c1
      have p2 := I.out.z8.f0
      have p3 := I.out.z8.f1
      have s0 := I.out.z9.c0
      have s1 := I.out.z9.c1
      have s2 := I.out.z9.f0
      have s3 := I.out.z9.f1
      have n1 : ¬ g8 = g9 := by have := I.out.o2; omega
      have n2 : ¬ g9 = g8 := by omega
      have n3 : ¬ g8 = g10 := by have := I.out.o2; have := I.out.o3; omega
      have n4 : ¬ g8 = g11 := by have := I.out.o2; have := I.out.o3; have := I.out.o4; omega
      have n5 : ¬ g9 = g11 := by have := I.out.o3; have := I.out.o4; omega
      have n6 : ¬ g10 = g8 := by omega
      have n7 : ¬ g11 = g8 := by omega
      have n8 : ¬ g11 = g9 := by omega
      have n9 : ¬ g10 = g9 := by have := I.out.o3; omega
      go_wp2_with fail
      go_region
      all_goals
        go_wp2_with fail
        refine bodyPost_ret (v := .tuple #[.agg #[.bool r1, .slice a1 m1 c1'], .agg #[.bool r2, .slice a2 m2 c2']]) (by first | (simp [results, Try.results16, go_sem, p0, p1, s0, s1]; done) | (simp [results, Try.results16, go_sem, p0, p1, s0, s1, n1]; done) | (simp [results, Try.results16, go_sem, p0, p1, s0, s1, n2]; done)) rfl ⟨_, _, _, _, rfl, ?_, ?_, ?_⟩
        · have o1 := I.out.o1
          have o2 := I.out.o2
          exact ((((I.out.bel.setCell (by show _ ≤ g8; omega) _).setCell (by show _ ≤ g8; omega) _).setCell (by show _ ≤ g9; omega) _).setCell (by show _ ≤ g9; omega) _).drew
        · have o1 := I.out.o1
          have o2 := I.out.o2
          have o3 := I.out.o3
          have o4 := I.out.o4
          exact (num_mono ((num_setCell (num_setCell (num_setCell (num_setCell I.out.q.nm (by show g8 < _; omega) _) (by show g8 < _; omega) _) (by show g9 < _; omega) _) (by show g9 < _; omega) _).below (Below.refl _ _).drew) (by omega)).wide (by omega)
        · have o1 := I.out.o1
          have o2 := I.out.o2
          have o3 := I.out.o3
          have o4 := I.out.o4
          exact (num_mono ((num_setCell (num_setCell (num_setCell (num_setCell I.out.v.nm (by show g8 < _; omega) _) (by show g8 < _; omega) _) (by show g9 < _; omega) _) (by show g9 < _; omega) _).below (Below.refl _ _).drew) (by omega)).wide (by omega)
end Go.Proofs.Ytbmmokdccfajmaa.PO
