/-
  SeenKeeps: what was met stays met, with what it was met with, whatever is done with others; met again it is refused; no more are met than have room. For every room, every step and every list of steps, no condition.
-/
import Derived.Test.YthkohopnoifibaaSeAwake
import Derived.Test.YthkohopnoifibaaFrame19
namespace Go.Proofs.Ythkohopnoifibaa
open Go.ChangeShapes Go.WideShapes Go.ChangeAt Go.RowKit Go.Deep Go.WideElems Go.Lib SE

/-- What the law stands on: the step in block gb, behind it the Seen, in which its name was met with its execution. -/
structure Kp (w wr : World) (gb n r : Nat) (on oo : ByteArray) (oq op : Int) (b : Sn) : Prop where
  bel : Below w.heap.size w wr
  kp : SeenAt wr n b
  hr : b.r = r
  hl : b.L on = some ⟨oo, oq, op, false⟩
  vl : vldB on = true
  c1 : wr.cell? ⟨gb, 1, none⟩ = some (.string on)
  c2 : wr.cell? ⟨gb, 2, none⟩ = some (.string oo)
  c3 : wr.cell? ⟨gb, 3, none⟩ = some (.int .i64 oq)
  c4 : wr.cell? ⟨gb, 4, none⟩ = some (.int .i64 op)
  c5 : wr.cell? ⟨gb, 5, none⟩ = some (.bool false)
  o1 : w.heap.size ≤ gb
  o2 : gb < n
theorem Kp.kept {w wr wx : World} {gb n r : Nat} {on oo : ByteArray} {oq op : Int} {b b' : Sn} (h : Kp w wr gb n r on oo oq op b) (x : But (fun k => k = n) wr wx) (kp : SeenAt wx n b') (hr : b'.r = r) (hl : b'.L on = some ⟨oo, oq, op, false⟩) : Kp w wx gb n r on oo oq op b' := by
  have lo := World.block_lt_of_cell? _ _ h.c1
  have ho : ¬ (gb = n) := by have := h.o2; omega
  have g := fun o => x.cell (k := gb) (o := o) lo ho
  exact ⟨h.kp.frame x (by have := h.o1; have := h.o2; omega) h.bel, kp, hr, hl, h.vl, (g 1).trans h.c1, (g 2).trans h.c2, (g 3).trans h.c3, (g 4).trans h.c4, (g 5).trans h.c5, h.o1, h.o2⟩
theorem Kp.below {w wr wx : World} {gb n r : Nat} {on oo : ByteArray} {oq op : Int} {b : Sn} (h : Kp w wr gb n r on oo oq op b) (x : Below wr.heap.size wr wx) : Kp w wx gb n r on oo oq op b :=
  h.kept (But.of_below x) (h.kp.below x) h.hr h.hl
theorem Kp.put {w wr wx : World} {gb n r : Nat} {on oo : ByteArray} {oq op : Int} {b : Sn} {s : ByteArray} {y : Xc} (h : Kp w wr gb n r on oo oq op b) (x : But (fun k => k = n) wr wx) (kp : SeenAt wx n (putS b s y)) (hs : s ≠ on) : Kp w wx gb n r on oo oq op (putS b s y) := by
  refine h.kept x kp ((put_room _ _ _).trans h.hr) ?_
  unfold putS
  split
  · exact (setL_other _ _ (fun e => hs e.symm)).trans h.hl
  · exact h.hl
theorem Kp.bst {w wr wx : World} {gb n r : Nat} {on oo : ByteArray} {oq op : Int} {b : Sn} {s : ByteArray} (h : Kp w wr gb n r on oo oq op b) (x : But (fun k => k = n) wr wx) (kp : SeenAt wx n (bstS b s)) (hs : s ≠ on) : Kp w wx gb n r on oo oq op (bstS b s) := by
  refine h.kept x kp ((bst_room _ _).trans h.hr) ?_
  unfold bstS
  split
  · exact (setL_other _ _ (fun e => hs e.symm)).trans h.hl
  · exact h.hl
theorem new_put {r : Nat} (h1 : 1 ≤ r) {s : ByteArray} : putE (newS r) s = if vldB s = true then 0 else 43 := by
  cases h : vldB s
  · exact put_name h
  · exact put_ok h rfl (by show ¬ r ≤ 0; omega)
set_option maxRecDepth 100000 in
set_option maxHeartbeats 16000000 in
theorem keeps_walk (w : World) (room : Int) (v : Value) (n0 : Nat) (X : Nat → Opc) (h : Ops w v n0 X) (ok : Int) (on oo : ByteArray) (oq op : Int) (ob : Bool) (hz : on.size ≤ maxLen) : Calls Try.prog 5 #[.int .i64 room, .agg #[.int .i64 ok, .string on, .string oo, .int .i64 oq, .int .i64 op, .bool ob], v] w fun e w' => e = .returned (.bool true) ∧ Below w.heap.size w w' := by
  have HO : Hid (Ops w v n0 X) := h
  obtain ⟨ad, cap, rfl, q1, q2, h3⟩ := h
  have H3 : Hid (∀ i, i < n0 → (∃ b off, ad = some ⟨b, off, none⟩ ∧ w.cell? ⟨b, off + i * 6, none⟩ = some (.int .i64 (X i).k) ∧ w.cell? ⟨b, off + i * 6 + 1, none⟩ = some (.string (X i).n) ∧ w.cell? ⟨b, off + i * 6 + 2, none⟩ = some (.string (X i).x.o) ∧ w.cell? ⟨b, off + i * 6 + 3, none⟩ = some (.int .i64 (X i).x.q) ∧ w.cell? ⟨b, off + i * 6 + 4, none⟩ = some (.int .i64 (X i).x.p) ∧ w.cell? ⟨b, off + i * 6 + 5, none⟩ = some (.bool (X i).x.k)) ∧ (X i).n.size ≤ maxLen ∧ (X i).x.o.size ≤ maxLen) := h3
  clear h3
  unfold maxLen at q2 hz
  have HB0 : Hid (Below w.heap.size w (w.alloc (.cells #[.int .i64 ok, .string on, .string oo, .int .i64 oq, .int .i64 op, .bool ob] 36))) := (Below.refl _ w).alloc (Nat.le_refl _) _
  have F1 := awake_any (w.alloc (.cells #[.int .i64 ok, .string on, .string oo, .int .i64 oq, .int .i64 op, .bool ob] 36))
  have d0 : (w.alloc (.cells #[.int .i64 ok, .string on, .string oo, .int .i64 oq, .int .i64 op, .bool ob] 36)).cell? ⟨w.heap.size, 0, none⟩ = some (.int .i64 ok) := by simp
  have d1 : (w.alloc (.cells #[.int .i64 ok, .string on, .string oo, .int .i64 oq, .int .i64 op, .bool ob] 36)).cell? ⟨w.heap.size, 1, none⟩ = some (.string on) := by simp
  have d2 : (w.alloc (.cells #[.int .i64 ok, .string on, .string oo, .int .i64 oq, .int .i64 op, .bool ob] 36)).cell? ⟨w.heap.size, 2, none⟩ = some (.string oo) := by simp
  have d3 : (w.alloc (.cells #[.int .i64 ok, .string on, .string oo, .int .i64 oq, .int .i64 op, .bool ob] 36)).cell? ⟨w.heap.size, 3, none⟩ = some (.int .i64 oq) := by simp
  have d4 : (w.alloc (.cells #[.int .i64 ok, .string on, .string oo, .int .i64 oq, .int .i64 op, .bool ob] 36)).cell? ⟨w.heap.size, 4, none⟩ = some (.int .i64 op) := by simp
  have d5 : (w.alloc (.cells #[.int .i64 ok, .string on, .string oo, .int .i64 oq, .int .i64 op, .bool ob] 36)).cell? ⟨w.heap.size, 5, none⟩ = some (.bool ob) := by simp
  have f5 : (w.alloc (.cells #[.int .i64 ok, .string on, .string oo, .int .i64 oq, .int .i64 op, .bool ob] 36)).frozen? ⟨w.heap.size, 5, none⟩ = false := by simp
  have lx : w.heap.size < (w.alloc (.cells #[.int .i64 ok, .string on, .string oo, .int .i64 oq, .int .i64 op, .bool ob] 36)).heap.size := by simp
  go_enter Try.func5, Try.ntmps5
  go_upto_region 1 with fail
  generalize w.alloc (.cells #[.int .i64 ok, .string on, .string oo, .int .i64 oq, .int .i64 op, .bool ob] 36) = wA at *
  obtain ⟨gb, hgb⟩ : ∃ g, g = w.heap.size := ⟨_, rfl⟩
  rw [← hgb] at d0 d1 d2 d3 d4 d5 f5 lx
  rw [← hgb]
  have HG : Hid (gb = w.heap.size) := hgb
  clear hgb
  go_wp2_with fail
  refine F1.mono ?_
  rintro e w1 ⟨rfl, hb1⟩
  have HB1 : Hid (Below w.heap.size w w1) := HB0.out.trans (hb1.mono HB0.out.size)
  replace d0 := (hb1.cell (p := ⟨gb, 0, none⟩) lx).trans d0
  replace d1 := (hb1.cell (p := ⟨gb, 1, none⟩) lx).trans d1
  replace d2 := (hb1.cell (p := ⟨gb, 2, none⟩) lx).trans d2
  replace d3 := (hb1.cell (p := ⟨gb, 3, none⟩) lx).trans d3
  replace d4 := (hb1.cell (p := ⟨gb, 4, none⟩) lx).trans d4
  replace d5 := (hb1.cell (p := ⟨gb, 5, none⟩) lx).trans d5
  replace f5 := (hb1.frozen (p := ⟨gb, 5, none⟩) lx).trans f5
  replace lx := Nat.lt_of_lt_of_le lx hb1.size
  clear F1 hb1 HB0
  have F2 := few_any (HO.out.below HB1.out)
  go_wp2_with fail
  refine F2.mono ?_
  rintro e w2 ⟨⟨T, rfl, hT⟩, hb2⟩
  have HB2 : Hid (Below w.heap.size w w2) := HB1.out.trans (hb2.mono HB1.out.size)
  replace d0 := (hb2.cell (p := ⟨gb, 0, none⟩) lx).trans d0
  replace d1 := (hb2.cell (p := ⟨gb, 1, none⟩) lx).trans d1
  replace d2 := (hb2.cell (p := ⟨gb, 2, none⟩) lx).trans d2
  replace d3 := (hb2.cell (p := ⟨gb, 3, none⟩) lx).trans d3
  replace d4 := (hb2.cell (p := ⟨gb, 4, none⟩) lx).trans d4
  replace d5 := (hb2.cell (p := ⟨gb, 5, none⟩) lx).trans d5
  replace f5 := (hb2.frozen (p := ⟨gb, 5, none⟩) lx).trans f5
  replace lx := Nat.lt_of_lt_of_le lx hb2.size
  clear F2 hb2 HB1 HO
  cases T
  · go_wp2_with fail
    go_ret
    exact ⟨rfl, HB2.out⟩
  have HS : Hid (fewB n0 X) := hT.out.1 rfl
  clear hT
  by_cases t0 : room < 1
  · go_wp2_with fail
    go_ret
    exact ⟨rfl, HB2.out⟩
  by_cases t1 : (4096 : Int) < room
  · go_wp2_with fail
    go_ret
    exact ⟨rfl, HB2.out⟩
  by_cases t2 : (200 : Int) < (on.size : Int)
  · go_wp2_with fail
    go_ret
    exact ⟨rfl, HB2.out⟩
  obtain ⟨r, rfl⟩ := Int.eq_ofNat_of_zero_le (show 0 ≤ room by omega)
  have F3 := new_in r w2 (by omega) (by omega)
  go_wp2_with fail
  refine F3.mono ?_
  rintro e w3 ⟨rfl, K3, B3, _⟩
  have HB3 : Hid (Below w.heap.size w w3) := HB2.out.trans (B3.mono HB2.out.size)
  have HN : Hid (gb < w2.heap.size) := lx
  replace d0 := (B3.cell (p := ⟨gb, 0, none⟩) lx).trans d0
  replace d1 := (B3.cell (p := ⟨gb, 1, none⟩) lx).trans d1
  replace d2 := (B3.cell (p := ⟨gb, 2, none⟩) lx).trans d2
  replace d3 := (B3.cell (p := ⟨gb, 3, none⟩) lx).trans d3
  replace d4 := (B3.cell (p := ⟨gb, 4, none⟩) lx).trans d4
  replace d5 := (B3.cell (p := ⟨gb, 5, none⟩) lx).trans d5
  replace f5 := (B3.frozen (p := ⟨gb, 5, none⟩) lx).trans f5
  replace lx := Nat.lt_of_lt_of_le lx B3.size
  obtain ⟨n, hn⟩ : ∃ n, n = w2.heap.size := ⟨_, rfl⟩
  rw [← hn] at K3 HN
  rw [← hn]
  clear hn F3 B3 HB2
  have r1 : 1 ≤ r := by omega
  have r2 : r ≤ 4096 := by omega
  clear t0 t1
  have X4 : But (fun k => k = gb) w3 (w3.setCell ⟨gb, 5, none⟩ (.bool false)) := (But.refl (fun k => k = gb) w3).setCell gb 5 _ (fun _ => rfl)
  have K4 : Hid (SeenAt (w3.setCell ⟨gb, 5, none⟩ (.bool false)) n (newS r)) := K3.kept X4 (fun h => by have : n = gb := h; have := HN.out; omega) (fun h => by have : n + 1 = gb := h; have := HN.out; omega)
  have HB4 : Hid (Below w.heap.size w (w3.setCell ⟨gb, 5, none⟩ (.bool false))) := HB3.out.setCell (by have := HG.out; show w.heap.size ≤ gb; omega) _
  have u1 : (w3.setCell ⟨gb, 5, none⟩ (.bool false)).cell? ⟨gb, 1, none⟩ = some (.string on) := by rw [World.cell?_setCell_other _ _ _ _ (by simp)]; exact d1
  have u2 : (w3.setCell ⟨gb, 5, none⟩ (.bool false)).cell? ⟨gb, 2, none⟩ = some (.string oo) := by rw [World.cell?_setCell_other _ _ _ _ (by simp)]; exact d2
  have u3 : (w3.setCell ⟨gb, 5, none⟩ (.bool false)).cell? ⟨gb, 3, none⟩ = some (.int .i64 oq) := by rw [World.cell?_setCell_other _ _ _ _ (by simp)]; exact d3
  have u4 : (w3.setCell ⟨gb, 5, none⟩ (.bool false)).cell? ⟨gb, 4, none⟩ = some (.int .i64 op) := by rw [World.cell?_setCell_other _ _ _ _ (by simp)]; exact d4
  have u5 : (w3.setCell ⟨gb, 5, none⟩ (.bool false)).cell? ⟨gb, 5, none⟩ = some (.bool false) := World.cell?_setCell_same _ _ _ d5
  clear X4 K3 HB3
  go_upto_region 9 with fail
  generalize w3.setCell ⟨gb, 5, none⟩ (.bool false) = w4 at *
  clear d0 d1 d2 d3 d4 d5 f5
  have G := put_walk K4.out on (by unfold maxLen; omega) oo oq op false
  rw [new_put r1] at G
  cases hv : vldB on
  · rw [hv] at G
    rw [if_neg (by exact Bool.noConfusion)] at G
    rw [putS_no (by rw [put_name hv]; omega)] at G
    clear hv
    go_wp2_with fail
    refine G.mono ?_
    rintro e w5 ⟨rfl, K5, k5⟩
    have HB5 : Hid (Below w.heap.size w w5) := K4.out.frame k5 (by have := HG.out; have := HN.out; omega) HB4.out
    have G := count_any K5
    simp only [newS] at G
    clear K4 k5 HB4 u1 u2 u3 u4 u5
    go_wp2_with fail
    refine G.mono ?_
    rintro e w6 ⟨rfl, rfl⟩
    go_wp2_with fail
    go_ret
    exact ⟨by simp, HB5.out⟩
  rw [hv] at G
  rw [if_pos rfl] at G
  have e0 : putE (newS r) on = 0 := by rw [new_put r1, if_pos hv]
  go_wp2_with fail
  refine G.mono ?_
  rintro e w5 ⟨rfl, K5, k5⟩
  have I0 : Hid (Kp w w5 gb n r on oo oq op (putS (newS r) on ⟨oo, oq, op, false⟩)) := by
    have lo := World.block_lt_of_cell? _ _ u1
    have ho : ¬ (gb = n) := by have := HN.out; omega
    have g := fun o => k5.cell (k := gb) (o := o) lo ho
    exact ⟨K4.out.frame k5 (by have := HG.out; have := HN.out; omega) HB4.out, K5, by rw [put_room]; rfl, by rw [putS_ok e0]; exact setL_same _ _ _, hv, (g 1).trans u1, (g 2).trans u2, (g 3).trans u3, (g 4).trans u4, (g 5).trans u5, by have := HG.out; omega, HN.out⟩
  clear G K5 k5 K4 HB4 u1 u2 u3 u4 u5 e0 hv HN lx
  go_wp2_with fail
  go_loopw [55] (fun c wr => ∃ (i : Nat) (b : Sn), c = .int .i64 (i : Int) ∧ i ≤ n0 ∧ Hid (Kp w wr gb n r on oo oq op b)) (fun c _ => n0 - (RowKit.intOf c).toNat)
  case atStart => exact ⟨0, _, rfl, Nat.zero_le _, I0.out⟩
  case round =>
    clear I0
    obtain ⟨i, b, rfl, hi, I⟩ := hrel
    by_cases hlt : i < n0
    · have t1 : (i : Int) < (n0 : Int) := by omega
      obtain ⟨⟨b1, o1, e1, y0, y1, y2, y3, y4, y5⟩, z0, z1⟩ := H3.out i hlt
      have l1 := World.block_lt_of_cell? _ _ y0
      subst e1
      replace y0 := (I.out.bel.cell (p := ⟨b1, o1 + i * 6, none⟩) l1).trans y0
      replace y1 := (I.out.bel.cell (p := ⟨b1, o1 + i * 6 + 1, none⟩) l1).trans y1
      replace y2 := (I.out.bel.cell (p := ⟨b1, o1 + i * 6 + 2, none⟩) l1).trans y2
      replace y3 := (I.out.bel.cell (p := ⟨b1, o1 + i * 6 + 3, none⟩) l1).trans y3
      replace y4 := (I.out.bel.cell (p := ⟨b1, o1 + i * 6 + 4, none⟩) l1).trans y4
      replace y5 := (I.out.bel.cell (p := ⟨b1, o1 + i * 6 + 5, none⟩) l1).trans y5
      replace l1 := Nat.lt_of_lt_of_le l1 I.out.bel.size
      have HZ : Hid (Sml (X i)) := HS.out.2 i hlt
      obtain ⟨x1, hx1⟩ : ∃ x1, X i = x1 := ⟨_, rfl⟩
      rw [hx1] at y0 y1 y2 y3 y4 y5 HZ
      clear hx1 z0 z1
      obtain ⟨yk, yn, ⟨yo, yq, yp, yb⟩⟩ := x1
      simp only at y0 y1 y2 y3 y4 y5
      go_upto_region 14 with fail
      have I2 : Hid (Kp w (wr.alloc (.cells #[.int .i64 yk, .string yn, .string yo, .int .i64 yq, .int .i64 yp, .bool yb] 36)) gb n r on oo oq op b) := I.out.below ((Below.refl _ _).alloc (Nat.le_refl _) _)
      have d0 : (wr.alloc (.cells #[.int .i64 yk, .string yn, .string yo, .int .i64 yq, .int .i64 yp, .bool yb] 36)).cell? ⟨wr.heap.size, 0, none⟩ = some (.int .i64 yk) := by go_simp
      have d1 : (wr.alloc (.cells #[.int .i64 yk, .string yn, .string yo, .int .i64 yq, .int .i64 yp, .bool yb] 36)).cell? ⟨wr.heap.size, 1, none⟩ = some (.string yn) := by go_simp
      have d2 : (wr.alloc (.cells #[.int .i64 yk, .string yn, .string yo, .int .i64 yq, .int .i64 yp, .bool yb] 36)).cell? ⟨wr.heap.size, 2, none⟩ = some (.string yo) := by go_simp
      have d3 : (wr.alloc (.cells #[.int .i64 yk, .string yn, .string yo, .int .i64 yq, .int .i64 yp, .bool yb] 36)).cell? ⟨wr.heap.size, 3, none⟩ = some (.int .i64 yq) := by go_simp
      have d4 : (wr.alloc (.cells #[.int .i64 yk, .string yn, .string yo, .int .i64 yq, .int .i64 yp, .bool yb] 36)).cell? ⟨wr.heap.size, 4, none⟩ = some (.int .i64 yp) := by go_simp
      have d5 : (wr.alloc (.cells #[.int .i64 yk, .string yn, .string yo, .int .i64 yq, .int .i64 yp, .bool yb] 36)).cell? ⟨wr.heap.size, 5, none⟩ = some (.bool yb) := by go_simp
      have LG : Hid (n < wr.heap.size) := by have := I.out.kp.lt; show n < wr.heap.size; omega
      generalize wr.alloc (.cells #[.int .i64 yk, .string yn, .string yo, .int .i64 yq, .int .i64 yp, .bool yb] 36) = wB at *
      obtain ⟨gx, hgx⟩ : ∃ g, g = wr.heap.size := ⟨_, rfl⟩
      rw [← hgx] at d0 d1 d2 d3 d4 d5 LG
      rw [← hgx]
      clear hgx l1 y0 y1 y2 y3 y4 y5 I
      have c1 := I2.out.c1
      by_cases hne : yn = on
      · subst hne
        have G := put_walk I2.out.kp yn (by unfold maxLen; omega) yo yq yp yb
        have e1 := put_twice I2.out.vl (show (b.L yn).isSome = true by rw [I2.out.hl]; rfl)
        rw [putS_no (by rw [e1]; omega), e1] at G
        clear e1
        go_wp2_with fail
        refine G.mono ?_
        rintro e w6 ⟨rfl, K6, k6⟩
        have I6 : Hid (Kp w w6 gb n r yn oo oq op b) := I2.out.kept k6 K6 I2.out.hr I2.out.hl
        clear G K6 k6 I2 c1 d0 d1 d2 d3 d4 d5
        go_wp2_with fail
        go_roundw
        case rel => exact ⟨i + 1, b, by simp, by omega, I6.out⟩
        case measure => simp [RowKit.intOf]; omega
      have hnl : ¬ yn.toList = on.toList := fun e => hne (bytes_ext e)
      have hnb : (yn.toList == on.toList) = false := by rw [beq_bytes]; exact decide_eq_false hne
      have zz : yn.size ≤ maxLen := by have := HZ.out.1; simp only at this; unfold maxLen; omega
      have HE : Hid (yn ≠ on) := hne
      clear hne
      cases t2 : (yk == 2)
      · have G := put_walk I2.out.kp yn zz yo yq yp yb
        go_wp2_with fail
        refine G.mono ?_
        rintro e w6 ⟨rfl, K6, k6⟩
        have I6 : Hid (Kp w w6 gb n r on oo oq op (putS b yn ⟨yo, yq, yp, yb⟩)) := I2.out.put k6 K6 HE.out
        clear G K6 k6 I2 c1 d0 d1 d2 d3 d4 d5 t2 hnl hnb HE
        generalize putS b yn ⟨yo, yq, yp, yb⟩ = b' at *
        have G := get_any I6.out.kp on (by unfold maxLen; omega)
        rw [I6.out.hl] at G
        simp only [exV, tell, Option.getD_some, Option.isSome_some] at G
        have c1 := I6.out.c1
        go_wp2_with fail
        refine G.mono ?_
        rintro e w7 ⟨rfl, hb7⟩
        have B8 : Below w6.heap.size w6 (w7.alloc (.cells #[.string oo, .int .i64 oq, .int .i64 op, .bool false] 34)) := hb7.alloc hb7.size _
        have I8 : Hid (Kp w (w7.alloc (.cells #[.string oo, .int .i64 oq, .int .i64 op, .bool false] 34)) gb n r on oo oq op b') := I6.out.below B8
        have X8 : Box4 (w7.alloc (.cells #[.string oo, .int .i64 oq, .int .i64 op, .bool false] 34)) w7.heap.size ⟨oo, oq, op, false⟩ := Box4.new w7 ⟨oo, oq, op, false⟩ _
        clear G hb7 B8 I6 c1
        go_upto_region 21 with fail
        generalize w7.alloc (.cells #[.string oo, .int .i64 oq, .int .i64 op, .bool false] 34) = w8 at *
        generalize w7.heap.size = g8 at *
        obtain ⟨d0, d1, d2, d3, _, _, _, _⟩ := X8
        simp only at d0 d1 d2 d3
        have c2 := I8.out.c2
        have c3 := I8.out.c3
        have c4 := I8.out.c4
        have c5 := I8.out.c5
        have E := fun W => ex_eq 9998 ⟨oo, oq, op, false⟩ ⟨oo, oq, op, false⟩ W
        rw [eqX_self] at E
        simp only [exV] at E
        have G := count_any I8.out.kp
        have t3 : ¬ (r : Int) < (b'.c : Int) := by have := I8.out.kp.good.c1; have := I8.out.hr; omega
        go_wp2_with fail
        refine G.mono ?_
        rintro e w9 ⟨rfl, rfl⟩
        clear G E d0 d1 d2 d3 c2 c3 c4 c5
        go_wp2_with fail
        go_roundw
        case rel => exact ⟨i + 1, b', by simp, by omega, I8.out⟩
        case measure => simp [RowKit.intOf]; omega
      · have G := bust_any I2.out.kp yn zz
        go_wp2_with fail
        refine G.mono ?_
        rintro e w6 ⟨rfl, K6, k6⟩
        have I6 : Hid (Kp w w6 gb n r on oo oq op (bstS b yn)) := I2.out.bst k6 K6 HE.out
        clear G K6 k6 I2 c1 d0 d1 d2 d3 d4 d5 t2 hnl hnb HE
        generalize bstS b yn = b' at *
        have G := get_any I6.out.kp on (by unfold maxLen; omega)
        rw [I6.out.hl] at G
        simp only [exV, tell, Option.getD_some, Option.isSome_some] at G
        have c1 := I6.out.c1
        go_wp2_with fail
        refine G.mono ?_
        rintro e w7 ⟨rfl, hb7⟩
        have B8 : Below w6.heap.size w6 (w7.alloc (.cells #[.string oo, .int .i64 oq, .int .i64 op, .bool false] 34)) := hb7.alloc hb7.size _
        have I8 : Hid (Kp w (w7.alloc (.cells #[.string oo, .int .i64 oq, .int .i64 op, .bool false] 34)) gb n r on oo oq op b') := I6.out.below B8
        have X8 : Box4 (w7.alloc (.cells #[.string oo, .int .i64 oq, .int .i64 op, .bool false] 34)) w7.heap.size ⟨oo, oq, op, false⟩ := Box4.new w7 ⟨oo, oq, op, false⟩ _
        clear G hb7 B8 I6 c1
        go_upto_region 21 with fail
        generalize w7.alloc (.cells #[.string oo, .int .i64 oq, .int .i64 op, .bool false] 34) = w8 at *
        generalize w7.heap.size = g8 at *
        obtain ⟨d0, d1, d2, d3, _, _, _, _⟩ := X8
        simp only at d0 d1 d2 d3
        have c2 := I8.out.c2
        have c3 := I8.out.c3
        have c4 := I8.out.c4
        have c5 := I8.out.c5
        have E := fun W => ex_eq 9998 ⟨oo, oq, op, false⟩ ⟨oo, oq, op, false⟩ W
        rw [eqX_self] at E
        simp only [exV] at E
        have G := count_any I8.out.kp
        have t3 : ¬ (r : Int) < (b'.c : Int) := by have := I8.out.kp.good.c1; have := I8.out.hr; omega
        go_wp2_with fail
        refine G.mono ?_
        rintro e w9 ⟨rfl, rfl⟩
        clear G E d0 d1 d2 d3 c2 c3 c4 c5
        go_wp2_with fail
        go_roundw
        case rel => exact ⟨i + 1, b', by simp, by omega, I8.out⟩
        case measure => simp [RowKit.intOf]; omega
    · obtain rfl : i = n0 := by omega
      have t1 : ¬ (i : Int) < (i : Int) := by omega
      obtain ⟨b', hb'⟩ : ∃ b', b = b' := ⟨_, rfl⟩
      obtain ⟨w6, hw6⟩ : ∃ w6, wr = w6 := ⟨_, rfl⟩
      subst hb' hw6
      have I6 := I
      clear I
      have G := get_any I6.out.kp on (by unfold maxLen; omega)
      rw [I6.out.hl] at G
      simp only [exV, tell, Option.getD_some, Option.isSome_some] at G
      have c1 := I6.out.c1
      go_wp2_with fail
      refine G.mono ?_
      rintro e w7 ⟨rfl, hb7⟩
      have B8 : Below wr.heap.size wr (w7.alloc (.cells #[.string oo, .int .i64 oq, .int .i64 op, .bool false] 34)) := hb7.alloc hb7.size _
      have I8 : Hid (Kp w (w7.alloc (.cells #[.string oo, .int .i64 oq, .int .i64 op, .bool false] 34)) gb n r on oo oq op b) := I6.out.below B8
      have X8 : Box4 (w7.alloc (.cells #[.string oo, .int .i64 oq, .int .i64 op, .bool false] 34)) w7.heap.size ⟨oo, oq, op, false⟩ := Box4.new w7 ⟨oo, oq, op, false⟩ _
      clear G hb7 B8 I6 c1
      go_upto_region 25 with fail
      generalize w7.alloc (.cells #[.string oo, .int .i64 oq, .int .i64 op, .bool false] 34) = w8 at *
      generalize w7.heap.size = g8 at *
      obtain ⟨d0, d1, d2, d3, _, _, _, _⟩ := X8
      simp only at d0 d1 d2 d3
      have c1 := I8.out.c1
      have c2 := I8.out.c2
      have c3 := I8.out.c3
      have c4 := I8.out.c4
      have c5 := I8.out.c5
      have E := fun W => ex_eq 9998 ⟨oo, oq, op, false⟩ ⟨oo, oq, op, false⟩ W
      rw [eqX_self] at E
      simp only [exV] at E
      have G := bust_any I8.out.kp on (by unfold maxLen; omega)
      rw [bst_ok (show (b.L on).isSome = true by rw [I8.out.hl]; rfl) (by rw [I8.out.hl]; rfl)] at G
      go_wp2_with fail
      refine G.mono ?_
      rintro e w9 ⟨rfl, _, k9⟩
      have HB9 : Hid (Below w.heap.size w w9) := I8.out.kp.frame k9 (by have := I8.out.o1; have := I8.out.o2; omega) I8.out.bel
      clear G E d0 d1 d2 d3 c1 c2 c3 c4 c5 k9
      go_wp2_with fail
      go_ret
      exact ⟨by simp, HB9.out⟩
theorem seenKeeps_walk (w : World) (room : Int) (_bd : -9223372036854775808 ≤ room ∧ room ≤ 9223372036854775807) (x : Opc) (hz : x.n.size ≤ maxLen ∧ x.x.o.size ≤ maxLen) (v : Value) (n : Nat) (X : Nat → Opc) (h : Ops w v n X) : Calls Try.prog 5 #[.int .i64 room, .agg x.cells, v] w fun e w' => e = .returned (.bool true) ∧ Below w.heap.size w w' := keeps_walk w room v n X h x.k x.n x.x.o x.x.q x.x.p x.x.k hz.1
theorem seenKeeps_own : ownKnob Try.prog.godebug = none := by kernel_rfl
theorem seenKeeps_laidOut : laidOutB Try.prog = true := by kernel_rfl
set_option maxRecDepth 100000 in
theorem seenKeeps_lifted (os : Os) (started : os.Started) (H : Type) (enc : TypeId × Value → H) :
    ReturnsInHanded {} Try.checked os 5 .any (Rows.seenKeepsSpec.pre6 enc Try.prog Try.f5 Rows.seenKeepsRow.domain false) (Rows.seenKeepsSpec.post enc Try.prog Try.f5 false true false false) := by
  refine returnsInHanded_of_change (C := Try.checked) seenKeeps_own started (by kernel_rfl) Try.func5
    (ChangeSpec.witness6 (enc := enc) (C := Try.checked) false ⟨#[], #[.int .i64 0, .agg #[.int .i64 0, .string ⟨#[]⟩, .string ⟨#[]⟩, .int .i64 0, .int .i64 0, .bool false], .slice none 0 0], []⟩ 8 (by kernel_rfl) (by kernel_rfl) (by kernel_rfl) (by kernel_rfl)) ?_
  intro W base args ds gs before hval0 hW hcnd _
  have hval : ∀ (j : Nat) t v, Try.f5.params[j]? = some t → args[j]? = some v → Value.okWide Try.prog W .any base t v := hval0
  have hW' := hW
  obtain ⟨p, q, hA0, hV, rfl, hfz, hnd⟩ := hW
  have hA : DataW.TrodAll enc Try.prog W 0 (fun _ => true) true Try.f5.params.toList args.toList ds p := hA0
  rw [Try.params5] at hA hval
  obtain ⟨v0, vs0, d0, ds0, p0, q0, hargs, rfl, rfl, h0, r0⟩ := trodAll_cons hA
  obtain ⟨v1, vs1, d1, ds1, p1, q1, rfl, rfl, rfl, h1, r1⟩ := trodAll_cons r0
  obtain ⟨v2, vs2, d2, ds2, p2, q2, rfl, rfl, rfl, h2, r2⟩ := trodAll_cons r1
  obtain ⟨rfl, rfl, rfl⟩ := trodAll_nil r2
  obtain rfl : args = #[v0, v1, v2] := by cases args; simp_all
  obtain ⟨rfl, rfl⟩ := trodVars_none hV
  obtain ⟨a0, rfl, rfl, rfl, w0⟩ := open_int Try.underlying3 (hval 0 3 v0 rfl rfl) h0
  have bd0 := bounds_i64 w0
  have k1 := h1
  have lt1 : ∀ x ∈ p1, x.block < W.heap.size := by obtain ⟨m, hm⟩ := k1; exact DataW.trod_lt m _ _ _ hm
  obtain ⟨x1, rfl, hz1⟩ := open_op (hval 1 36 v1 rfl rfl) h1
  obtain ⟨ad2, n2, cap2, rfl⟩ := okWide_slice Try.underlying22 (hval 2 22 v2 rfl rfl)
  have k2 := h2
  have lt2 : ∀ x ∈ p2, x.block < W.heap.size := by obtain ⟨m, hm⟩ := k2; exact DataW.trod_lt m _ _ _ hm
  obtain ⟨X2, ops2⟩ : ∃ X, Ops W (.slice ad2 n2 cap2) n2 X := by obtain ⟨fuel, hf⟩ := h2; exact open_ops hf
  clear hA0 hval0
  simp only [List.append_nil, List.nil_append] at hW'
  refine (seenKeeps_walk W a0 bd0 x1 hz1 _ n2 X2 ops2).mono fun e W' ⟨he, bel⟩ => ?_
  subst he
  exact ⟨_, rfl, _, _, _, [], _, [], hW', trodAll_mk1 (shut_bool Try.underlying4 _), (trodAll_cons_mk (shut_int Try.underlying3 w0) (trodAll_cons_mk (Below.trod seenKeeps_laidOut (by kernel_rfl) (of_decide_eq_true (by kernel_rfl)) k1 bel lt1) (trodAll_cons_mk (Below.trod seenKeeps_laidOut (by kernel_rfl) (of_decide_eq_true (by kernel_rfl)) k2 bel lt2) trodAll_mk0))), rfl, bel.frame _, fun h => by cases h⟩

/-- THE STATEMENT. -/
theorem seenKeeps_proved : Rows.SeenKeepsSaid :=
  OpenClaim.holds_of_wide 5 Try.f5 rfl rfl rfl rfl rfl rfl rfl ⟨rfl, rfl, rfl, rfl, rfl⟩ rfl rfl rfl rfl rfl (by kernel_rfl) Try.func5 (by kernel_rfl)
    (of_decide_eq_true (by kernel_rfl)) (by unfold Func.isWrapper; first | (rw [if_pos (by decide +kernel)]; kernel_rfl) | (rw [if_neg (by decide +kernel)]; exact ⟨rfl, rfl⟩))
    (fun os started H enc _ => seenKeeps_lifted os started H enc)
#print axioms seenKeeps_proved
end Go.Proofs.Ythkohopnoifibaa
