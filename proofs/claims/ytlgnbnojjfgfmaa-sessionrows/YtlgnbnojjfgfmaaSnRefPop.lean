/-
  The contracts of the twenty-second reference's Pop and Send.
-/
import Derived.Test.YtlgnbnojjfgfmaaSnRef
import Derived.Test.YtlgnbnojjfgfmaaSnSend
namespace Go.Proofs.Ytlgnbnojjfgfmaa.SN
open Go.ChangeShapes Go.WideShapes Go.ChangeAt Go.RowKit Go.Lib RU

theorem RefOk.more {w w1 w2 : World} {g base : Nat} {v : Value} {y : Ss} (h : RefOk w w1 g base v y) (k : Below w1.heap.size w1 w2) : RefOk w w2 g base v y := by
  obtain ⟨v', R, b, o⟩ := h
  exact ⟨v', R.below k, b.trans (But.of_below (S := fun _ => False) k) (fun _ _ e => e.elim), o⟩
set_option maxRecDepth 100000 in
set_option maxHeartbeats 8000000 in
theorem refPop_any {w : World} {g base : Nat} {y : Ss} {v : Value} (K : RefAt w g base y v) (hs : y.sn ≤ 4096) : Calls Try.prog 23 #[.pointer (some ⟨g, 0, none⟩)] w fun e w' => e = .returned (.tuple #[oV (popO y), .int .i64 (popE y)]) ∧ RefOk w w' g base v (popX y) := by
  have B0 : Below w.heap.size w (w.alloc (.cells #[.int .i64 0, .int .i64 0, .string ⟨#[]⟩, .string ⟨#[]⟩, .int .i64 0, .int .i64 0, .int .i64 0] 55)) := below1 _ _
  have K0 := K.below B0
  have X0 : Bx (w.alloc (.cells #[.int .i64 0, .int .i64 0, .string ⟨#[]⟩, .string ⟨#[]⟩, .int .i64 0, .int .i64 0, .int .i64 0] 55)) w.heap.size o0 := Bx.new w o0 55
  have hg := K.box.lt
  have HP : Hid (RefAt (w.alloc (.cells #[.int .i64 0, .int .i64 0, .string ⟨#[]⟩, .string ⟨#[]⟩, .int .i64 0, .int .i64 0, .int .i64 0] 55)) g base y v ∧ Bx (w.alloc (.cells #[.int .i64 0, .int .i64 0, .string ⟨#[]⟩, .string ⟨#[]⟩, .int .i64 0, .int .i64 0, .int .i64 0] 55)) w.heap.size o0 ∧ Below w.heap.size w (w.alloc (.cells #[.int .i64 0, .int .i64 0, .string ⟨#[]⟩, .string ⟨#[]⟩, .int .i64 0, .int .i64 0, .int .i64 0] 55))) := ⟨K0, X0, B0⟩
  have HT : Hid (∀ k, ownR g v k → k < w.heap.size) := fun k hk => K.there hk
  have HK0 : Hid (RefAt w g base y v) := K
  obtain ⟨a, cap, rfl⟩ := own_shape K.own
  unfold popE popO popX
  have hord := K.ord
  have t1 : (y.sn : Int) ≤ 4096 := by omega
  have t2 : (y.out : Int) ≤ 4096 := by omega
  clear K0 X0 B0
  by_cases hz : y.sn ≤ y.out
  · rw [if_pos hz, if_pos hz, if_pos hz]
    have t3 : (y.sn : Int) ≤ (y.out : Int) := by omega
    obtain ⟨_, c1, _, _, c4, _⟩ := K.cells
    clear K
    go_enter Try.func23, Try.ntmps23
    go_wp2_with fail
    go_region
    go_wp2_with fail
    refine bodyPost_ret (v := .tuple #[oV o0, .int .i64 50]) (by simp [results, Try.results23, go_sem, o0]) rfl ⟨rfl, ?_⟩
    exact HK0.out.ok (below1 _ _).drew
  · rw [if_neg hz, if_neg hz, if_neg hz]
    have t3 : ¬ (y.sn : Int) ≤ (y.out : Int) := by omega
    have t4 : (y.out : Int) < (y.sn : Int) := by omega
    obtain ⟨x, hx⟩ : ∃ x, y.L y.out = x := ⟨_, rfl⟩
    rw [hx]
    have HX : Hid (y.L y.out = x) := hx
    clear K hx
    go_enter Try.func23, Try.ntmps23
    go_wp2_with fail
    generalize hW : World.alloc w _ = w1 at HP ⊢
    clear hW
    obtain ⟨_, c1, _, _, c4, _⟩ := HP.out.1.cells
    have f1 := HP.out.1.box.thaw 1
    obtain ⟨q, cap', e, h1, h2, hq, hS⟩ := own_cells HP.out.1.own (i := y.out) (by omega)
    injection e with e1 _ e3
    subst e1 e3
    unfold maxLen at h2
    rw [HX.out] at hS
    clear HX
    have hgq : ¬ g = q := fun e => HP.out.1.gv (by rw [e]; rfl)
    have hgr : ¬ g = w.heap.size := by omega
    have hqr : ¬ q = w.heap.size := by have := HT.out q (.inr rfl); omega
    obtain ⟨d0, d1, d2, d3, d4, d5, d6⟩ := hS.all
    obtain ⟨r0, r1, r2, r3, r4, r5, r6⟩ := HP.out.2.1.sev.all0
    obtain ⟨k0, k1, k2, k3, k4, k5, k6⟩ := HP.out.2.1.thaws
    obtain ⟨xk, xs, xi, xy, xd, xq, xp⟩ := x
    simp only [o0] at d0 d1 d2 d3 d4 d5 d6 r0 r1 r2 r3 r4 r5 r6
    have HR : Hid (∀ W, Below (w1.setCell ⟨g, 1, none⟩ (.int .i64 ((y.out : Int) + 1))).heap.size (w1.setCell ⟨g, 1, none⟩ (.int .i64 ((y.out : Int) + 1))) W → RefOk w (put0 W w.heap.size ⟨xk, xs, xi, xy, xd, xq, xp⟩) g base (.slice (some ⟨q, 0, none⟩) y.sn cap) ⟨y.room, y.sn, y.out + 1, y.tk, y.fa, y.dn, y.L⟩ ∧ Bx (put0 W w.heap.size ⟨xk, xs, xi, xy, xd, xq, xp⟩) w.heap.size ⟨xk, xs, xi, xy, xd, xq, xp⟩) := fun W hW => by
      obtain ⟨v', R1, b1, o1⟩ := HP.out.1.wrote (z := ⟨y.room, y.sn, y.out + 1, y.tk, y.fa, y.dn, y.L⟩) (i := 1) (.int .i64 ((y.out : Int) + 1)) (by omega) (fun j hj => six_lt (P := fun j => upd (rF y (.slice (some ⟨q, 0, none⟩) y.sn cap)) 1 (.int .i64 ((y.out : Int) + 1)) j = rF _ _ j) hj ⟨rfl, rfl, rfl, rfl, rfl, rfl⟩) rfl rfl (show y.out + 1 ≤ y.sn by omega)
      have R2 := R1.below hW
      have hn1 : ¬ ownR g (.slice (some ⟨q, 0, none⟩) y.sn cap) w.heap.size := fun e => by have := HT.out _ e; omega
      have hn2 : ¬ ownR g v' w.heap.size := fun e => (o1 _ e).elim hn1 (fun e => by have := HP.out.2.1.sev.lt; omega)
      have X1 : Bx W w.heap.size o0 := (HP.out.2.1.kept b1 hn1).below hW
      have bW : But (ownR g (.slice (some ⟨q, 0, none⟩) y.sn cap)) w W := (But.of_below HP.out.2.2).trans (b1.trans (But.of_below (S := fun _ => False) hW) (fun _ _ e => e.elim)) (fun _ _ e => e)
      refine ⟨⟨v', R2.kept (put0_but (S := fun k => k = w.heap.size) (But.refl _ _) _ _ (fun _ => rfl)) (fun i hi e => hn2 (e ▸ hi)), put0_but bW _ _ (fun hlt => absurd hlt (by omega)), fun k hk => (o1 k hk).imp id (fun e => Nat.le_trans HP.out.2.2.size e)⟩, X1.put ⟨xk, xs, xi, xy, xd, xq, xp⟩⟩
    simp only [put0] at HR
    clear HP hS HK0
    go_wp2_with fail
    go_region
    go_wp2_with fail
    go_region
    go_wp2_with fail
    have HV := HR.out _ (Below.refl _ _)
    generalize hV : World.setCell _ ⟨w.heap.size, 6, none⟩ _ = V at HV ⊢
    obtain ⟨g0, g1, g2, g3, g4, g5, g6⟩ := HV.2.sev.all0
    simp only at g0 g1 g2 g3 g4 g5 g6
    refine bodyPost_ret (v := .tuple #[oV ⟨xk, xs, xi, xy, xd, xq, xp⟩, .int .i64 0]) (by simp [results, Try.results23, go_sem, g0, g1, g2, g3, g4, g5, g6]) rfl ⟨rfl, HV.1.more (below_drewN _ 2 _)⟩
theorem refRightO_any (o : Od) (w : World) (z : o.i.size ≤ 200 ∧ o.y.size ≤ 200) : Calls Try.prog 31 #[.agg #[.int .i64 o.k, .int .i64 1, .string o.i, .string o.y, .int .i64 o.d, .int .i64 o.q, .int .i64 o.p]] w fun e w' => e = .returned (.bool (rgO o)) ∧ Below w.heap.size w w' := PP.O.refRight_any (th (num o 1)) w (Nat.le_trans z.1 (by omega)) (Nat.le_trans z.2 (by omega))
theorem infoR : (Try.prog.info? 55).map (fun i => (i.zero, i.size, i.bytes)) = some (some (.agg #[.int .i64 0, .int .i64 0, .string ⟨#[]⟩, .string ⟨#[]⟩, .int .i64 0, .int .i64 0, .int .i64 0]), 7, 72) := by kernel_rfl
theorem cell_news (w : World) (A : Array Value) (t : TypeId) : ∀ j u, A.toList[j]? = some u → (w.alloc (.cells A t)).cell? ((⟨w.heap.size, 0, none⟩ : Addr).add j) = some u := by
  intro j u h
  rw [Addr.add_lit, Nat.zero_add]
  have h' : A[j]? = some u := by simpa using h
  simp [h']
/-- append as one step of a region that draws, out of its run. -/
theorem step_append_at {P : Program} {ops : Array Oper} {o : Oper} {a : Act} {w : World} {K : Act → World → Prop} {Q : Exit → Act → World → Prop} {E : Prop} (hgd : o.guard = none) (s x : Operand) (t : TypeId)
    (ho : o.op = .call { callee := .builtin .append, args := #[s, x], argTypes := #[t, t] }) (u v v' : Value) (w' : World) (hs : a.eval s = u) (hx : a.eval x = v) (hrun : (Builtin.append_ #[t, t] o.type #[u, v]).run P w = .ok v' w')
    (h : K (a.put o.dst v') w') :
    if Region.wanted o (yielded ops a.tmps) = true then Oper.wp P o a w K Q else E := by
  have hw : Region.wanted o (yielded ops a.tmps) = true := by simp [Region.wanted, hgd]
  rw [if_pos hw]
  unfold Oper.wp execOp
  simp only [ho, resolve, invoke, builtin, Sem.run_bind, Sem.run_pure, Result.andThen_ok, List.map_toArray, List.map_cons, List.map_nil, hs, hx, hrun]
  exact h
set_option maxRecDepth 100000 in
set_option maxHeartbeats 8000000 in
theorem refSend_any {w : World} {g base : Nat} {y : Ss} {v : Value} (K : RefAt w g base y v) (o : Od) (z : o.i.size ≤ 200 ∧ o.y.size ≤ 200) (hs : y.sn ≤ 4096) : Calls Try.prog 22 #[.pointer (some ⟨g, 0, none⟩), oV o] w fun e w' => e = .returned (.tuple #[.int .i64 (sndN y o), .int .i64 (sndE y o)]) ∧ RefOk w w' g base v (sndX y o) := by
  have B1 : Below w.heap.size w (w.alloc (.cells #[.int .i64 o.k, .int .i64 1, .string o.i, .string o.y, .int .i64 o.d, .int .i64 o.q, .int .i64 o.p] 55)) := below1 _ _
  have F2 := (refRightO_any o (w.alloc (.cells #[.int .i64 o.k, .int .i64 1, .string o.i, .string o.y, .int .i64 o.d, .int .i64 o.q, .int .i64 o.p] 55)) z).mono fun e w' (he : _ ∧ _) => (⟨he.1, (K.below B1).below he.2, (Bx.new w (num o 1) 55).below he.2, B1.trans (he.2.mono B1.size)⟩ : e = .returned (.bool (rgO o)) ∧ Hid (RefAt w' g base y v ∧ Bx w' w.heap.size (num o 1) ∧ Below w.heap.size w w'))
  have HS : Hid (RefAt w g base y v) := K
  have HT : Hid (∀ k, ownR g v k → k < w.heap.size) := fun k hk => K.there hk
  have hgx : ¬ g = w.heap.size := by have := K.box.lt; omega
  have hglt := K.box.lt
  have t : (y.sn : Int) ≤ 4096 := by omega
  have t' : (y.out : Int) ≤ 4096 := by have := K.ord; omega
  have hord := K.ord
  obtain ⟨a, cap, rfl⟩ := own_shape K.own
  clear K B1 z
  cases hr : rgO o
  case false =>
    obtain ⟨e1, e2, e3⟩ := snd_bad (x := y) hr
    rw [e1, e2, e3]
    rw [hr] at F2
    clear hr e1 e2 e3
    obtain ⟨xk, xs, xi, xy, xd, xq, xp⟩ := o
    dsimp only [oV, num] at F2 ⊢
    go_enter Try.func22, Try.ntmps22
    go_wp2_with fail
    refine F2.mono ?_
    rintro e w1 ⟨rfl, HP⟩
    clear F2
    go_wp2_with fail
    go_ret2
    exact ⟨rfl, HS.out.ok HP.out.2.2⟩
  case true =>
  cases hd : y.dn
  case true =>
    obtain ⟨e1, e2, e3⟩ := snd_down hr hd
    rw [e1, e2, e3]
    rw [hr] at F2
    have HD : Hid (y.dn = true) := hd
    clear hr e1 e2 e3 hd
    obtain ⟨xk, xs, xi, xy, xd, xq, xp⟩ := o
    dsimp only [oV, num] at F2 ⊢
    go_enter Try.func22, Try.ntmps22
    go_wp2_with fail
    refine F2.mono ?_
    rintro e w1 ⟨rfl, HP⟩
    clear F2
    obtain ⟨_, _, _, _, _, c5⟩ := HP.out.1.cells
    rw [HD.out] at c5
    go_wp2_with fail
    go_ret2
    exact ⟨rfl, HS.out.ok HP.out.2.2⟩
  case false =>
  by_cases hf : y.room ≤ y.sn - y.out
  · obtain ⟨e1, e2, e3⟩ := snd_full hr hd hf
    rw [e1, e2, e3]
    rw [hr] at F2
    have HD : Hid (y.dn = false) := hd
    have tf : (y.room : Int) ≤ (y.sn : Int) - (y.out : Int) := by omega
    clear hr e1 e2 e3 hd hf
    obtain ⟨xk, xs, xi, xy, xd, xq, xp⟩ := o
    dsimp only [oV, num] at F2 ⊢
    go_enter Try.func22, Try.ntmps22
    go_wp2_with fail
    refine F2.mono ?_
    rintro e w1 ⟨rfl, HP⟩
    clear F2
    obtain ⟨c0, c1, _, _, c4, c5⟩ := HP.out.1.cells
    rw [HD.out] at c5
    go_wp2_with fail
    go_region
    go_wp2_with fail
    go_ret2
    exact ⟨rfl, HS.out.ok HP.out.2.2.drew⟩
  obtain ⟨e1, e2, e3⟩ := snd_ok hr hd hf
  rw [e1, e2, e3]
  rw [hr] at F2
  have HD : Hid (y.dn = false) := hd
  have tf : ¬ (y.room : Int) ≤ (y.sn : Int) - (y.out : Int) := by omega
  clear hr e1 e2 e3 hd hf
  obtain ⟨xk, xs, xi, xy, xd, xq, xp⟩ := o
  dsimp only [oV, num] at F2 ⊢
  go_enter Try.func22, Try.ntmps22
  go_wp2_with fail
  refine F2.mono ?_
  rintro e w1 ⟨rfl, HP⟩
  clear F2
  obtain ⟨c0, c1, _, _, c4, c5⟩ := HP.out.1.cells
  rw [HD.out] at c5
  obtain ⟨d0, d1, d2, d3, d4, d5, d6⟩ := HP.out.2.1.sev.all0
  obtain ⟨f0, f1, f2, f3, f4, f5, f6⟩ := HP.out.2.1.thaws
  simp only at d0 d1 d2 d3 d4 d5 d6
  have hbx : w.heap.size < w1.heap.size := HP.out.2.1.sev.lt
  go_wp2_with fail
  go_region
  obtain ⟨w3, hw3⟩ : ∃ w3, Hid (w3 = (w1.setCell ⟨w.heap.size, 1, none⟩ (.int .i64 ((y.sn : Int) + 1))).drew) := ⟨_, rfl⟩
  have hno : ¬ ownR g (.slice a y.sn cap) w.heap.size := fun e => by have := HT.out _ e; omega
  have HP3 : Hid (RefAt w3 g base y (.slice a y.sn cap) ∧ Bx w3 w.heap.size ⟨xk, ((y.sn : Int) + 1), xi, xy, xd, xq, xp⟩ ∧ Below w.heap.size w w3) := by
    have k : But (fun j => j = w.heap.size) w1 w3 := by rw [hw3.out]; exact ((But.refl (fun j => j = w.heap.size) w1).setCell _ _ _ (fun _ => rfl)).drew
    refine ⟨HP.out.1.kept k (fun i hi e => hno (e ▸ hi)), by rw [hw3.out]; exact (HP.out.2.1.number _).below (below_drewN _ 1 _), (But.of_below (S := fun j => j = w.heap.size) HP.out.2.2 |>.trans k (fun _ _ e => e)).below (Nat.le_refl _) (fun _ e => Nat.le_of_eq e.symm)⟩
  clear HP
  go_upto_region 9 with fail
  rw [← hw3.out]
  clear c0 c1 c4 c5 d0 d1 d2 d3 d4 d5 d6 f0 f1 f2 f3 f4 f5 f6 hw3 HD
  obtain ⟨_, _, _, _, c4, _⟩ := HP3.out.1.cells
  have f4 := HP3.out.1.box.thaw 4
  obtain ⟨d0, d1, d2, d3, d4, d5, d6⟩ := HP3.out.2.1.sev.all0
  simp only at d0 d1 d2 d3 d4 d5 d6
  obtain ⟨i0, hi0, hz0, hzs, hzb⟩ := info_parts infoR
  obtain ⟨w5, hw5⟩ : ∃ w5, w5 = (w3.alloc (.cells #[.int .i64 xk, .int .i64 ((y.sn : Int) + 1), .string xi, .string xy, .int .i64 xd, .int .i64 xq, .int .i64 xp] 55)).drew := ⟨_, rfl⟩
  have B45 : Below w3.heap.size w3 w5 := by rw [hw5]; exact below_more ((Below.refl _ w3).alloc (Nat.le_refl _) _) 1
  have K5 := HP3.out.1.below B45
  have X5 := HP3.out.2.1.below B45
  have B5 : Below w.heap.size w w5 := HP3.out.2.2.trans (B45.mono HP3.out.2.2.size)
  have hcn : ∀ j u, (cellsO ⟨xk, ((y.sn : Int) + 1), xi, xy, xd, xq, xp⟩)[j]? = some u → w5.cell? ((⟨w3.heap.size, 0, none⟩ : Addr).add j) = some u := by rw [hw5]; exact cell_news w3 #[.int .i64 xk, .int .i64 ((y.sn : Int) + 1), .string xi, .string xy, .int .i64 xd, .int .i64 xq, .int .i64 xp] 55
  obtain ⟨v6, w6, hrun, hown6, hg6, _, hat6⟩ := run_append_own_at (P := Try.prog) w5 base 30 30 55 i0 _ 7 72 Try.underlying30 hi0 hz0 hzs hzb rfl (by decide) _ y.sn (allO y.L y.sn) K5.own ⟨w3.heap.size, 0, none⟩ 1 1 (cellsO ⟨xk, ((y.sn : Int) + 1), xi, xy, xd, xq, xp⟩) rfl hcn (cellsO_one _) (by unfold maxLen; omega) (by omega) K5.hi
  have BG := But.of_grown hg6
  have ng : ¬ (Value.slice a y.sn cap).ownBlock = some g := K5.gv
  have nx : ¬ (Value.slice a y.sn cap).ownBlock = some w.heap.size := fun e => hno (.inr e)
  have X6 := X5.kept BG nx
  have O6 : w6.ownsRow base 55 7 v6 (y.sn + 1) (allO (upd y.L y.sn ⟨xk, ((y.sn : Int) + 1), xi, xy, xd, xq, xp⟩) (y.sn + 1)) := by rw [allO_more]; exact hown6
  have nv : ¬ v6.ownBlock = some g := fun e => by have := (O6.lt g e).1; have := K5.lo; omega
  have L5 : w.heap.size < w5.heap.size := X5.sev.lt
  have HK7 : Hid (RefOk w (w6.setCell ⟨g, 4, none⟩ v6) g base (.slice a y.sn cap) ⟨y.room, y.sn + 1, y.out, y.tk, y.fa, y.dn, upd y.L y.sn ⟨xk, ((y.sn : Int) + 1), xi, xy, xd, xq, xp⟩⟩ ∧ Bx (w6.setCell ⟨g, 4, none⟩ v6) w.heap.size ⟨xk, ((y.sn : Int) + 1), xi, xy, xd, xq, xp⟩) := by
    have k : But (fun k => k = g) w6 (w6.setCell ⟨g, 4, none⟩ v6) := (But.refl _ w6).setCell g 4 v6 (fun _ => rfl)
    have b6 := K5.box.kept BG ng
    refine ⟨⟨v6, ⟨b6.set v6 (by omega) (fun j hj => six_lt (P := fun j => upd (rF y (.slice a y.sn cap)) 4 v6 j = rF _ v6 j) hj ⟨rfl, rfl, rfl, rfl, rfl, rfl⟩), own_kept O6 k (fun q hq e => nv (by rw [hq, e])), K5.lo, Nat.le_trans K5.hi (Nat.le_trans BG.size k.size), by show y.out ≤ y.sn + 1; omega⟩, ?_, fun q hq => ?_⟩, X6.kept k (fun e => hgx e.symm)⟩
    · exact ((But.of_below B5).trans (BG.mono (T := ownR g (.slice a y.sn cap)) (fun i _ e => .inr e)) (fun _ _ e => e)).setCell g 4 v6 (fun _ => .inl rfl)
    · rcases hq with e | e
      · exact .inl (.inl e)
      · rcases hat6 with h | h
        · exact .inl (.inr (h ▸ e))
        · rw [h] at e
          injection e with e
          exact .inr (by omega)
  have e4 := (K5.box.kept BG ng).cell 4 (by omega)
  have y4 := (K5.box.kept BG ng).thaw 4
  have e4 : w6.cell? ⟨g, 4, none⟩ = some (.slice a y.sn cap) := e4
  have m1 : w6.cell? ⟨w.heap.size, 1, none⟩ = some (.int .i64 ((y.sn : Int) + 1)) := X6.sev 1 (by omega)
  obtain ⟨a6, cap6, rfl⟩ := own_shape O6
  have k5 := K5.cells.2.2.2.2.1
  rw [hw5] at hrun k5
  clear K5 X5 B5 B45 hcn hown6 hg6 hat6 BG hw5 O6 ng nv nx X6 HP3 hno L5
  have HRn : Hid ((Builtin.append_ #[30, 30] 30 #[.slice a y.sn cap, .slice (some ⟨w3.heap.size, 0, none⟩) 1 1]).run Try.prog (w3.alloc (.cells #[.int .i64 xk, .int .i64 ((y.sn : Int) + 1), .string xi, .string xy, .int .i64 xd, .int .i64 xq, .int .i64 xp] 55)).drew = .ok (.slice a6 (y.sn + 1) cap6) w6) := hrun
  clear hrun
  go_region_law (refine step_append_at rfl (.tmp 40) (.tmp 42) 30 rfl (.slice a y.sn cap) (.slice (some ⟨w3.heap.size, 0, none⟩) 1 1) (.slice a6 (y.sn + 1) cap6) w6 rfl rfl HRn.out ?_)
  all_goals (
    have hgx' : ¬ w.heap.size = g := fun e => hgx e.symm
    go_wp2_with fail
    go_ret2
    exact ⟨rfl, HK7.out.1⟩)
end Go.Proofs.Ytlgnbnojjfgfmaa.SN
