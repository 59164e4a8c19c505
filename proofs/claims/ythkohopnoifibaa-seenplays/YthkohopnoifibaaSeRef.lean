/-
  Contracts of the nineteenth reference's Find, Put and Bust.
-/
import Derived.Test.YthkohopnoifibaaSeRefMath
import Derived.Deep.RegionLaw
namespace Go.Proofs.Ythkohopnoifibaa.SE
open Go.ChangeShapes Go.WideShapes Go.ChangeAt Go.RowKit Go.Lib RU

/-- What Find answers. -/
def FndT (e : Ending) (b : Sn) (N : Nat → ByteArray) (s : ByteArray) : Prop := ∃ z, e = .returned (.int .i64 z) ∧ At b N s z
set_option maxRecDepth 100000 in
set_option maxHeartbeats 8000000 in
theorem refFind_any {w : World} {g base : Nat} {b : Sn} {N : Nat → ByteArray} {X : Nat → Xc} {v : Value} (K : RefAt w g base b N X v) (s : ByteArray) : Calls Try.prog 14 #[.pointer (some ⟨g, 0, none⟩), .string s] w fun e w' => FndT e b N s ∧ w' = w := by
  obtain ⟨a, cap, rfl⟩ := own_shape K.own
  have HK : Hid (RefAt w g base b N X (.slice a b.c cap)) := K
  have c1 := K.c1
  have hc : (b.c : Int) ≤ 4096 := by have := K.good.c1; have := K.good.r2; omega
  clear K
  go_enter Try.func14, Try.ntmps14
  go_wp2_with fail
  go_loopw [5] (fun c wr => ∃ k : Nat, c = .int .i64 (k : Int) ∧ k ≤ b.c ∧ wr = w ∧ Hid (∀ j, j < k → N j ≠ s)) (fun c _ => b.c - (RowKit.intOf c).toNat)
  case atStart => exact ⟨0, rfl, Nat.zero_le _, rfl, fun j hj => absurd hj (by omega)⟩
  case round =>
    obtain ⟨k, rfl, hk, rfl, HN⟩ := hrel
    by_cases hlt : k < b.c
    · have t : (k : Int) < (b.c : Int) := by omega
      obtain ⟨q, cap', e, h1, h2, _, lq, _, y0, _, _, _, _⟩ := HK.out.cells hlt
      injection e with e1 _ e3
      subst e1 e3
      unfold maxLen at h2
      by_cases hne : N k = s
      · have HE : Hid (N k = s) := hne
        rw [hne] at y0
        clear hne
        go_wp2_with fail
        go_ret
        exact ⟨⟨_, rfl, .inl ⟨k, rfl, hlt, HE.out⟩⟩, rfl⟩
      · have hnl : ¬ (N k).toList = s.toList := fun e => hne (bytes_ext e)
        have hnb : ((N k).toList == s.toList) = false := by rw [beq_bytes]; exact decide_eq_false hne
        have HN2 : Hid (∀ j, j < k + 1 → N j ≠ s) := fun j hj => if e : j = k then by subst e; exact hne else HN.out j (by omega)
        clear hne HN
        go_wp2_with fail
        go_roundw
        case rel => exact ⟨k + 1, by simp, by omega, by first | rfl | trivial, HN2.out⟩
        case measure => simp [RowKit.intOf]; omega
    · obtain rfl : k = b.c := by omega
      have t : ¬ (b.c : Int) < (b.c : Int) := by omega
      go_wp2_with fail
      go_ret
      exact ⟨⟨_, rfl, .inr ⟨rfl, HN.out⟩⟩, rfl⟩
/-- The reference's Seen behind a call: b' was met; only its own blocks changed. -/
def RefOk (w w' : World) (g base : Nat) (v : Value) (b' : Sn) : Prop := ∃ N' X' v', RefAt w' g base b' N' X' v' ∧ But (ownR g v) w w'
theorem RefAt.same {w w' : World} {g base : Nat} {b : Sn} {N : Nat → ByteArray} {X : Nat → Xc} {v : Value} (h : RefAt w g base b N X v) (k : Below w.heap.size w w') : RefOk w w' g base v b := ⟨N, X, v, h.below k, But.of_below k⟩
theorem infoN : (Try.prog.info? 45).map (fun i => (i.zero, i.size, i.bytes)) = some (some (.agg #[.string ⟨#[]⟩, .string ⟨#[]⟩, .int .i64 0, .int .i64 0, .bool false]), 5, 56) := by kernel_rfl
theorem cell_news (w : World) (A : Array Value) (t : TypeId) : ∀ j u, A.toList[j]? = some u → (w.alloc (.cells A t)).cell? ((⟨w.heap.size, 0, none⟩ : Addr).add j) = some u := by
  intro j u h
  rw [Addr.add_lit, Nat.zero_add]
  have h' : A[j]? = some u := by simpa using h
  simp [h']
/-- append as one step of a region that draws, out of its run. -/
theorem step_append_at {P : Program} {ops : Array Oper} {o : Oper} {a : Act} {w : World} {K : Act → World → Prop} {Q : Exit → Act → World → Prop} {E : Prop} (hgd : o.guard = none) (s x : Operand) (t : TypeId)
    (ho : o.op = .call { callee := .builtin .append, args := #[s, x], argTypes := #[t, t] }) (u v v' : Value) (w' : World) (hs : a.eval s = u) (hx : a.eval x = v) (hrun : (Builtin.append_ #[t, t] o.type #[u, v]).run P w = .ok v' w')
    (h : K (a.put o.dst v') w') :
    if Region.wanted o (yielded ops a.tmps) = true then Oper.wp P o a w K Q else E := by
  have hw : Region.wanted o (yielded ops a.tmps) = true := by simp [Region.wanted, hgd]
  rw [if_pos hw]
  unfold Oper.wp execOp
  simp only [ho, resolve, invoke, builtin, Sem.run_bind, Sem.run_pure, Result.andThen_ok, List.map_toArray, List.map_cons, List.map_nil, hs, hx, hrun]
  exact h
set_option maxRecDepth 100000 in
set_option maxHeartbeats 8000000 in
theorem refPut_walk {w : World} {g base : Nat} {b : Sn} {N : Nat → ByteArray} {X : Nat → Xc} {v : Value} (K : RefAt w g base b N X v) (s : ByteArray) (hs : s.size ≤ 300) (xo : ByteArray) (xq xp : Int) (xk : Bool) : Calls Try.prog 10 #[.pointer (some ⟨g, 0, none⟩), .string s, .agg #[.string xo, .int .i64 xq, .int .i64 xp, .bool xk]] w fun e w' => e = .returned (.int .i64 (putE b s)) ∧ RefOk w w' g base v (putS b s ⟨xo, xq, xp, xk⟩) := by
  have B0 : Below w.heap.size w (w.alloc (.cells #[.string xo, .int .i64 xq, .int .i64 xp, .bool xk] 39)) := (Below.refl _ _).alloc (Nat.le_refl _) _
  have HK0 : Hid (RefAt w g base b N X v) := K
  have HX : Hid (Box4 (w.alloc (.cells #[.string xo, .int .i64 xq, .int .i64 xp, .bool xk] 39)) w.heap.size ⟨xo, xq, xp, xk⟩) := Box4.new w ⟨xo, xq, xp, xk⟩ _
  have HB : Hid (Below w.heap.size w (w.alloc (.cells #[.string xo, .int .i64 xq, .int .i64 xp, .bool xk] 39))) := B0
  have V := refValid_any s (w.alloc (.cells #[.string xo, .int .i64 xq, .int .i64 xp, .bool xk] 39)) hs
  clear K B0
  cases hv : vldB s
  · rw [put_name hv, putS_no (by rw [put_name hv]; omega)]
    rw [hv] at V
    clear hv
    go_enter Try.func10, Try.ntmps10
    go_wp2_with fail
    refine V.mono ?_
    rintro e w1 ⟨rfl, hb⟩
    have HB1 : Hid (Below w.heap.size w w1) := HB.out.trans (hb.mono HB.out.size)
    clear V hb HX HB
    go_wp2_with fail
    go_ret
    exact ⟨rfl, HK0.out.same HB1.out⟩
  rw [hv] at V
  obtain ⟨E, hE⟩ : ∃ E, Hid (putE b s = E) := ⟨_, rfl⟩
  obtain ⟨b', hb'⟩ : ∃ b', Hid (putS b s ⟨xo, xq, xp, xk⟩ = b') := ⟨_, rfl⟩
  rw [hE.out, hb'.out]
  have HV : Hid (vldB s = true) := hv
  clear hv
  go_enter Try.func10, Try.ntmps10
  go_wp2_with fail
  refine V.mono ?_
  rintro e w1 ⟨rfl, hb⟩
  have HB1 : Hid (Below w.heap.size w w1) := HB.out.trans (hb.mono HB.out.size)
  have HK1 : Hid (RefAt w1 g base b N X v) := HK0.out.below HB1.out
  have HX1 : Hid (Box4 w1 w.heap.size ⟨xo, xq, xp, xk⟩) := HX.out.below hb
  clear V hb HX HB
  have G := refFind_any HK1.out s
  go_wp2_with fail
  refine G.mono ?_
  rintro e w2 ⟨⟨z, rfl, hz⟩, rfl⟩
  clear G
  rcases hz with ⟨i, rfl, hi, hN⟩ | ⟨rfl, hN⟩
  · have t0 : (0 : Int) ≤ (i : Int) := by omega
    have e1 : putE b s = 41 := put_twice HV.out (by rw [← hN, HK0.out.rel.hit i hi]; rfl)
    have HR : Hid (E = 41 ∧ b' = b) := ⟨hE.out ▸ e1, by rw [← hb'.out]; exact putS_no (by rw [e1]; omega)⟩
    clear hN hi e1
    go_wp2_with fail
    go_ret
    rw [HR.out.1, HR.out.2]
    exact ⟨rfl, HK0.out.same HB1.out⟩
  have h1 : (b.L s).isSome = false := by rw [HK0.out.rel.miss s hN]; rfl
  have HN : Hid (∀ i, i < b.c → N i ≠ s) := hN
  clear hN
  have c0 := HK1.out.c0
  have c1 := HK1.out.c1
  obtain ⟨a, cap, rfl⟩ := own_shape HK1.out.own
  have t1 : (b.c : Int) ≤ 4096 := by have := HK1.out.good.c1; have := HK1.out.good.r2; omega
  have t2 : (b.r : Int) ≤ 4096 := by have := HK1.out.good.r2; omega
  by_cases h2 : b.r ≤ b.c
  · have e1 : putE b s = 40 := put_full HV.out h1 h2
    have HR : Hid (E = 40 ∧ b' = b) := ⟨hE.out ▸ e1, by rw [← hb'.out]; exact putS_no (by rw [e1]; omega)⟩
    clear h1 e1
    go_wp2_with fail
    go_region
    go_wp2_with fail
    go_ret
    rw [HR.out.1, HR.out.2]
    exact ⟨rfl, HK0.out.same HB1.out.drew⟩
  have e1 : putE b s = 0 := put_ok HV.out h1 h2
  have HR : Hid (E = 0 ∧ b' = ⟨b.r, b.c + 1, setL b.L s ⟨xo, xq, xp, false⟩⟩) := ⟨hE.out ▸ e1, by rw [← hb'.out]; exact putS_ok e1⟩
  have HC : Hid (b.c < b.r) := by show b.c < b.r; omega
  clear h1 e1
  go_wp2_with fail
  go_region
  have HB3 : Hid (Below w.heap.size w w2.drew) := HB1.out.drew
  have HK3 : Hid (RefAt w2.drew g base b N X (.slice a b.c cap)) := HK1.out.below (below_drewN _ 1 w2)
  have HX3 : Hid (Box4 w2.drew w.heap.size ⟨xo, xq, xp, xk⟩) := HX1.out.below (below_drewN _ 1 w2)
  clear HB1 HK1 HX1 c0 c1
  generalize w2.drew = w3 at *
  obtain ⟨d0, d1, d2, d3, _, _, _, f3⟩ := HX3.out
  simp only at d0 d1 d2 d3
  obtain ⟨w4, hw4⟩ : ∃ w4, w4 = w3.setCell ⟨w.heap.size, 3, none⟩ (.bool false) := ⟨_, rfl⟩
  have q0 : w4.cell? ⟨w.heap.size, 0, none⟩ = some (.string xo) := by rw [hw4, World.cell?_setCell_other]; exact d0; simp
  have q1 : w4.cell? ⟨w.heap.size, 1, none⟩ = some (.int .i64 xq) := by rw [hw4, World.cell?_setCell_other]; exact d1; simp
  have q2 : w4.cell? ⟨w.heap.size, 2, none⟩ = some (.int .i64 xp) := by rw [hw4, World.cell?_setCell_other]; exact d2; simp
  have q3 : w4.cell? ⟨w.heap.size, 3, none⟩ = some (.bool false) := by rw [hw4]; exact World.cell?_setCell_same _ _ _ d3
  have LW := HK0.out.lt
  have B4 : Below w.heap.size w w4 := by rw [hw4]; exact HB3.out.setCell (Nat.le_refl _) _
  have K4 : RefAt w4 g base b N X (.slice a b.c cap) := HK0.out.below B4
  have HB4 : Hid (Below w.heap.size w w4) := B4
  have HW3 : Hid (w4 = w3.setCell ⟨w.heap.size, 3, none⟩ (.bool false)) := hw4
  have L4 : w.heap.size < w4.heap.size := World.block_lt_of_cell? _ _ q0
  clear hw4 HX3 HK3 HB3
  go_upto_region 8 with fail
  rw [← HW3.out]
  clear d0 d1 d2 d3 f3 HW3
  have k1 := K4.c1
  have kf := K4.f1
  have lg := K4.lt
  obtain ⟨i0, hi0, hz0, hzs, hzb⟩ := info_parts infoN
  obtain ⟨w5, hw5⟩ : ∃ w5, w5 = (w4.alloc (.cells #[.string s, .string xo, .int .i64 xq, .int .i64 xp, .bool false] 45)).drew := ⟨_, rfl⟩
  have B45 : Below w4.heap.size w4 w5 := by rw [hw5]; exact below_more ((Below.refl _ w4).alloc (Nat.le_refl _) _) 1
  have K5 := K4.below B45
  have hcn : ∀ j u, (cellsN s ⟨xo, xq, xp, false⟩)[j]? = some u → w5.cell? ((⟨w4.heap.size, 0, none⟩ : Addr).add j) = some u := by rw [hw5]; exact cell_news w4 #[.string s, .string xo, .int .i64 xq, .int .i64 xp, .bool false] 45
  obtain ⟨v6, w6, hr, hown6, hg6, _, hat6⟩ := run_append_own_at (P := Try.prog) w5 base 30 30 45 i0 _ 5 56 Try.underlying30 hi0 hz0 hzs hzb rfl (by decide) _ b.c (allN N X b.c) K5.own ⟨w4.heap.size, 0, none⟩ 1 1 (cellsN s ⟨xo, xq, xp, false⟩) rfl hcn (cellsN_one _ _) (by unfold maxLen; omega) (by omega) K5.hi
  have BG := But.of_grown hg6
  have ng : ¬ (Value.slice a b.c cap).ownBlock = some g := fun e => by have := (K5.own.lt g e).1; have := K5.lo; omega
  have x0' := (BG.cell (o := 0) K5.lt ng).trans K5.c0
  have x1 := (BG.cell (o := 1) K5.lt ng).trans K5.c1
  have y1 := (BG.frozen (o := 1) K5.lt ng).trans K5.f1
  have B5 : Below w.heap.size w w5 := B4.trans (B45.mono B4.size)
  have O6 : w6.ownsRow base 45 5 v6 (b.c + 1) (allN (upd N b.c s) (upd X b.c ⟨xo, xq, xp, false⟩) (b.c + 1)) := by rw [allN_more]; exact hown6
  have nv : v6.ownBlock ≠ some g := fun e => by have := (O6.lt g e).1; have := K5.lo; omega
  have HK7 : Hid (RefAt (w6.setCell ⟨g, 1, none⟩ v6) g base ⟨b.r, b.c + 1, setL b.L s ⟨xo, xq, xp, false⟩⟩ (upd N b.c s) (upd X b.c ⟨xo, xq, xp, false⟩) v6) := by
    have k := (But.refl (fun k => k = g) w6).setCell g 1 v6 (fun _ => rfl)
    refine ⟨by rw [World.cell?_setCell_other _ _ _ _ (by simp)]; exact x0', World.cell?_setCell_same' _ _ _ (by rw [x1]; rfl), by rw [World.frozen?_setCell]; exact y1, own_kept O6 k (fun q hq e => nv (by rw [hq, e])), K5.lo, Nat.le_trans K5.hi (by have := BG.size; have := k.size; omega), ⟨K5.good.r1, K5.good.r2, HC.out⟩, K5.rel.put HN.out b.r⟩
  have HF7 : Hid (But (ownR g (.slice a b.c cap)) w (w6.setCell ⟨g, 1, none⟩ v6)) := ((But.of_below B5).trans BG (fun i _ e => .inr e)).setCell g 1 v6 (fun _ => .inl rfl)
  obtain ⟨a6, cap6, rfl⟩ := own_shape O6
  have k5 := K5.c1
  rw [hw5] at hr k5
  clear K5 K4 B4 B5 B45 hcn hown6 hg6 hat6 BG hw5 O6 HN ng nv x0'
  have HRn : Hid ((Builtin.append_ #[30, 30] 30 #[.slice a b.c cap, .slice (some ⟨w4.heap.size, 0, none⟩) 1 1]).run Try.prog (w4.alloc (.cells #[.string s, .string xo, .int .i64 xq, .int .i64 xp, .bool false] 45)).drew = .ok (.slice a6 (b.c + 1) cap6) w6) := hr
  clear hr
  go_region_law (refine step_append_at rfl (.tmp 29) (.tmp 33) 30 rfl (.slice a b.c cap) (.slice (some ⟨w4.heap.size, 0, none⟩) 1 1) (.slice a6 (b.c + 1) cap6) w6 rfl rfl HRn.out ?_)
  all_goals (
    go_wp2_with fail
    go_ret
    rw [HR.out.1, HR.out.2]
    exact ⟨rfl, _, _, _, HK7.out, HF7.out⟩)
theorem refPut_any {w : World} {g base : Nat} {b : Sn} {N : Nat → ByteArray} {X : Nat → Xc} {v : Value} (K : RefAt w g base b N X v) (s : ByteArray) (hs : s.size ≤ 300) (x : Xc) : Calls Try.prog 10 #[.pointer (some ⟨g, 0, none⟩), .string s, exV x] w fun e w' => e = .returned (.int .i64 (putE b s)) ∧ RefOk w w' g base v (putS b s x) := refPut_walk K s hs x.o x.q x.p x.k
end Go.Proofs.Ythkohopnoifibaa.SE
