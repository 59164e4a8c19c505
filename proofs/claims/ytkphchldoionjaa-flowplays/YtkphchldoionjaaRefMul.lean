/-
  A slice of bits appended to one of the call's own, whatever the source; contract of the reference's Mul: products of whole numbers of any length.
-/
import Derived.Test.YtkphchldoionjaaRefAdd
namespace Go.Proofs.Ytkphchldoionjaa
open Go.ChangeShapes Go.WideShapes Go.ChangeAt Go.RowKit

/-- Nothing is appended. -/
theorem run_append_none {P : Program} (w : World) (base : Nat) (t ty e : TypeId) (i : TypeInfo) (size : Nat) (ht : P.underlying t = some (.slice e)) (hi : P.info? e = some i)
    (v : Value) (n : Nat) (xs : List Value) (hown : w.ownsRow base e size v n xs) (c : Nat) : (Builtin.append_ #[t, t] ty #[v, .slice none 0 c]).run P w = .ok v w := by
  rcases hown.2 with ⟨rfl, rfl⟩ | ⟨g, cap, cur, rfl, hbg, hg, hnc, hcm, hcs, htake⟩
  · simp [Builtin.append_, run_underlying ht, sizeOf, typeInfo, hi, Builtin.lenOf, Builtin.firstCells]
  · simp [Builtin.append_, run_underlying ht, sizeOf, typeInfo, hi, Builtin.lenOf, Builtin.firstCells, hnc, storeCells]
theorem wpList_append_none {P : Program} {w : World} {ops : Array Oper} {rest : List Oper} {o : Oper} {a : Act} {Q : Exit → Act → World → Prop} (hgd : o.guard = none) (s x : Operand) (t : TypeId)
    (ho : o.op = .call { callee := .builtin .append, args := #[s, x], argTypes := #[t, t] }) (v u : Value) (hs : a.eval s = v) (hx : a.eval x = u)
    (hr : ∀ ty, (Builtin.append_ #[t, t] ty #[v, u]).run P w = .ok v w) (h : wpList P ops Q rest (a.put o.dst v) w) : wpList P ops Q (o :: rest) a w :=
  wpList_plain hgd fun K hK => by
    unfold Oper.wp execOp
    simp only [ho, resolve, invoke, builtin, Sem.run_bind, Sem.run_pure, Result.andThen_ok, List.map_toArray, List.map_cons, List.map_nil, hs, hx, hr]
    exact hK _ _ h
theorem grown_refl (w : World) (row : Option Nat) : w.grownBy w row := ⟨rfl, rfl, rfl, Nat.le_refl _, fun _ _ _ => rfl⟩
/-- Bits are appended, from wherever they are read. -/
theorem wpList_append_bits {w : World} {ops : Array Oper} {rest : List Oper} {o : Oper} {a : Act} {Q : Exit → Act → World → Prop} (hgd : o.guard = none) (s x : Operand)
    (ho : o.op = .call { callee := .builtin .append, args := #[s, x], argTypes := #[56, 56] }) (base C : Nat) (v u : Value) (k l : List Bool) (hs : a.eval s = v) (hx : a.eval x = u)
    (hown : w.ownsRow base 4 1 v k.length (k.map Value.bool)) (hu : Reads C w u l) (hk : k.length ≤ 1000000) (hl : l.length ≤ 1000000) (hbase : base ≤ w.heap.size)
    (h : ∀ v' w', w'.ownsRow base 4 1 v' (k ++ l).length ((k ++ l).map Value.bool) → w.grownBy w' v.ownBlock → wpList Try.prog ops Q rest (a.put o.dst v') w') : wpList Try.prog ops Q (o :: rest) a w := by
  obtain ⟨i0, hi, hz0, hz1, hz2⟩ := info_parts Try.infoBool
  obtain ⟨ad, cap, rfl, h1, h2, h3⟩ := hu
  cases ad with
  | none =>
    have hl0 : l = [] := by
      cases l with
      | nil => rfl
      | cons b l => obtain ⟨_, _, e, _⟩ := h3 0 (by simp); cases e
    subst hl0
    refine wpList_append_none hgd s x _ ho v _ hs hx (fun ty => run_append_none w base _ ty _ i0 1 Try.underlying56 hi v _ _ hown cap) (h v w ?_ (grown_refl _ _))
    simpa using hown
  | some ad =>
    refine wpList_append_own _ hgd s x _ ho base _ i0 (.bool false) 1 1 Try.underlying56 hi hz0 hz1 hz2 rfl (by decide) v _ _ hs hown ad l.length cap (l.map Value.bool) hx (by simp) ?_ (bits_one l) (by unfold maxLen; omega) (by omega) hbase ?_
    · intro j b hj
      rcases List.getElem?_eq_some_iff.1 hj with ⟨hlt, rfl⟩
      have hlt' : j < l.length := by simpa using hlt
      obtain ⟨bl, off, e, _, hc⟩ := h3 j hlt'
      simp only [Option.some.injEq] at e
      subst e
      have e2 : (⟨bl, off, none⟩ : Addr).add j = ⟨bl, off + j, none⟩ := by unfold Addr.add; split <;> simp_all
      rw [e2, hc]
      simp [hlt']
    · intro v' w' hown' hgrow _
      exact h v' w' (by simpa using hown') hgrow
theorem owns_one (w : World) (base : Nat) (b : Bool) (hb : base ≤ w.heap.size) : (w.alloc (.cells #[.bool b] 4)).ownsRow base 4 1 (.slice (some ⟨w.heap.size, 0, none⟩) 1 1) [b].length ([b].map Value.bool) :=
  ⟨by simp, .inr ⟨w.heap.size, 1, #[.bool b], rfl, hb, heap_alloc_new _ _, by simp, by unfold maxLen; omega, by simp, by simp⟩⟩
theorem val_zeros (k : Nat) (l : List Bool) : val (List.replicate k false ++ l) = 2 ^ k * val l := by
  rw [val_append]
  have : val (List.replicate k false) = 0 := val_falses _ (fun i hi => by
    have hi' : i < k := by simpa using hi
    simp [hi'])
  simp [this]

theorem three_cells (w : World) (x0 x1 y0 y1 z0 z1 : Value) (T : TypeId) :
    let W := ((w.alloc (.cells #[x0, x1] T)).alloc (.cells #[y0, y1] T)).alloc (.cells #[z0, z1] T)
    W.cell? ⟨w.heap.size, 0, none⟩ = some x0 ∧ W.cell? ⟨w.heap.size, 1, none⟩ = some x1 ∧ W.cell? ⟨w.heap.size + 1, 0, none⟩ = some y0 ∧ W.cell? ⟨w.heap.size + 1, 1, none⟩ = some y1 ∧
      W.cell? ⟨w.heap.size + 1 + 1, 0, none⟩ = some z0 ∧ W.cell? ⟨w.heap.size + 1 + 1, 1, none⟩ = some z1 ∧ W.frozen? ⟨w.heap.size + 1 + 1, 0, none⟩ = false ∧ W.frozen? ⟨w.heap.size + 1 + 1, 1, none⟩ = false := by
  intro W
  refine ⟨?_, ?_, ?_, ?_, ?_, ?_, ?_, ?_⟩ <;> (show _ = _; simp only [W]; go_simp)
set_option maxHeartbeats 2000000 in
theorem mulL_any {B C : Nat} (s t : Bool) (va vb : Value) (x y : List Bool) (w : World) (hv : Reads B w va x) (hu : Reads C w vb y) (hx : x.length ≤ 10000) (hy : y.length ≤ 10000) :
    Calls Try.prog 28 #[.agg #[.bool s, va], .agg #[.bool t, vb]] w fun e w' => ∃ v', e = .returned (.agg #[.bool ((s != t) && !decide (val x * val y = 0)), v']) ∧ Below w.heap.size w w' ∧ ∃ l, Reads w.heap.size w' v' l ∧ Canon l ∧ val l = val x * val y ∧ l.length ≤ x.length + y.length := by
  obtain ⟨a, ca, rfl, _⟩ := id hv
  obtain ⟨b, cb, rfl, k1, k2, hcell⟩ := id hu
  go_enter Try.func28, Try.ntmps28
  go_upto_region 3 with fail
  obtain ⟨W, hW⟩ : ∃ W, Hid (W = ((w.alloc (.cells #[.bool s, .slice a x.length ca] 58)).alloc (.cells #[.bool t, .slice b y.length cb] 58)).alloc (.cells #[.bool false, .slice none 0 0] 58)) := ⟨_, rfl⟩
  have HWs : Hid (W.heap.size = w.heap.size + 1 + 1 + 1) := by show _ = _; rw [hW.out]; simp
  have hWb : Below w.heap.size w W := by rw [hW.out]; exact three_new _ _ _ _
  obtain ⟨d0, d1, d2, d3, d4, d5, d6, d7⟩ := three_cells w (.bool s) (.slice a x.length ca) (.bool t) (.slice b y.length cb) (.bool false) (.slice none 0 0) 58
  rw [← hW.out] at d0 d1 d2 d3 d4 d5 d6 d7
  rw [← hW.out]
  go_cut [6] from 9 to 43 (fun sh wx => Reads 0 wx sh x ∧ Below W.heap.size W wx)
  case first =>
    go_wp2_with (at_builtin; refine wpList_append_bits rfl _ _ rfl W.heap.size B _ _ [] x rfl rfl (World.ownsRow_nil _ _ _ _) (hv.below hWb) (by simp) (by omega) (Nat.le_refl _) ?_)
    intro v' w' hown hgrow
    have hR := (reads_of_owns hown).mono (Nat.zero_le _)
    have hB := (Below.refl W.heap.size W).grown hgrow (Nat.le_refl _) (fun k hk => by cases hk)
    clear hown hgrow
    go_wp2_with fail
    go_meet
    case rel => exact ⟨hR, hB⟩
  case rest =>
    obtain ⟨hR0, hB0⟩ := hcut
    go_wp2_with fail
    go_loopw [5, 6, 7] (fun o sh i wr => ∃ (k : Nat) (lo : List Bool), i = .int .i64 (k : Int) ∧ k ≤ y.length ∧ Reads W.heap.size wr o lo ∧ Canon lo ∧ lo.length ≤ x.length + k ∧ Hid (val lo = val x * val (y.take k)) ∧ Reads 0 wr sh (List.replicate k false ++ x) ∧ Below W.heap.size W wr) (fun _ _ i _ => y.length - (intOf i).toNat)
    case atStart => exact ⟨0, [], rfl, Nat.zero_le _, reads_nil _ _, canon_nil, by simp, by show _ = _; simp [val], hR0, hB0⟩
    case round =>
      clear hR0 hB0
      obtain ⟨k, lo, rfl, hk, hRo, hcan, hlen, hval, hRs, hB⟩ := hrel
      have hWs := HWs.out
      have e3 := (hB.cell (p := ⟨w.heap.size + 1, 1, none⟩) (by simp; omega)).trans d3
      have e0 := (hB.cell (p := ⟨w.heap.size, 0, none⟩) (by simp; omega)).trans d0
      have e2 := (hB.cell (p := ⟨w.heap.size + 1, 0, none⟩) (by simp; omega)).trans d2
      have e4 := (hB.cell (p := ⟨w.heap.size + 1 + 1, 0, none⟩) (by simp; omega)).trans d4
      have e5 := (hB.cell (p := ⟨w.heap.size + 1 + 1, 1, none⟩) (by simp; omega)).trans d5
      have e6 := (hB.frozen (p := ⟨w.heap.size + 1 + 1, 0, none⟩) (by simp; omega)).trans d6
      have e7 := (hB.frozen (p := ⟨w.heap.size + 1 + 1, 1, none⟩) (by simp; omega)).trans d7
      clear hWs
      by_cases hlt : k < y.length
      · have tk : (k : Int) < (y.length : Int) := by omega
        obtain ⟨bl, off, rfl, _, hc⟩ := hcell k hlt
        have hc1 := (hWb.cell (World.block_lt_of_cell? _ _ hc)).trans hc
        have hc2 := (hB.cell (World.block_lt_of_cell? _ _ hc1)).trans hc1
        have hnext := val_take_next y k
        have HN : Hid (val (y.take (k + 1)) = val (y.take k) + 2 ^ k * (y.getD k false).toNat) := hnext
        have hs := hB.size
        obtain ⟨bit, hbit⟩ : ∃ bit, Hid (y.getD k false = bit) := ⟨_, rfl⟩
        rw [hbit.out] at hc2 HN
        clear hc hc1 hnext hcell
        obtain ⟨a6, n6, c6, rfl⟩ : ∃ a n c, u6 = Value.slice a n c := by
          obtain ⟨a6, c6, e, _⟩ := hRs
          exact ⟨a6, _, c6, e⟩
        obtain ⟨a5, n5, c5, rfl⟩ : ∃ a n c, u5 = Value.slice a n c := by
          obtain ⟨a5, c5, e, _⟩ := hRo
          exact ⟨a5, _, c5, e⟩
        go_upto_if 24 with fail
        go_cut [5] from 13 to 31 (fun o wx => ∃ lo', Reads W.heap.size wx o lo' ∧ Canon lo' ∧ lo'.length ≤ x.length + (k + 1) ∧ Hid (val lo' = val x * val (y.take (k + 1))) ∧ Below W.heap.size W wx ∧ Below wr.heap.size wr wx)
        case first =>
          cases bit
          · go_wp2_with fail
            go_meet
            case rel => exact ⟨lo, hRo, hcan, by omega, by have := HN.out; show val lo = _; rw [this, hval.out]; simp, hB, Below.refl _ _⟩
          · go_wp2_with fail
            refine (plusR_any lo (List.replicate k false ++ x) _ _ _ hRo hRs (by omega) (by simp; omega)).mono ?_
            rintro e w4 ⟨v', rfl, hb4, l', p1, p2, p3, p4⟩
            go_wp2_with fail
            go_meet
            case rel => exact ⟨l', p1.mono hs, p2, by simp at p4; omega, by have := HN.out; show val l' = _; rw [this, p3, hval.out, val_zeros]; simp [Nat.mul_add, Nat.mul_comm], hB.trans (hb4.mono hs), hb4⟩
        case rest =>
          obtain ⟨lo', q1, q2, q3, q4, q5, q6⟩ := hcut
          have hRs2 := hRs.below q6
          have hs2 := q5.size
          clear hRs hRo hB hs e0 e2 e3 e4 e5 e6 e7 hc2 q6 hval hcan
          go_wp2_with (at_builtin; refine wpList_append_bits rfl _ _ rfl W.heap.size 0 _ _ [false] (List.replicate k false ++ x) rfl rfl (owns_one wc W.heap.size false hs2) (hRs2.below ?_) (by simp) (by simp; omega) (by simp; omega) ?_)
          · exact (Below.refl _ _).alloc (Nat.le_refl _) _
          intro v' w' hown hgrow
          have hg : Below wc.heap.size wc w' := ((Below.refl _ _).alloc (Nat.le_refl _) _).grown hgrow (by simp) (fun j hj => by simp [Value.ownBlock] at hj; omega)
          have hown2 : w'.ownsRow W.heap.size 4 1 v' (List.replicate (k + 1) false ++ x).length ((List.replicate (k + 1) false ++ x).map Value.bool) := by
            have e1 : (List.replicate (k + 1) false ++ x).map Value.bool = Value.bool false :: (List.replicate k (Value.bool false) ++ x.map Value.bool) := by simp [List.replicate_succ]
            have e2 : (List.replicate (k + 1) false ++ x).length = k + x.length + 1 := by simp; omega
            rw [e1, e2]; exact hown
          have hR9 := (reads_of_owns hown2).mono (Nat.zero_le W.heap.size)
          have hRo9 := q1.below hg
          have hB9 := q5.trans (hg.mono hs2)
          clear hown hgrow
          go_wp2_with fail
          go_roundw
          case rel => exact ⟨k + 1, lo', by simp, by omega, hRo9, q2, q3, q4, hR9, hB9⟩
          case measure => simp [intOf]; omega
      · have tk : ¬ (k : Int) < (y.length : Int) := by omega
        have hval2 : Hid (val lo = val x * val y) := by
          have := hval.out
          rw [take_all y k (by omega)] at this
          exact this
        obtain ⟨a5, c5, rfl, _⟩ := id hRo
        obtain ⟨ld, hld⟩ : ∃ ld, decide ((0 : Int) < (lo.length : Int)) = ld := ⟨_, rfl⟩
        have HD : Hid ((!decide (val x * val y = 0)) = ld) := by
          show _ = _
          rw [← hld, ← hval2.out]
          rcases Nat.eq_zero_or_pos lo.length with h | h
          · have := (canon_zero lo hcan).1 (List.eq_nil_of_length_eq_zero h)
            rw [h, this]; rfl
          · have : ¬ val lo = 0 := fun e => by have := (canon_zero lo hcan).2 e; rw [this] at h; simp at h
            simp [h, this]
        clear hval hcell
        cases hst : (s != t)
        · have hst' : (!(s == t)) = false := hst
          have HST : Hid ((s != t) = false) := hst
          clear hst
          go_wp2_with fail
          refine bodyPost_ret (v := .agg #[.bool false, .slice a5 lo.length c5]) (by simp [results, Try.results28, go_sem, e4, e5]) rfl ⟨_, by rw [HST.out, Bool.false_and], ?_, lo, ?_, hcan, hval2.out, by omega⟩
          · exact ((hWb.trans (hB.mono hWb.size)).setCell (by simp; omega) _).setCell (by simp; omega) _
          · exact ((hRo.setCell (by have := HWs.out; simp; omega) _).setCell (by have := HWs.out; simp; omega) _).mono hWb.size
        · have hst' : (!(s == t)) = true := hst
          have HST : Hid ((s != t) = true) := hst
          clear hst
          cases ld
          · have hnil : Hid (lo = []) := List.eq_nil_of_length_eq_zero (by simpa using hld)
            go_wp2_with fail
            refine bodyPost_ret (v := .agg #[.bool false, .slice a5 lo.length c5]) (by simp [results, Try.results28, go_sem, e4, e5]; exact hnil.out) rfl ⟨_, by rw [HST.out, Bool.true_and, HD.out], ?_, lo, ?_, hcan, hval2.out, by omega⟩
            · exact ((hWb.trans (hB.mono hWb.size)).setCell (by simp; omega) _).setCell (by simp; omega) _
            · exact ((hRo.setCell (by have := HWs.out; simp; omega) _).setCell (by have := HWs.out; simp; omega) _).mono hWb.size
          · have hnil : Hid (0 < lo.length) := by show 0 < lo.length; simpa using hld
            go_wp2_with fail
            refine bodyPost_ret (v := .agg #[.bool true, .slice a5 lo.length c5]) (by simp [results, Try.results28, go_sem, e4, e5]; exact hnil.out) rfl ⟨_, by rw [HST.out, Bool.true_and, HD.out], ?_, lo, ?_, hcan, hval2.out, by omega⟩
            · exact ((hWb.trans (hB.mono hWb.size)).setCell (by simp; omega) _).setCell (by simp; omega) _
            · exact ((hRo.setCell (by have := HWs.out; simp; omega) _).setCell (by have := HWs.out; simp; omega) _).mono hWb.size

theorem sign_mul (x y : Int) : ((decide (x < 0) != decide (y < 0)) && !decide ((x * y).natAbs = 0)) = decide (x * y < 0) := by
  by_cases cx : x < 0
  · by_cases cy : y < 0
    · have h := Int.mul_pos_of_neg_of_neg cx cy
      rw [decide_eq_true cx, decide_eq_true cy, decide_eq_false (show ¬ x * y < 0 by omega)]; rfl
    · by_cases c0 : y = 0
      · subst c0; simp
      · have h := Int.mul_neg_of_neg_of_pos cx (show 0 < y by omega)
        rw [decide_eq_true cx, decide_eq_false cy, decide_eq_true h, decide_eq_false (show ¬ (x * y).natAbs = 0 by omega)]; rfl
  · by_cases cy : y < 0
    · by_cases c0 : x = 0
      · subst c0; simp
      · have h := Int.mul_neg_of_pos_of_neg (show 0 < x by omega) cy
        rw [decide_eq_false cx, decide_eq_true cy, decide_eq_true h, decide_eq_false (show ¬ (x * y).natAbs = 0 by omega)]; rfl
    · have h := Int.mul_nonneg (show 0 ≤ x by omega) (show 0 ≤ y by omega)
      rw [decide_eq_false cx, decide_eq_false cy, decide_eq_false (show ¬ x * y < 0 by omega)]; rfl
theorem mulR_any {B C : Nat} (s t : Bool) (va vb : Value) (x y : Int) (n m : Nat) (w : World) (hv : IsNum B w s va x n) (hu : IsNum C w t vb y m) (hn : n ≤ 10000) (hm : m ≤ 10000) :
    Calls Try.prog 28 #[.agg #[.bool s, va], .agg #[.bool t, vb]] w fun e w' => ∃ r v', e = .returned (.agg #[.bool r, v']) ∧ Below w.heap.size w w' ∧ IsNum w.heap.size w' r v' (x * y) (n + m) := by
  obtain ⟨hs, l, h1, h2, h3, h4⟩ := hv
  obtain ⟨ht, k, k1, k2, k3, k4⟩ := hu
  refine (mulL_any s t va vb l k w h1 k1 (by omega) (by omega)).mono ?_
  rintro e w' ⟨v', rfl, hb, q, q1, q2, q3, q4⟩
  refine ⟨_, _, rfl, hb, ?_, q, q1, q2, ?_, by omega⟩
  · rw [h3, k3, hs, ht, ← Int.natAbs_mul]
    exact sign_mul x y
  · rw [q3, h3, k3, Int.natAbs_mul]
end Go.Proofs.Ytkphchldoionjaa
