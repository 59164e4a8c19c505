/-
  Contracts of the reference's Asked and Split.
-/
import Derived.Test.YtbjibmfehphffaaRoRefRank
import Derived.Test.YtbjibmfehphffaaRoRefMath
import Derived.Deep.RegionLaw
namespace Go.Proofs.Ytbjibmfehphffaa.RO
open Go.ChangeShapes Go.WideShapes Go.ChangeAt Go.RowKit

set_option maxHeartbeats 1000000 in
theorem asked_any (qty lot : Int) (n : Nat) (L : Nat → Of) (v : Value) (w : World) (h : RowL w v n L) (hn : n ≤ 1000) :
    Calls Try.prog 15 #[.int .i64 qty, .int .i64 lot, v] w fun e w' => e = .returned (.int .i64 (spE qty lot n L)) ∧ w = w' := by
  have F1 := fun w => inR_any qty 0 1099511627776 w
  have F2 := fun w => inR_any lot 1 1099511627776 w
  obtain ⟨a, cap, rfl, hcap, hc⟩ := id h
  obtain ⟨E, hE⟩ : ∃ E : Int, spE qty lot n L = E := ⟨_, rfl⟩
  rw [hE]
  unfold spE at hE
  generalize inB qty 0 1099511627776 = p at *
  generalize inB lot 1 1099511627776 = q at *
  cases p
  · rw [if_pos (by simp)] at hE
    subst hE
    clear h hc
    go_enter Try.func15, Try.ntmps15
    go_wp2_with fail
    refine (F1 _).mono ?_
    rintro e w1 ⟨rfl, rfl⟩
    go_wp2_with fail
    go_ret
    exact ⟨rfl, rfl⟩
  · cases q
    · rw [if_pos (by simp)] at hE
      subst hE
      clear h hc
      go_enter Try.func15, Try.ntmps15
      go_wp2_with fail
      refine (F1 _).mono ?_
      rintro e w1 ⟨rfl, rfl⟩
      go_wp2_with fail
      refine (F2 _).mono ?_
      rintro e w1 ⟨rfl, rfl⟩
      go_wp2_with fail
      go_ret
      exact ⟨rfl, rfl⟩
    · have HE : Hid (E = if anyW L n = true then 2 else if 8 < n then 3 else 0) := by show _ = _; rw [← hE]; simp
      clear hE h
      go_enter Try.func15, Try.ntmps15
      go_wp2_with fail
      refine (F1 _).mono ?_
      rintro e w1 ⟨rfl, rfl⟩
      go_wp2_with fail
      refine (F2 _).mono ?_
      rintro e w1 ⟨rfl, rfl⟩
      clear F1 F2
      go_wp2_with fail
      go_loopw [7] (fun x wr => ∃ i : Nat, x = .int .i64 (i : Int) ∧ i ≤ n ∧ Hid (anyW L i = false) ∧ w = wr) (fun x _ => n - (RowKit.intOf x).toNat)
      case atStart => exact ⟨0, rfl, Nat.zero_le _, rfl, rfl⟩
      case round =>
        obtain ⟨i, rfl, hi, hf, rfl⟩ := hrel
        by_cases hlt : i < n
        · have t : (i : Int) < (n : Int) := by omega
          obtain ⟨b, o, rfl, c⟩ := hc i hlt
          have HN : Hid (anyW L (i + 1) = wrongB (L i)) := by show _ = _; rw [anyW, hf.out, Bool.false_or]
          have HT : Hid (wrongB (L i) = true → anyW L n = true) := fun k => anyW_true hlt k
          obtain ⟨x, hx⟩ : ∃ x, L i = x := ⟨_, rfl⟩
          rw [hx] at c HN HT
          clear hx hc
          obtain ⟨x0, x1, x2, x3, x4⟩ := x
          obtain ⟨c0, c1, c2, c3, c4⟩ := c.all
          clear c
          simp only at c0 c1 c2 c3 c4
          have F1 := fun w => inR_any x1 1 1099511627776 w
          have F2 := fun w => inR_any x2 0 10000 w
          have F3 := fun w => inR_any x3 0 1099511627776 w
          have HW : Hid (wrongB ⟨x0, x1, x2, x3, x4⟩ = (!inB x1 1 1099511627776 || (!inB x2 0 10000 || !inB x3 0 1099511627776))) := rfl
          generalize inB x1 1 1099511627776 = p at *
          generalize inB x2 0 10000 = q at *
          generalize inB x3 0 1099511627776 = r at *
          cases p
          · go_wp2_with fail
            refine (F1 _).mono ?_
            rintro e w1 ⟨rfl, rfl⟩
            go_wp2_with fail
            go_ret
            exact ⟨by rw [HE.out, if_pos (HT.out (by rw [HW.out]; rfl))]; rfl, rfl⟩
          · cases q
            · go_wp2_with fail
              refine (F1 _).mono ?_
              rintro e w1 ⟨rfl, rfl⟩
              go_wp2_with fail
              refine (F2 _).mono ?_
              rintro e w1 ⟨rfl, rfl⟩
              go_wp2_with fail
              go_ret
              exact ⟨by rw [HE.out, if_pos (HT.out (by rw [HW.out]; rfl))]; rfl, rfl⟩
            · cases r
              · go_wp2_with fail
                refine (F1 _).mono ?_
                rintro e w1 ⟨rfl, rfl⟩
                go_wp2_with fail
                refine (F2 _).mono ?_
                rintro e w1 ⟨rfl, rfl⟩
                go_wp2_with fail
                refine (F3 _).mono ?_
                rintro e w1 ⟨rfl, rfl⟩
                go_wp2_with fail
                go_ret
                exact ⟨by rw [HE.out, if_pos (HT.out (by rw [HW.out]; rfl))]; rfl, rfl⟩
              · go_wp2_with fail
                refine (F1 _).mono ?_
                rintro e w1 ⟨rfl, rfl⟩
                go_wp2_with fail
                refine (F2 _).mono ?_
                rintro e w1 ⟨rfl, rfl⟩
                go_wp2_with fail
                refine (F3 _).mono ?_
                rintro e w1 ⟨rfl, rfl⟩
                go_wp2_with fail
                go_roundw
                case rel => exact ⟨i + 1, by simp, by omega, by show _ = _; rw [HN.out, HW.out]; rfl, trivial⟩
                case measure => simp [RowKit.intOf] <;> omega
        · have t : ¬ (i : Int) < (n : Int) := by omega
          obtain rfl : i = n := by omega
          by_cases h8 : 8 < i
          · have t8 : (8 : Int) < (i : Int) := by omega
            go_wp2_with fail
            go_ret
            exact ⟨by rw [HE.out, if_neg (by rw [hf.out]; decide), if_pos h8]; rfl, rfl⟩
          · have t8 : ¬ (8 : Int) < (i : Int) := by omega
            go_wp2_with fail
            go_ret
            exact ⟨by rw [HE.out, if_neg (by rw [hf.out]; decide), if_neg h8]; rfl, rfl⟩

/-- Block g, which may be written, holds n numbers. -/
structure IntG (w : World) (g n : Nat) (gs : Nat → Int) : Prop where
  cell : ∀ k, k < n → w.cell? ⟨g, k, none⟩ = some (.int .i64 (gs k))
  thaw : ∀ j, w.frozen? ⟨g, j, none⟩ = false
  lt : g < w.heap.size
theorem IntG.kept {T : Nat → Prop} {w w' : World} {g n : Nat} {gs : Nat → Int} (h : IntG w g n gs) (k : But T w w') (hb : ¬ T g) : IntG w' g n gs :=
  ⟨fun i hi => (k.cell h.lt hb).trans (h.cell i hi), fun j => (k.frozen h.lt hb).trans (h.thaw j), Nat.lt_of_lt_of_le h.lt k.size⟩
theorem IntG.below {w w' : World} {g n : Nat} {gs : Nat → Int} (h : IntG w g n gs) (k : Below w.heap.size w w') : IntG w' g n gs := h.kept (T := fun _ => False) (But.of_below k) id
theorem IntG.set {w : World} {g n : Nat} {gs : Nat → Int} (h : IntG w g n gs) {i : Nat} (hi : i < n) (z : Int) : IntG (w.setCell ⟨g, i, none⟩ (.int .i64 z)) g n (upd gs i z) ∧ But (fun k => k = g) w (w.setCell ⟨g, i, none⟩ (.int .i64 z)) := by
  refine ⟨⟨fun k hk => ?_, fun j => by rw [World.frozen?_setCell]; exact h.thaw j, by simpa using h.lt⟩, (But.refl (fun k => k = g) w).setCell g i _ (fun _ => rfl)⟩
  by_cases e : k = i
  · subst e
    rw [World.cell?_setCell_same' _ _ _ (by rw [h.cell k hk]; rfl), upd_same]
  · rw [World.cell?_setCell_other _ _ _ _ (fun q => e (by injection q with _ q; exact q.symm)), upd_other _ _ e]
    exact h.cell k hk
theorem info_num : (Try.prog.info? 3).map (fun i => (i.zero, i.size, i.bytes)) = some (some (.int .i64 0), 1, 8) := by kernel_rfl
theorem run_make_ints (n : Nat) (hn : n ≤ 1000) (w : World) : (Instr.makeSlice 69 (.int .i64 (n : Int)) (.int .i64 (n : Int))).run Try.prog w = .ok (.slice (some ⟨w.heap.size, 0, none⟩) n n) (w.alloc (.cells (madeCells #[.int .i64 0] n) 3)) := by
  obtain ⟨i0, hi0, hz0, hzs, hzb⟩ := info_parts info_num
  have := run_make (P := Try.prog) w 69 3 i0 _ Try.underlying69 hi0 hz0 .i64 .i64 (n : Int) (n : Int) (by omega) (by omega) (by rw [hzb]; omega) (by omega)
  rw [hzs, Int.toNat_natCast, Nat.mul_one] at this
  exact this
theorem IntG.new (w : World) (n : Nat) : IntG (w.alloc (.cells (madeCells #[.int .i64 0] n) 3)) w.heap.size n (fun _ => 0) :=
  ⟨fun j hj => by simp [madeCells, hj, Nat.mod_one], fun j => by simp, by simp⟩
theorem info_pieceR : (Try.prog.info? 46).map (fun i => (i.zero, i.size, i.bytes)) = some (some (.agg #[.int .i64 0, .int .i64 0]), 2, 16) := by kernel_rfl
theorem step_append_ro {P : Program} {ops : Array Oper} {o : Oper} {a : Act} {w : World} {K : Act → World → Prop} {Q : Exit → Act → World → Prop} {E : Prop} (hgd : o.guard = none) (s x : Operand) (t : TypeId)
    (ho : o.op = .call { callee := .builtin .append, args := #[s, x], argTypes := #[t, t] }) (u v v' : Value) (w' : World) (hs : a.eval s = u) (hx : a.eval x = v) (hrun : (Builtin.append_ #[t, t] o.type #[u, v]).run P w = .ok v' w')
    (h : K (a.put o.dst v') w') :
    if Region.wanted o (yielded ops a.tmps) = true then Oper.wp P o a w K Q else E := by
  have hw : Region.wanted o (yielded ops a.tmps) = true := by simp [Region.wanted, hgd]
  rw [if_pos hw]
  unfold Oper.wp execOp
  simp only [ho, resolve, invoke, builtin, Sem.run_bind, Sem.run_pure, Result.andThen_ok, List.map_toArray, List.map_cons, List.map_nil, hs, hx, hrun]
  exact h

set_option maxRecDepth 100000 in
set_option maxHeartbeats 4000000 in
theorem splitR_any (qty lot : Int) (n : Nat) (L : Nat → Of) (v : Value) (w : World) (h : RowL w v n L) (hE : spE qty lot n L = 0) :
    Calls Try.prog 16 #[.int .i64 qty, .int .i64 lot, v] w fun e w' => ∃ v', e = .returned v' ∧ ∃ f, Hid (Ranked L n f ∧ w'.ownsRow w.heap.size 46 2 v' (splitL qty lot (listO (fun k => L (f k)) n)).length (allP (splitL qty lot (listO (fun k => L (f k)) n))) ∧ Below w.heap.size w w') := by
  obtain ⟨hq, hl, ha, hn⟩ := spE_none hE
  have hW := anyW_false.1 ha
  have hq' := of_decide_eq_true hq
  have hl' := of_decide_eq_true hl
  have F := rankR_any n L v w h (by omega)
  obtain ⟨a, cap, rfl, _⟩ := id h
  have HW0 : Hid (∀ i, i < n → wrongB (L i) = false) := hW
  have HL : Hid (1 ≤ lot ∧ lot ≤ 1099511627776) := hl'
  clear h hE hq hl ha hW
  go_enter Try.func16, Try.ntmps16
  go_wp2_with fail
  refine F.mono ?_
  rintro e w1 ⟨v1, rfl, f, HF⟩
  clear F
  obtain ⟨ar, cr, rfl⟩ := own_shape HF.out.2.1
  obtain ⟨G, hG⟩ : ∃ G, Hid (G = fun k => L (f k)) := ⟨_, rfl⟩
  have HW : Hid (∀ i, i < n → wrongB (G i) = false) := fun i hi => by rw [hG.out]; exact HW0.out _ (HF.out.1.lt hi)
  have HR1 : Hid (∀ i, i < n → ∃ b o, ar = some ⟨b, o, none⟩ ∧ Fiv w1 b (o + i * 5) (G i)) := by
    obtain ⟨a', c', e, _, h3⟩ := rowL_of_own HF.out.2.1
    injection e with e
    subst e
    rw [hG.out]
    exact h3
  obtain ⟨w2, hw2⟩ : ∃ w2, w2 = w1.alloc (.cells (madeCells #[.int .i64 0] n) 3) := ⟨_, rfl⟩
  have hmk := run_make_ints n (by omega) w1
  rw [← hw2] at hmk
  have HM : Hid (IntG w2 w1.heap.size n (fun _ => 0) ∧ Below w1.heap.size w1 w2) := by
    rw [hw2]; exact ⟨IntG.new w1 n, (Below.refl _ _).alloc (Nat.le_refl _) _⟩
  have HR : Hid (∀ i, i < n → ∃ b o, ar = some ⟨b, o, none⟩ ∧ Fiv w2 b (o + i * 5) (G i)) := fun i hi => by
    obtain ⟨b, o, e, c⟩ := HR1.out i hi
    exact ⟨b, o, e, c.below HM.out.2⟩
  have HRL : Hid (∀ b o i, ar = some ⟨b, o, none⟩ → i < n → b < w1.heap.size) := fun b o i e hi => by
    obtain ⟨b', o', e', c⟩ := HR1.out i hi
    rw [e] at e'
    injection e' with e'
    injection e' with e1 e2
    subst e1
    exact c.lt
  clear hw2 HR1
  obtain ⟨gb, hgb⟩ : ∃ gb, w1.heap.size = gb := ⟨_, rfl⟩
  have HGB1 : Hid (w1.heap.size = gb) := hgb
  rw [hgb] at hmk
  clear hgb
  have HS0 : Hid (IntG w2 gb n (fun _ => 0) ∧ But (fun k => k = gb) w2 w2) := ⟨by rw [← HGB1.out]; exact HM.out.1, But.refl _ _⟩
  have HB0 : Hid (∀ k : Nat, (0 : Int) ≤ (fun _ => 0) k ∧ (fun _ => (0 : Int)) k ≤ 0) := fun k => ⟨Int.le_refl _, Int.le_refl _⟩
  go_wp2_with fail
  refine wp_loop_rounds 3 ?_
  rw [rounds_succ]
  go_wp2_with fail
  go_loopw [9, 11] (fun y x wr => ∃ (i : Nat) (l : Int) (hs : Nat → Int), x = .int .i64 (i : Int) ∧ y = .int .i64 l ∧ i ≤ n ∧ 0 ≤ l ∧ l ≤ 1099511627776 ∧ Hid ((hs, l) = RR o0 lot G i (fun _ => 0, qty) ∧ IntG wr gb n hs ∧ But (fun k => k = gb) w2 wr)) (fun _ x _ => n - (RowKit.intOf x).toNat)
  case atStart => exact ⟨0, qty, fun _ => 0, rfl, rfl, Nat.zero_le _, by omega, by omega, rfl, HS0.out.1, HS0.out.2⟩
  case round =>
    obtain ⟨i, l, hs, rfl, rfl, hi, hl0, hl1, HI⟩ := hrel
    by_cases hlt : i < n
    · have t : (i : Int) < (n : Int) := by omega
      have ok := wrong_false (HW.out i hlt)
      obtain ⟨ba, bo, rfl, cc⟩ := HR.out i hlt
      have lb := cc.lt
      have nb : ba ≠ gb := by have := HRL.out ba bo i rfl hlt; have := HGB1.out; omega
      have c1' := cc.kept HI.out.2.2 nb
      have hgi := HI.out.2.1.cell i hlt
      have hgf := HI.out.2.1.thaw i
      have bd := RR_bd (o := o0) (lot := lot) (l0 := qty) (B := 0) (G := G) (gs := fun _ => 0) (n := n) (by omega) (o0_bd HW.out) HB0.out i hi
      rw [← HI.out.1] at bd
      have gb1 := bd.2.2.1 i
      simp only at gb1
      have F := fun w => stepOf_any (G i) lot w HL.out.1 HL.out.2 ⟨ok.1, ok.2.1⟩
      have hsn := stepOf_nn HL.out.1 (HW.out i hlt)
      have HST : Hid (RR o0 lot G (i + 1) (fun _ => 0, qty) = stR o0 lot G i (hs, l)) := by show _ = _; rw [HI.out.1]; rfl
      have hlt1 := HI.out.2.1.lt
      have lb1 := c1'.lt
      have HSET := fun (W : World) (hW : Below wr.heap.size wr W) z => (HI.out.2.1.below hW).set hlt z
      have HBT : Hid (But (fun k => k = gb) w2 wr) := HI.out.2.2
      have HIG : Hid (IntG wr gb n hs) := HI.out.2.1
      have HSE : Hid (∀ (W : World), Below wr.heap.size wr W → ∀ z, IntG (W.setCell ⟨gb, i, none⟩ (.int .i64 z)) gb n (upd hs i z) ∧ But (fun k => k = gb) W (W.setCell ⟨gb, i, none⟩ (.int .i64 z))) := HSET
      unfold stR giv at HST
      obtain ⟨gi, hgi0⟩ : ∃ gi, hs i = gi := ⟨_, rfl⟩
      rw [hgi0] at hgi gb1
      simp only [hgi0] at HST
      clear HSET HI bd cc hgi0
      generalize stepOf lot (G i) = S at F hsn HST
      generalize G i = x at F HST c1' ok
      obtain ⟨x0, x1, x2, x3, x4⟩ := x
      obtain ⟨c0, c1, c2, c3, c4⟩ := c1'.all
      clear c1'
      unfold oV at F
      simp only at c0 c1 c2 c3 c4 F HST ok
      go_wp2_with fail
      refine (F _).mono ?_
      rintro e w5 ⟨rfl, hb5⟩
      have d3 := (hb5.cell (p := ⟨ba, bo + i * 5 + 3, none⟩) lb1).trans c3
      have dg := (hb5.cell (p := ⟨gb, i, none⟩) hlt1).trans hgi
      have df := (hb5.frozen (p := ⟨gb, i, none⟩) hlt1).trans hgf
      have HB5 : Hid (Below wr.heap.size wr w5) := hb5
      clear F c0 c1 c2 c3 c4 hb5 hgi hgf
      by_cases hsl : x3 < l
      · skip
        by_cases hS : 0 < S
        · obtain ⟨d1, d2, d3', _, _⟩ := div_mul_bd (m := x3) (s := S) (by omega) hS
          obtain ⟨N, hN⟩ : ∃ N, x3 / S * S = N := ⟨_, rfl⟩
          rw [hN] at d1 d2 d3'
          have HST2 : Hid (RR o0 lot G (i + 1) (fun _ => 0, qty) = (upd hs i (gi + N), l - N)) := by
            show _ = _
            rw [HST.out, if_pos hS, show o0 l ⟨x0, x1, x2, x3, x4⟩ = x3 from if_pos hsl, hN]
          have hN' : x3 / S * S = N := hN
          have hS0 : ¬ S = 0 := by omega
          clear d3'
          clear HST hN
          go_wp2_with fail
          go_roundw
          case rel =>
            have Z := HSE.out w5 HB5.out (gi + N)
            exact ⟨i + 1, l - N, upd hs i (gi + N), by simp, rfl, by omega, by omega, by omega, HST2.out.symm, Z.1, (HBT.out.trans (But.of_below (S := fun _ => False) HB5.out) (fun _ _ e => e.elim)).trans Z.2 (fun _ _ e => e)⟩
          case measure => simp [RowKit.intOf] <;> omega
        · have HST2 : Hid (RR o0 lot G (i + 1) (fun _ => 0, qty) = (hs, l)) := by show _ = _; rw [HST.out, if_neg hS]
          clear HST
          go_wp2_with fail
          go_roundw
          case rel => exact ⟨i + 1, l, hs, by simp, rfl, by omega, hl0, hl1, HST2.out.symm, HIG.out.below HB5.out, HBT.out.trans (But.of_below (S := fun _ => False) HB5.out) (fun _ _ e => e.elim)⟩
          case measure => simp [RowKit.intOf] <;> omega
      · skip
        by_cases hS : 0 < S
        · obtain ⟨d1, d2, d3', _, _⟩ := div_mul_bd (m := l) (s := S) (by omega) hS
          obtain ⟨N, hN⟩ : ∃ N, l / S * S = N := ⟨_, rfl⟩
          rw [hN] at d1 d2 d3'
          have HST2 : Hid (RR o0 lot G (i + 1) (fun _ => 0, qty) = (upd hs i (gi + N), l - N)) := by
            show _ = _
            rw [HST.out, if_pos hS, show o0 l ⟨x0, x1, x2, x3, x4⟩ = l from if_neg hsl, hN]
          have hN' : l / S * S = N := hN
          have hS0 : ¬ S = 0 := by omega
          clear d3'
          clear HST hN
          go_wp2_with fail
          go_roundw
          case rel =>
            have Z := HSE.out w5 HB5.out (gi + N)
            exact ⟨i + 1, l - N, upd hs i (gi + N), by simp, rfl, by omega, by omega, by omega, HST2.out.symm, Z.1, (HBT.out.trans (But.of_below (S := fun _ => False) HB5.out) (fun _ _ e => e.elim)).trans Z.2 (fun _ _ e => e)⟩
          case measure => simp [RowKit.intOf] <;> omega
        · have HST2 : Hid (RR o0 lot G (i + 1) (fun _ => 0, qty) = (hs, l)) := by show _ = _; rw [HST.out, if_neg hS]
          clear HST
          go_wp2_with fail
          go_roundw
          case rel => exact ⟨i + 1, l, hs, by simp, rfl, by omega, hl0, hl1, HST2.out.symm, HIG.out.below HB5.out, HBT.out.trans (But.of_below (S := fun _ => False) HB5.out) (fun _ _ e => e.elim)⟩
          case measure => simp [RowKit.intOf] <;> omega
    · have t : ¬ (i : Int) < (n : Int) := by omega
      have hni : n = i := by omega
      subst hni
      obtain ⟨l1, hl1e⟩ : ∃ l1, l1 = l := ⟨_, rfl⟩
      subst hl1e
      obtain ⟨gs1, hgs1⟩ : ∃ gs1, gs1 = hs := ⟨_, rfl⟩
      subst hgs1
      have HE0 : Hid ((gs1, l1) = RR o0 lot G n (fun _ => 0, qty)) := HI.out.1
      have HS1 : Hid (IntG wr gb n gs1 ∧ But (fun k => k = gb) w2 wr) := ⟨HI.out.2.1, HI.out.2.2⟩
      have HB1 : Hid (∀ k, 0 ≤ gs1 k ∧ gs1 k ≤ 1099511627776) := fun k => by
        have := (end_bd (lot := lot) (G := G) hq'.1 HW.out).2.1 k
        rw [← HE0.out] at this
        simp only at this
        omega
      clear HI HS0 HB0 hlt hi
      go_wp2_with fail
      rw [rounds_succ]
      go_wp2_with fail
      go_loopw [9, 11] (fun y x wr => ∃ (i : Nat) (l : Int) (hs : Nat → Int), x = .int .i64 (i : Int) ∧ y = .int .i64 l ∧ i ≤ n ∧ 0 ≤ l ∧ l ≤ 1099511627776 ∧ Hid ((hs, l) = RR o1 lot G i (gs1, l1) ∧ IntG wr gb n hs ∧ But (fun k => k = gb) w2 wr)) (fun _ x _ => n - (RowKit.intOf x).toNat)
      case atStart => exact ⟨0, l1, gs1, rfl, rfl, Nat.zero_le _, by omega, by omega, rfl, HS1.out.1, HS1.out.2⟩
      case round =>
        obtain ⟨i, l, hs, rfl, rfl, hi, hl0, hl1, HI⟩ := hrel
        by_cases hlt : i < n
        · have t : (i : Int) < (n : Int) := by omega
          have ok := wrong_false (HW.out i hlt)
          obtain ⟨ba, bo, rfl, cc⟩ := HR.out i hlt
          have lb := cc.lt
          have nb : ba ≠ gb := by have := HRL.out ba bo i rfl hlt; have := HGB1.out; omega
          have c1' := cc.kept HI.out.2.2 nb
          have hgi := HI.out.2.1.cell i hlt
          have hgf := HI.out.2.1.thaw i
          have bd := RR_bd (o := o1) (lot := lot) (l0 := l1) (B := 1099511627776) (G := G) (gs := gs1) (n := n) (by omega) o1_bd HB1.out i hi
          rw [← HI.out.1] at bd
          have gb1 := bd.2.2.1 i
          simp only at gb1
          have F := fun w => stepOf_any (G i) lot w HL.out.1 HL.out.2 ⟨ok.1, ok.2.1⟩
          have hsn := stepOf_nn HL.out.1 (HW.out i hlt)
          have HST : Hid (RR o1 lot G (i + 1) (gs1, l1) = stR o1 lot G i (hs, l)) := by show _ = _; rw [HI.out.1]; rfl
          have hlt1 := HI.out.2.1.lt
          have lb1 := c1'.lt
          have HSET := fun (W : World) (hW : Below wr.heap.size wr W) z => (HI.out.2.1.below hW).set hlt z
          have HBT : Hid (But (fun k => k = gb) w2 wr) := HI.out.2.2
          have HIG : Hid (IntG wr gb n hs) := HI.out.2.1
          have HSE : Hid (∀ (W : World), Below wr.heap.size wr W → ∀ z, IntG (W.setCell ⟨gb, i, none⟩ (.int .i64 z)) gb n (upd hs i z) ∧ But (fun k => k = gb) W (W.setCell ⟨gb, i, none⟩ (.int .i64 z))) := HSET
          unfold stR giv at HST
          obtain ⟨gi, hgi0⟩ : ∃ gi, hs i = gi := ⟨_, rfl⟩
          rw [hgi0] at hgi gb1
          simp only [hgi0] at HST
          clear HSET HI bd cc hgi0
          generalize stepOf lot (G i) = S at F hsn HST
          generalize G i = x at F HST c1' ok
          obtain ⟨x0, x1, x2, x3, x4⟩ := x
          obtain ⟨c0, c1, c2, c3, c4⟩ := c1'.all
          clear c1'
          unfold oV at F
          simp only at c0 c1 c2 c3 c4 F HST ok
          go_wp2_with fail
          refine (F _).mono ?_
          rintro e w5 ⟨rfl, hb5⟩
          have d3 := (hb5.cell (p := ⟨ba, bo + i * 5 + 3, none⟩) lb1).trans c3
          have dg := (hb5.cell (p := ⟨gb, i, none⟩) hlt1).trans hgi
          have df := (hb5.frozen (p := ⟨gb, i, none⟩) hlt1).trans hgf
          have HB5 : Hid (Below wr.heap.size wr w5) := hb5
          clear F c0 c1 c2 c3 c4 hb5 hgi hgf
          by_cases hS : 0 < S
          · obtain ⟨d1, d2, d3', _, _⟩ := div_mul_bd (m := l) (s := S) (by omega) hS
            obtain ⟨N, hN⟩ : ∃ N, l / S * S = N := ⟨_, rfl⟩
            rw [hN] at d1 d2 d3'
            have HST2 : Hid (RR o1 lot G (i + 1) (gs1, l1) = (upd hs i (gi + N), l - N)) := by
              show _ = _
              rw [HST.out, if_pos hS, show o1 l ⟨x0, x1, x2, x3, x4⟩ = l from rfl, hN]
            have hN' : l / S * S = N := hN
            have hS0 : ¬ S = 0 := by omega
            clear d3'
            clear HST hN
            go_wp2_with fail
            go_roundw
            case rel =>
              have Z := HSE.out w5 HB5.out (gi + N)
              exact ⟨i + 1, l - N, upd hs i (gi + N), by simp, rfl, by omega, by omega, by omega, HST2.out.symm, Z.1, (HBT.out.trans (But.of_below (S := fun _ => False) HB5.out) (fun _ _ e => e.elim)).trans Z.2 (fun _ _ e => e)⟩
            case measure => simp [RowKit.intOf] <;> omega
          · have HST2 : Hid (RR o1 lot G (i + 1) (gs1, l1) = (hs, l)) := by show _ = _; rw [HST.out, if_neg hS]
            clear HST
            go_wp2_with fail
            go_roundw
            case rel => exact ⟨i + 1, l, hs, by simp, rfl, by omega, hl0, hl1, HST2.out.symm, HIG.out.below HB5.out, HBT.out.trans (But.of_below (S := fun _ => False) HB5.out) (fun _ _ e => e.elim)⟩
            case measure => simp [RowKit.intOf] <;> omega
        · have t : ¬ (i : Int) < (n : Int) := by omega
          have hni : n = i := by omega
          subst hni
          obtain ⟨wE, hwE⟩ : ∃ wE, wE = wr := ⟨_, rfl⟩
          subst hwE
          have HP : Hid (pcG G hs n = splitL qty lot (listO G n)) := by
            have := ref_split (G := G) (n := n) hq'.1 hl'.1 HW.out
            unfold endG at this
            rw [← HE0.out, ← HI.out.1] at this
            exact this
          have HIE : Hid (IntG wE gb n hs) := HI.out.2.1
          have HBW : Hid (Below w.heap.size w wE) := by
            have b1 := HF.out.2.2.trans (HM.out.2.mono HF.out.2.2.size)
            exact b1.trans (HI.out.2.2.below (n := w.heap.size) b1.size (fun i e => by have := HGB1.out; have := HF.out.2.2.size; omega))
          have HRE : Hid (∀ i, i < n → ∃ b o, ar = some ⟨b, o, none⟩ ∧ Fiv wE b (o + i * 5) (G i)) := fun i hi => by
            obtain ⟨b, o, e, c⟩ := HR.out i hi
            exact ⟨b, o, e, c.kept HI.out.2.2 (by have := HRL.out b o i e hi; have := HGB1.out; omega)⟩
          obtain ⟨i0, hi0, hz0, hzs, hzb⟩ := info_parts info_pieceR
          clear HI HS1 HB1 HR HRL HM hmk hlt hi hl0 hl1
          go_wp2_with fail
          rw [rounds_succ]
          go_wp2_with fail
          go_loopw [15, 16] (fun y x wr => ∃ i : Nat, x = .int .i64 (i : Int) ∧ i ≤ n ∧ Hid (wr.ownsRow wE.heap.size 46 2 y (pcG G hs i).length (allP (pcG G hs i))) ∧ Below wE.heap.size wE wr) (fun _ x _ => n - (RowKit.intOf x).toNat)
          case atStart => exact ⟨0, rfl, Nat.zero_le _, World.ownsRow_nil _ _ _ _, Below.refl _ _⟩
          case round =>
            obtain ⟨i, rfl, hi, hown, hB⟩ := hrel
            by_cases hlt : i < n
            · have t : (i : Int) < (n : Int) := by omega
              obtain ⟨ba, bo, rfl, cc⟩ := HRE.out i hlt
              have cw := cc.below hB
              have hg := (HIE.out.below hB).cell i hlt
              have lba := cw.lt
              have lgb := (HIE.out.below hB).lt
              have HM := pcG_more G hs i
              have hpl : (pcG G hs i).length ≤ i := by
                have : ∀ m, (pcG G hs m).length ≤ m := fun m => by
                  induction m with
                  | zero => exact Nat.le_refl _
                  | succ m ih => rw [pcG_more, List.length_append]; have : (if 0 < hs m then [(⟨(G m).pl, hs m⟩ : Pc)] else []).length ≤ 1 := by split <;> simp
                                 omega
                exact this i
              generalize pcG G hs i = ps at *
              generalize hs i = gi at hg HM
              generalize G i = x at cw HM
              obtain ⟨x0, x1, x2, x3, x4⟩ := x
              obtain ⟨c0, _, _, _, _⟩ := cw.all
              simp only at c0 HM
              have hs1 := hB.size
              obtain ⟨au, cu, rfl⟩ := own_shape hown.out
              clear cc cw
              by_cases hp : 0 < gi
              · rw [if_pos hp] at HM
                obtain ⟨w5, hw5⟩ : ∃ w5, w5 = (wr.alloc (.cells #[.int .i64 x0, .int .i64 gi] 46)).drew := ⟨_, rfl⟩
                have B45 : Below wr.heap.size wr w5 := by rw [hw5]; exact below_more ((Below.refl _ wr).alloc (Nat.le_refl _) _) 1
                have hcn : ∀ j u, (cellsP ⟨x0, gi⟩)[j]? = some u → w5.cell? ((⟨wr.heap.size, 0, none⟩ : Addr).add j) = some u := by rw [hw5]; exact cell_two_new wr ⟨x0, gi⟩ 46
                obtain ⟨v6, w6, hr, hown6, hg6, _, _⟩ := run_append_own_at (P := Try.prog) w5 wE.heap.size 42 42 46 i0 _ 2 16 Try.underlying42 hi0 hz0 hzs hzb rfl (by decide) _ ps.length (allP ps) (own_below hown.out B45) ⟨wr.heap.size, 0, none⟩ 1 1 (cellsP ⟨x0, gi⟩) rfl hcn (cellsP_one _) (by unfold maxLen; omega) (by omega) (Nat.le_trans hs1 B45.size)
                have HB6 : Hid (Below wE.heap.size wE w6) := (hB.trans (B45.mono hs1)).grown hg6 (Nat.le_trans hs1 B45.size) (fun k hk => (hown.out.lt k hk).1)
                obtain ⟨a6, cap6, rfl⟩ := own_shape hown6
                have HO6 : Hid (w6.ownsRow wE.heap.size 46 2 (.slice a6 (ps.length + 1) cap6) (pcG G hs (i + 1)).length (allP (pcG G hs (i + 1)))) := by
                  show World.ownsRow _ _ _ _ _ _ _
                  rw [HM, allP_more, List.length_append]
                  exact hown6
                rw [hw5] at hr
                have HRn : Hid ((Builtin.append_ #[42, 42] 42 #[.slice au ps.length cu, .slice (some ⟨wr.heap.size, 0, none⟩) 1 1]).run Try.prog (wr.alloc (.cells #[.int .i64 x0, .int .i64 gi] 46)).drew = .ok (.slice a6 (ps.length + 1) cap6) w6) := hr
                clear hr hw5 hown6 hg6 hcn B45 HM
                go_wp2_with fail
                go_region_law (refine step_append_ro rfl (.tmp 86) (.tmp 97) 42 rfl (.slice au ps.length cu) (.slice (some ⟨wr.heap.size, 0, none⟩) 1 1) (.slice a6 (ps.length + 1) cap6) w6 rfl rfl HRn.out ?_)
                all_goals (
                  go_wp2_with fail
                  go_roundw
                  case rel => exact ⟨i + 1, by simp, by omega, HO6.out, HB6.out⟩
                  case measure => simp [RowKit.intOf] <;> omega)
              · rw [if_neg hp, List.append_nil] at HM
                have HO6 : Hid (wr.ownsRow wE.heap.size 46 2 (.slice au ps.length cu) (pcG G hs (i + 1)).length (allP (pcG G hs (i + 1)))) := by
                  show World.ownsRow _ _ _ _ _ _ _
                  rw [HM]; exact hown.out
                clear HM
                go_wp2_with fail
                go_roundw
                case rel => exact ⟨i + 1, by simp, by omega, HO6.out, hB⟩
                case measure => simp [RowKit.intOf] <;> omega
            · have t : ¬ (i : Int) < (n : Int) := by omega
              have hni : n = i := by omega
              subst hni
              go_wp2_with fail
              go_ret
              refine ⟨_, rfl, f, HF.out.1, ?_, HBW.out.trans (hB.mono HBW.out.size)⟩
              have := hown.out
              rw [HP.out, hG.out] at this
              exact own_mono this HBW.out.size
end Go.Proofs.Ytbjibmfehphffaa.RO
