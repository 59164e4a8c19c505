/-
  Contracts of package pace's paced (with either closure, where all is right), Twap, Vwap and Goal, for every input.
-/
import Derived.Lib.MinMax
import Derived.Test.YtdacfnodihannaaGreatPaStep
namespace Go.Proofs.YtdacfnodihannaaGreat.PA
open Go.ChangeShapes Go.WideShapes Go.ChangeAt Go.RowKit

theorem twap1_any (qty t span : Int) (B : Nat) (w : World) (hc : w.cell? ⟨B, 0, none⟩ = some (.int .i64 qty)) (q0 : 0 ≤ qty) (q1 : qty ≤ 1099511627776) (ha : Asked t span) (x : Int) (hx : Hid (qty * t / span = x)) :
    Calls Tryz.prog 73 #[.int .i64 t, .int .i64 span, .pointer (some ⟨B, 0, none⟩)] w fun e w' => e = .returned (.tuple #[.int .i64 x, .int .i64 0]) ∧ Below w.heap.size w w' := by
  have F := fun w => down_share qty t span w q0 q1 ha.2.1 ha.2.2 (by have := ha.1.1; omega) (by have := ha.1.2; omega) x hx
  clear ha hx
  go_enter Tryz.func73, Tryz.ntmps73
  go_wp2_with fail
  refine (F _).mono ?_
  rintro e w1 ⟨rfl, hb⟩
  go_wp2_with fail
  go_ret2
  exact ⟨rfl, hb⟩
set_option maxHeartbeats 1000000 in
theorem paced_even (qty st en nw : Int) (B : Nat) (w : World) (hc : w.cell? ⟨B, 0, none⟩ = some (.int .i64 qty)) (h : Fine qty st en nw) (x : Int) (hx : Hid (qty * gone st en nw / (en - st) = x)) :
    Calls Tryz.prog 65 #[.int .i64 qty, .int .i64 st, .int .i64 en, .int .i64 nw, .func (.func 73) #[] #[.pointer (some ⟨B, 0, none⟩)]] w fun e w' => e = .returned (.tuple #[.int .i64 x, .int .i64 0]) ∧ Below w.heap.size w w' := by
  have F1 : ∀ w, Calls Tryz.prog 55 #[.int .i64 qty, .int .i64 0, .int .i64 1099511627776] w fun e w' => e = .returned (.bool true) ∧ w = w' := fun w => by rw [← inB_yes h.q0 h.q1]; exact within_any qty 0 1099511627776 w
  have F2 : ∀ w, Calls Tryz.prog 87 #[.int .i64 st] w fun e w' => e = .returned (.bool true) ∧ w = w' := fun w => by rw [← inB_yes h.s0 h.s1]; exact time_any st w
  have F3 : ∀ w, Calls Tryz.prog 87 #[.int .i64 en] w fun e w' => e = .returned (.bool true) ∧ w = w' := fun w => by rw [← inB_yes h.e0 h.e1]; exact time_any en w
  have F4 : ∀ w, Calls Tryz.prog 87 #[.int .i64 nw] w fun e w' => e = .returned (.bool true) ∧ w = w' := fun w => by rw [← inB_yes h.n0 h.n1]; exact time_any nw w
  have F5 : ∀ w, Calls Tryz.prog 55 #[.int .i64 (en - st), .int .i64 1, .int .i64 1073741824] w fun e w' => e = .returned (.bool true) ∧ w = w' := fun w => by rw [← inB_yes h.a0 h.a1]; exact within_any (en - st) 1 1073741824 w
  have F6 := fun w hc => twap1_any qty (gone st en nw) (en - st) B w hc h.q0 h.q1 (gone_asked h) x hx
  have hw : wrap64 (en - st) = en - st := wrap_in _ (by have := h.s0; have := h.e1; have := h.e0; have := h.s1; omega) (by have := h.s0; have := h.e1; have := h.e0; have := h.s1; omega)
  have hw2 : wrap64 (nw - st) = nw - st := wrap_in _ (by have := h.s0; have := h.n1; have := h.n0; have := h.s1; omega) (by have := h.s0; have := h.n1; have := h.n0; have := h.s1; omega)
  unfold gone at F6
  clear h hx
  go_enter Tryz.func65, Tryz.ntmps65
  go_wp2_with fail
  refine (F1 _).mono ?_
  rintro e w1 ⟨rfl, rfl⟩
  go_wp2_with fail
  refine (F2 _).mono ?_
  rintro e w1 ⟨rfl, rfl⟩
  go_wp2_with fail
  refine (F3 _).mono ?_
  rintro e w1 ⟨rfl, rfl⟩
  go_wp2_with fail
  refine (F4 _).mono ?_
  rintro e w1 ⟨rfl, rfl⟩
  go_wp2_with fail
  refine (F5 _).mono ?_
  rintro e w1 ⟨rfl, rfl⟩
  go_wp2_with fail
  refine (F6 _ hc).mono ?_
  rintro e w1 ⟨rfl, hb⟩
  go_wp2_with fail
  go_ret2
  exact ⟨rfl, hb⟩
theorem twap_good (qty st en nw : Int) (w : World) (h : Fine qty st en nw) (x : Int) (hx : Hid (qty * gone st en nw / (en - st) = x)) :
    Calls Tryz.prog 48 #[.int .i64 qty, .int .i64 st, .int .i64 en, .int .i64 nw] w fun e w' => e = .returned (.tuple #[.int .i64 x, .int .i64 0]) ∧ Below w.heap.size w w' := by
  have hc : (w.alloc (.cells #[.int .i64 qty] 3)).cell? ⟨w.heap.size, 0, none⟩ = some (.int .i64 qty) := by simp
  have F := fun w B hc => paced_even qty st en nw B w hc h x hx
  clear h hx
  go_enter Tryz.func48, Tryz.ntmps48
  go_wp2_with fail
  refine (F _ _ hc).mono ?_
  rintro e w1 ⟨rfl, hb⟩
  go_wp2_with fail
  go_ret2
  exact ⟨rfl, ((Below.refl _ w).alloc (Nat.le_refl _) _).trans (hb.mono (by simp))⟩
theorem twap_bad (qty st en nw : Int) (w : World) (E : Int) (hE : Hid (pacE qty st en nw = E)) (h0 : E ≠ 0) :
    Calls Tryz.prog 48 #[.int .i64 qty, .int .i64 st, .int .i64 en, .int .i64 nw] w fun e w' => e = .returned (.tuple #[.int .i64 0, .int .i64 E]) ∧ Below w.heap.size w w' := by
  have F := fun w f => paced_bad qty st en nw E hE h0 f w
  clear h0 hE
  go_enter Tryz.func48, Tryz.ntmps48
  go_wp2_with fail
  refine (F _ _).mono ?_
  rintro e w1 ⟨rfl, rfl⟩
  go_wp2_with fail
  go_ret2
  exact ⟨rfl, (Below.refl _ w).alloc (Nat.le_refl _) _⟩

theorem vwap1_good (qty t span : Int) (zs : Nat → Int) (n : Nat) (v : Value) (A B : Nat) (w : World) (ca : w.cell? ⟨A, 0, none⟩ = some (.int .i64 qty)) (cb : w.cell? ⟨B, 0, none⟩ = some v) (hr : Row w v n fun i => .int .i64 (zs i)) (hc : Curve zs n) (q0 : 0 ≤ qty) (q1 : qty ≤ 1099511627776) (ha : Asked t span) (x : Int) (hx : Hid (targetOf zs n qty t span = x)) :
    Calls Tryz.prog 66 #[.int .i64 t, .int .i64 span, .pointer (some ⟨A, 0, none⟩), .pointer (some ⟨B, 0, none⟩)] w fun e w' => e = .returned (.tuple #[.int .i64 x, .int .i64 0]) ∧ Below w.heap.size w w' := by
  have F := fun w h => target_right qty zs n v w h hc t span ha q0 q1 x hx
  clear ha hx
  obtain ⟨a, cap, rfl, _⟩ := id hr
  go_enter Tryz.func66, Tryz.ntmps66
  go_wp2_with fail
  refine (F _ hr).mono ?_
  rintro e w1 ⟨rfl, hb⟩
  go_wp2_with fail
  go_ret2
  exact ⟨rfl, hb⟩
theorem vwap1_wrong (qty t span : Int) (zs : Nat → Int) (n : Nat) (v : Value) (A B : Nat) (w : World) (ca : w.cell? ⟨A, 0, none⟩ = some (.int .i64 qty)) (cb : w.cell? ⟨B, 0, none⟩ = some v) (hr : Row w v n fun i => .int .i64 (zs i)) (hz : ∀ i, n ≤ i → zs i = 0) (hc : ¬ Curve zs n) :
    Calls Tryz.prog 66 #[.int .i64 t, .int .i64 span, .pointer (some ⟨A, 0, none⟩), .pointer (some ⟨B, 0, none⟩)] w fun e w' => e = .returned (.tuple #[.int .i64 0, .int .i64 30]) ∧ Below w.heap.size w w' := by
  have F := fun w h => target_wrong qty zs n v w h hz hc t span
  obtain ⟨a, cap, rfl, _⟩ := id hr
  go_enter Tryz.func66, Tryz.ntmps66
  go_wp2_with fail
  refine (F _ hr).mono ?_
  rintro e w1 ⟨rfl, hb⟩
  go_wp2_with fail
  go_ret2
  exact ⟨rfl, hb⟩
set_option maxHeartbeats 1000000 in
/-- paced with Vwap's closure, whatever that answers. -/
theorem paced_along (qty st en nw : Int) (A B : Nat) (w : World) (h : Fine qty st en nw) (x y : Int)
    (F6 : Calls Tryz.prog 66 #[.int .i64 (gone st en nw), .int .i64 (en - st), .pointer (some ⟨A, 0, none⟩), .pointer (some ⟨B, 0, none⟩)] w fun e w' => e = .returned (.tuple #[.int .i64 x, .int .i64 y]) ∧ Below w.heap.size w w') :
    Calls Tryz.prog 65 #[.int .i64 qty, .int .i64 st, .int .i64 en, .int .i64 nw, .func (.func 66) #[] #[.pointer (some ⟨A, 0, none⟩), .pointer (some ⟨B, 0, none⟩)]] w fun e w' => e = .returned (.tuple #[.int .i64 x, .int .i64 y]) ∧ Below w.heap.size w w' := by
  have F1 : ∀ w, Calls Tryz.prog 55 #[.int .i64 qty, .int .i64 0, .int .i64 1099511627776] w fun e w' => e = .returned (.bool true) ∧ w = w' := fun w => by rw [← inB_yes h.q0 h.q1]; exact within_any qty 0 1099511627776 w
  have F2 : ∀ w, Calls Tryz.prog 87 #[.int .i64 st] w fun e w' => e = .returned (.bool true) ∧ w = w' := fun w => by rw [← inB_yes h.s0 h.s1]; exact time_any st w
  have F3 : ∀ w, Calls Tryz.prog 87 #[.int .i64 en] w fun e w' => e = .returned (.bool true) ∧ w = w' := fun w => by rw [← inB_yes h.e0 h.e1]; exact time_any en w
  have F4 : ∀ w, Calls Tryz.prog 87 #[.int .i64 nw] w fun e w' => e = .returned (.bool true) ∧ w = w' := fun w => by rw [← inB_yes h.n0 h.n1]; exact time_any nw w
  have F5 : ∀ w, Calls Tryz.prog 55 #[.int .i64 (en - st), .int .i64 1, .int .i64 1073741824] w fun e w' => e = .returned (.bool true) ∧ w = w' := fun w => by rw [← inB_yes h.a0 h.a1]; exact within_any (en - st) 1 1073741824 w
  have hw : wrap64 (en - st) = en - st := wrap_in _ (by have := h.s0; have := h.e1; have := h.e0; have := h.s1; omega) (by have := h.s0; have := h.e1; have := h.e0; have := h.s1; omega)
  have hw2 : wrap64 (nw - st) = nw - st := wrap_in _ (by have := h.s0; have := h.n1; have := h.n0; have := h.s1; omega) (by have := h.s0; have := h.n1; have := h.n0; have := h.s1; omega)
  unfold gone at F6
  clear h
  go_enter Tryz.func65, Tryz.ntmps65
  go_wp2_with fail
  refine (F1 _).mono ?_
  rintro e w1 ⟨rfl, rfl⟩
  go_wp2_with fail
  refine (F2 _).mono ?_
  rintro e w1 ⟨rfl, rfl⟩
  go_wp2_with fail
  refine (F3 _).mono ?_
  rintro e w1 ⟨rfl, rfl⟩
  go_wp2_with fail
  refine (F4 _).mono ?_
  rintro e w1 ⟨rfl, rfl⟩
  go_wp2_with fail
  refine (F5 _).mono ?_
  rintro e w1 ⟨rfl, rfl⟩
  go_wp2_with fail
  refine F6.mono ?_
  rintro e w1 ⟨rfl, hb⟩
  go_wp2_with fail
  go_ret2
  exact ⟨rfl, hb⟩
/-- Vwap's two boxes. -/
theorem boxes (w : World) (x y : Value) (S T : TypeId) : ((w.alloc (.cells #[x] S)).alloc (.cells #[y] T)).cell? ⟨w.heap.size, 0, none⟩ = some x ∧ ((w.alloc (.cells #[x] S)).alloc (.cells #[y] T)).cell? ⟨w.heap.size + 1, 0, none⟩ = some y ∧ Below w.heap.size w ((w.alloc (.cells #[x] S)).alloc (.cells #[y] T)) := by
  refine ⟨by simp, ?_, ((Below.refl _ w).alloc (Nat.le_refl _) _).alloc (by simp) _⟩
  have := (Boxed.new (w.alloc (.cells #[x] S)) T y).cell
  rwa [World.size_alloc] at this
theorem vwap_good (qty st en nw : Int) (zs : Nat → Int) (n : Nat) (v : Value) (w : World) (hr : Row w v n fun i => .int .i64 (zs i)) (hc : Curve zs n) (h : Fine qty st en nw) (x : Int) (hx : Hid (targetOf zs n qty (gone st en nw) (en - st) = x)) :
    Calls Tryz.prog 46 #[.int .i64 qty, v, .int .i64 st, .int .i64 en, .int .i64 nw] w fun e w' => e = .returned (.tuple #[.int .i64 x, .int .i64 0]) ∧ Below w.heap.size w w' := by
  obtain ⟨c0, c1, hB⟩ := boxes w (.int .i64 qty) v 3 22
  have F := paced_along qty st en nw _ _ _ h x 0 (vwap1_good qty _ _ zs n v _ _ _ c0 c1 (hr.below hB) hc h.q0 h.q1 (gone_asked h) x hx)
  clear h hx
  obtain ⟨a, cap, rfl, _⟩ := id hr
  go_enter Tryz.func46, Tryz.ntmps46
  go_wp2_with fail
  refine F.mono ?_
  rintro e w1 ⟨rfl, hb⟩
  go_wp2_with fail
  go_ret2
  exact ⟨rfl, hB.trans (hb.mono hB.size)⟩
theorem vwap_wrong (qty st en nw : Int) (zs : Nat → Int) (n : Nat) (v : Value) (w : World) (hr : Row w v n fun i => .int .i64 (zs i)) (hz : ∀ i, n ≤ i → zs i = 0) (hc : ¬ Curve zs n) (h : Fine qty st en nw) :
    Calls Tryz.prog 46 #[.int .i64 qty, v, .int .i64 st, .int .i64 en, .int .i64 nw] w fun e w' => e = .returned (.tuple #[.int .i64 0, .int .i64 30]) ∧ Below w.heap.size w w' := by
  obtain ⟨c0, c1, hB⟩ := boxes w (.int .i64 qty) v 3 22
  have F := paced_along qty st en nw _ _ _ h 0 30 (vwap1_wrong qty _ _ zs n v _ _ _ c0 c1 (hr.below hB) hz hc)
  clear h
  obtain ⟨a, cap, rfl, _⟩ := id hr
  go_enter Tryz.func46, Tryz.ntmps46
  go_wp2_with fail
  refine F.mono ?_
  rintro e w1 ⟨rfl, hb⟩
  go_wp2_with fail
  go_ret2
  exact ⟨rfl, hB.trans (hb.mono hB.size)⟩
theorem vwap_bad (qty st en nw : Int) (n cap : Nat) (a : Option Addr) (w : World) (E : Int) (hE : Hid (pacE qty st en nw = E)) (h0 : E ≠ 0) :
    Calls Tryz.prog 46 #[.int .i64 qty, .slice a n cap, .int .i64 st, .int .i64 en, .int .i64 nw] w fun e w' => e = .returned (.tuple #[.int .i64 0, .int .i64 E]) ∧ Below w.heap.size w w' := by
  obtain ⟨c0, c1, hB⟩ := boxes w (.int .i64 qty) (.slice a n cap) 3 22
  have F := fun w f => paced_bad qty st en nw E hE h0 f w
  clear h0 hE
  go_enter Tryz.func46, Tryz.ntmps46
  go_wp2_with fail
  refine (F _ _).mono ?_
  rintro e w1 ⟨rfl, rfl⟩
  go_wp2_with fail
  go_ret2
  exact ⟨rfl, hB⟩

set_option maxHeartbeats 1000000 in
theorem goal_any (target lot qty : Int) (w : World) (l1 : lot ≤ 9223372036854775807) :
    Calls Tryz.prog 30 #[.int .i64 target, .int .i64 lot, .int .i64 qty] w fun e w' => e = .returned (.tuple #[.int .i64 (goN target lot qty), .int .i64 (goE target lot qty)]) ∧ Below w.heap.size w w' := by
  have F1 : ∀ w, Calls Tryz.prog 55 #[.int .i64 qty, .int .i64 0, .int .i64 1099511627776] w fun e w' => e = .returned (.bool (timeB qty)) ∧ w = w' := fun w => within_any qty 0 1099511627776 w
  have F2 := fun w => within_any target 0 qty w
  unfold goN goE
  cases hp : timeB qty
  · rw [hp] at F1
    clear hp F2
    simp only [Bool.false_and, Bool.false_eq_true, if_false]
    go_enter Tryz.func30, Tryz.ntmps30
    go_wp2_with fail
    refine (F1 _).mono ?_
    rintro e w1 ⟨rfl, rfl⟩
    go_wp2_with fail
    go_ret2
    exact ⟨rfl, Below.refl _ _⟩
  rw [hp] at F1
  cases hq : inB target 0 qty
  · rw [hq] at F2
    clear hp hq
    simp only [Bool.false_and, Bool.and_false, Bool.false_eq_true, if_false]
    go_enter Tryz.func30, Tryz.ntmps30
    go_wp2_with fail
    refine (F1 _).mono ?_
    rintro e w1 ⟨rfl, rfl⟩
    go_wp2_with fail
    refine (F2 _).mono ?_
    rintro e w1 ⟨rfl, rfl⟩
    go_wp2_with fail
    go_ret2
    exact ⟨rfl, Below.refl _ _⟩
  rw [hq] at F2
  have b1 := inB_iff.1 hp
  have b2 := inB_iff.1 hq
  have F3 := fun w => ceil_any target lot w (by omega) l1
  obtain ⟨N, hN⟩ : ∃ N, Hid (min (ceN target lot) qty = N) := ⟨_, rfl⟩
  obtain ⟨D, hD⟩ : ∃ D, Hid (ceE target lot = D) := ⟨_, rfl⟩
  have e1 : (if (true && (true && decide (1 ≤ lot))) = true then min (ceV target lot) qty else 0) = N := by
    rw [← hN.out]
    by_cases hl : 1 ≤ lot
    · rw [decide_eq_true hl]
      have hb : ¬ stepBad target lot := by unfold stepBad; omega
      have hf := ce_facts target lot hl b2.1
      have m0 := Int.emod_nonneg target (by omega : lot ≠ 0)
      have hv : ceV target lot ≤ 9223372036854775807 := by
        by_cases hz : target % lot = 0
        · rw [hf.2.2.2.1 hz]; omega
        · rw [hf.2.2.2.2 hz]
          by_cases hlt : target < lot
          · rw [Int.emod_eq_of_lt b2.1 hlt]; omega
          · omega
      show min (ceV target lot) qty = _
      unfold ceN
      rw [if_neg hb, (ans_is (ceV target lot) ⟨by omega, hv⟩).1]
    · rw [decide_eq_false hl]
      show 0 = _
      have hb : stepBad target lot := by unfold stepBad; omega
      unfold ceN
      rw [if_pos hb]; omega
  have e2 : (if (true && (true && decide (1 ≤ lot))) = true then (0 : Int) else 2) = D := by
    rw [← hD.out]
    by_cases hl : 1 ≤ lot
    · rw [decide_eq_true hl]
      have hb : ¬ stepBad target lot := by unfold stepBad; omega
      have hf := ce_facts target lot hl b2.1
      have m0 := Int.emod_nonneg target (by omega : lot ≠ 0)
      have hv : ceV target lot ≤ 9223372036854775807 := by
        by_cases hz : target % lot = 0
        · rw [hf.2.2.2.1 hz]; omega
        · rw [hf.2.2.2.2 hz]
          by_cases hlt : target < lot
          · rw [Int.emod_eq_of_lt b2.1 hlt]; omega
          · omega
      show 0 = _
      unfold ceE
      rw [if_neg hb, (ans_is (ceV target lot) ⟨by omega, hv⟩).2]
    · rw [decide_eq_false hl]
      show 2 = _
      have hb : stepBad target lot := by unfold stepBad; omega
      unfold ceE
      rw [if_pos hb]
  rw [e1, e2]
  rw [hD.out] at F3
  generalize ceN target lot = C at *
  clear e1 e2 hp hq b1 b2 hD
  go_enter Tryz.func30, Tryz.ntmps30
  go_wp2_with fail
  refine (F1 _).mono ?_
  rintro e w1 ⟨rfl, rfl⟩
  go_wp2_with fail
  refine (F2 _).mono ?_
  rintro e w1 ⟨rfl, rfl⟩
  go_wp2_with fail
  refine (F3 _).mono ?_
  rintro e w1 ⟨rfl, hb⟩
  go_wp2_with fail
  go_ret2
  exact ⟨by rw [← hN.out]; rfl, hb⟩
end Go.Proofs.YtdacfnodihannaaGreat.PA
