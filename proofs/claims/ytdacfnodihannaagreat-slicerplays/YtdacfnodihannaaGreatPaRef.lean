/-
  Contracts of the reference of layer 24 (in, Right, Vwap, Twap, Goal), for every input: its answers are those of the plain mathematics.
-/
import Derived.Test.YtdacfnodihannaaGreatPaMath
import Derived.Test.YtdacfnodihannaaGreatRef3Target
namespace Go.Proofs.YtdacfnodihannaaGreat.PA
open Go.ChangeShapes Go.WideShapes Go.ChangeAt Go.RowKit

theorem in_any (n low high : Int) (w : World) : Calls Tryz.prog 57 #[.int .i64 n, .int .i64 low, .int .i64 high] w fun e w' => e = .returned (.bool (inB n low high)) ∧ w = w' := by
  unfold inB
  by_cases h1 : low ≤ n
  · by_cases h2 : n ≤ high
    · rw [decide_eq_true ⟨h1, h2⟩]
      go_enter Tryz.func57, Tryz.ntmps57
      go_wp2
      go_ret
      exact ⟨rfl, rfl⟩
    · rw [decide_eq_false (fun k => h2 k.2)]
      go_enter Tryz.func57, Tryz.ntmps57
      go_wp2
      go_ret
      exact ⟨rfl, rfl⟩
  · rw [decide_eq_false (fun k => h1 k.1)]
    go_enter Tryz.func57, Tryz.ntmps57
    go_wp2
    go_ret
    exact ⟨rfl, rfl⟩
set_option maxHeartbeats 1000000 in
theorem rightR_any (qty st en nw E : Int) (hE : Hid (pacE qty st en nw = E)) (w : World) :
    Calls Tryz.prog 49 #[.int .i64 qty, .int .i64 st, .int .i64 en, .int .i64 nw] w fun e w' => e = .returned (.int .i64 E) ∧ w = w' := by
  have F1 : ∀ w, Calls Tryz.prog 57 #[.int .i64 qty, .int .i64 0, .int .i64 1099511627776] w fun e w' => e = .returned (.bool (timeB qty)) ∧ w = w' := fun w => in_any qty 0 1099511627776 w
  have F2 : ∀ w, Calls Tryz.prog 57 #[.int .i64 st, .int .i64 0, .int .i64 1099511627776] w fun e w' => e = .returned (.bool (timeB st)) ∧ w = w' := fun w => in_any st 0 1099511627776 w
  have F3 : ∀ w, Calls Tryz.prog 57 #[.int .i64 en, .int .i64 0, .int .i64 1099511627776] w fun e w' => e = .returned (.bool (timeB en)) ∧ w = w' := fun w => in_any en 0 1099511627776 w
  have F4 : ∀ w, Calls Tryz.prog 57 #[.int .i64 nw, .int .i64 0, .int .i64 1099511627776] w fun e w' => e = .returned (.bool (timeB nw)) ∧ w = w' := fun w => in_any nw 0 1099511627776 w
  have F5 := fun w => in_any (en - st) 1 1073741824 w
  have k := hE.out
  unfold pacE at k
  obtain ⟨p, hp⟩ : ∃ p, timeB qty = p := ⟨_, rfl⟩
  obtain ⟨q, hq⟩ : ∃ q, timeB st = q := ⟨_, rfl⟩
  obtain ⟨r, hr⟩ : ∃ r, timeB en = r := ⟨_, rfl⟩
  obtain ⟨s, hs⟩ : ∃ s, timeB nw = s := ⟨_, rfl⟩
  obtain ⟨t, ht⟩ : ∃ t, inB (en - st) 1 1073741824 = t := ⟨_, rfl⟩
  rw [hp, hq, hr, hs, ht] at k
  rw [hp] at F1
  rw [hq] at F2
  rw [hr] at F3
  rw [hs] at F4
  rw [ht] at F5
  clear hE
  cases p
  · replace k : 2 = E := k
    subst k
    clear hp hq hr hs ht F2 F3 F4 F5
    go_enter Tryz.func49, Tryz.ntmps49
    go_wp2_with fail
    refine (F1 _).mono ?_
    rintro e w1 ⟨rfl, rfl⟩
    go_wp2_with fail
    go_ret
    exact ⟨rfl, rfl⟩
  cases q
  · replace k : 2 = E := k
    subst k
    clear hp hq hr hs ht F3 F4 F5
    go_enter Tryz.func49, Tryz.ntmps49
    go_wp2_with fail
    refine (F1 _).mono ?_
    rintro e w1 ⟨rfl, rfl⟩
    go_wp2_with fail
    refine (F2 _).mono ?_
    rintro e w1 ⟨rfl, rfl⟩
    go_wp2_with fail
    go_ret
    exact ⟨rfl, rfl⟩
  cases r
  · replace k : 2 = E := k
    subst k
    clear hp hq hr hs ht F4 F5
    go_enter Tryz.func49, Tryz.ntmps49
    go_wp2_with fail
    refine (F1 _).mono ?_
    rintro e w1 ⟨rfl, rfl⟩
    go_wp2_with fail
    refine (F2 _).mono ?_
    rintro e w1 ⟨rfl, rfl⟩
    go_wp2_with fail
    refine (F3 _).mono ?_
    rintro e w1 ⟨rfl, rfl⟩
    go_wp2_with fail
    go_ret
    exact ⟨rfl, rfl⟩
  cases s
  · replace k : 2 = E := k
    subst k
    clear hp hq hr hs ht F5
    go_enter Tryz.func49, Tryz.ntmps49
    go_wp2_with fail
    refine (F1 _).mono ?_
    rintro e w1 ⟨rfl, rfl⟩
    go_wp2_with fail
    refine (F2 _).mono ?_
    rintro e w1 ⟨rfl, rfl⟩
    go_wp2_with fail
    refine (F3 _).mono ?_
    rintro e w1 ⟨rfl, rfl⟩
    go_wp2_with fail
    refine (F4 _).mono ?_
    rintro e w1 ⟨rfl, rfl⟩
    go_wp2_with fail
    go_ret
    exact ⟨rfl, rfl⟩
  have b1 := inB_iff.1 hq
  have b2 := inB_iff.1 hr
  have hw : wrap64 (en - st) = en - st := wrap_in _ (by omega) (by omega)
  clear hp hq hr hs b1 b2
  cases t
  · replace k : 282 = E := k
    subst k
    clear ht
    go_enter Tryz.func49, Tryz.ntmps49
    go_wp2_with fail
    refine (F1 _).mono ?_
    rintro e w1 ⟨rfl, rfl⟩
    go_wp2_with fail
    refine (F2 _).mono ?_
    rintro e w1 ⟨rfl, rfl⟩
    go_wp2_with fail
    refine (F3 _).mono ?_
    rintro e w1 ⟨rfl, rfl⟩
    go_wp2_with fail
    refine (F4 _).mono ?_
    rintro e w1 ⟨rfl, rfl⟩
    go_wp2_with fail
    refine (F5 _).mono ?_
    rintro e w1 ⟨rfl, rfl⟩
    go_wp2_with fail
    go_ret
    exact ⟨rfl, rfl⟩
  · replace k : 0 = E := k
    subst k
    clear ht
    go_enter Tryz.func49, Tryz.ntmps49
    go_wp2_with fail
    refine (F1 _).mono ?_
    rintro e w1 ⟨rfl, rfl⟩
    go_wp2_with fail
    refine (F2 _).mono ?_
    rintro e w1 ⟨rfl, rfl⟩
    go_wp2_with fail
    refine (F3 _).mono ?_
    rintro e w1 ⟨rfl, rfl⟩
    go_wp2_with fail
    refine (F4 _).mono ?_
    rintro e w1 ⟨rfl, rfl⟩
    go_wp2_with fail
    refine (F5 _).mono ?_
    rintro e w1 ⟨rfl, rfl⟩
    go_wp2_with fail
    go_ret
    exact ⟨rfl, rfl⟩

theorem vwapR_bad (qty st en nw : Int) (n cap : Nat) (a : Option Addr) (w : World) (E : Int) (hE : Hid (pacE qty st en nw = E)) (h0 : E ≠ 0) :
    Calls Tryz.prog 26 #[.int .i64 qty, .slice a n cap, .int .i64 st, .int .i64 en, .int .i64 nw] w fun e w' => e = .returned (.tuple #[.int .i64 0, .int .i64 E]) ∧ Below w.heap.size w w' := by
  have F := fun w => rightR_any qty st en nw E hE w
  have t1 : (E != 0) = true := by simp [h0]
  go_enter Tryz.func26, Tryz.ntmps26
  go_wp2_with fail
  refine (F _).mono ?_
  rintro e w1 ⟨rfl, rfl⟩
  go_wp2_with fail
  go_ret2
  exact ⟨rfl, Below.refl _ _⟩
theorem vwapR_wrong (qty st en nw : Int) (zs : Nat → Int) (n : Nat) (v : Value) (w : World) (hr : Row w v n fun i => .int .i64 (zs i)) (hz : ∀ i, n ≤ i → zs i = 0) (hc : ¬ Curve zs n) (h : Fine qty st en nw) :
    Calls Tryz.prog 26 #[.int .i64 qty, v, .int .i64 st, .int .i64 en, .int .i64 nw] w fun e w' => e = .returned (.tuple #[.int .i64 0, .int .i64 30]) ∧ Below w.heap.size w w' := by
  have F := fun w => rightR_any qty st en nw 0 (of_fine h) w
  have G := fun w h => right_no zs n v w h hz hc
  obtain ⟨a, cap, rfl, _⟩ := id hr
  clear h
  go_enter Tryz.func26, Tryz.ntmps26
  go_wp2_with fail
  refine (F _).mono ?_
  rintro e w1 ⟨rfl, rfl⟩
  go_wp2_with fail
  refine (G _ hr).mono ?_
  rintro e w2 ⟨rfl, hw2⟩
  subst hw2
  go_wp2_with fail
  go_ret2
  exact ⟨rfl, Below.refl _ _⟩
set_option maxHeartbeats 1000000 in
theorem vwapR_good (qty st en nw : Int) (zs : Nat → Int) (n : Nat) (v : Value) (w : World) (hr : Row w v n fun i => .int .i64 (zs i)) (hc : Curve zs n) (h : Fine qty st en nw) (x : Int) (hx : Hid (targetOf zs n qty (gone st en nw) (en - st) = x)) :
    Calls Tryz.prog 26 #[.int .i64 qty, v, .int .i64 st, .int .i64 en, .int .i64 nw] w fun e w' => e = .returned (.tuple #[.int .i64 x, .int .i64 0]) ∧ Below w.heap.size w w' := by
  have F := fun w => rightR_any qty st en nw 0 (of_fine h) w
  have G := fun w h => right_yes zs n v w h hc
  obtain ⟨a, cap, rfl, _⟩ := id hr
  by_cases h1 : nw ≤ st
  · have e1 : x = 0 := by rw [← hx.out, gone_start h.a0 h1, target_zero h.a0]
    subst e1
    clear h hx
    go_enter Tryz.func26, Tryz.ntmps26
    go_wp2_with fail
    refine (F _).mono ?_
    rintro e w1 ⟨rfl, rfl⟩
    go_wp2_with fail
    refine (G _ hr).mono ?_
    rintro e w2 ⟨rfl, hw2⟩
    subst hw2
    go_wp2_with fail
    go_ret2
    exact ⟨rfl, Below.refl _ _⟩
  by_cases h2 : en ≤ nw
  · have e1 : x = qty := by rw [← hx.out, gone_end h.a0 h2, target_all hc h.a0]
    subst e1
    clear h hx
    go_enter Tryz.func26, Tryz.ntmps26
    go_wp2_with fail
    refine (F _).mono ?_
    rintro e w1 ⟨rfl, rfl⟩
    go_wp2_with fail
    refine (G _ hr).mono ?_
    rintro e w2 ⟨rfl, hw2⟩
    subst hw2
    go_wp2_with fail
    go_ret2
    exact ⟨rfl, Below.refl _ _⟩
  · rw [gone_in (by omega) (by omega)] at hx
    have T := fun w h' => targetR_any qty zs n (.slice a n cap) w h' hc (nw - st) (en - st) ⟨⟨h.a0, h.a1⟩, by omega, by omega⟩ h.q0 h.q1 x hx
    have hw : wrap64 (en - st) = en - st := wrap_in _ (by have := h.s0; have := h.e1; have := h.e0; have := h.s1; omega) (by have := h.s0; have := h.e1; have := h.e0; have := h.s1; omega)
    have hw2 : wrap64 (nw - st) = nw - st := wrap_in _ (by have := h.s0; have := h.n1; have := h.n0; have := h.s1; omega) (by have := h.s0; have := h.n1; have := h.n0; have := h.s1; omega)
    clear h hx
    go_enter Tryz.func26, Tryz.ntmps26
    go_wp2_with fail
    refine (F _).mono ?_
    rintro e w1 ⟨rfl, rfl⟩
    go_wp2_with fail
    refine (G _ hr).mono ?_
    rintro e w2 ⟨rfl, hw2⟩
    subst hw2
    go_wp2_with fail
    refine (T _ hr).mono ?_
    rintro e w3 ⟨rfl, hb3⟩
    go_wp2_with fail
    go_ret2
    exact ⟨rfl, hb3⟩

/-- A list of one. -/
theorem one_row (w : World) (c : Int) (T : TypeId) : Row (w.alloc (.cells #[.int .i64 c] T)) (.slice (some ⟨w.heap.size, 0, none⟩) 1 1) 1 fun i => .int .i64 (flat 1 c i) := by
  refine ⟨_, 1, rfl, Nat.le_refl _, by unfold maxLen; omega, fun i hi => ⟨w.heap.size, 0, rfl, ?_⟩⟩
  obtain rfl : i = 0 := by omega
  simp [flat, World.cell?_alloc_at]
theorem twapR_good (qty st en nw : Int) (w : World) (h : Fine qty st en nw) (x : Int) (hx : Hid (qty * gone st en nw / (en - st) = x)) :
    Calls Tryz.prog 29 #[.int .i64 qty, .int .i64 st, .int .i64 en, .int .i64 nw] w fun e w' => e = .returned (.tuple #[.int .i64 x, .int .i64 0]) ∧ Below w.heap.size w w' := by
  have F := fun T => vwapR_good qty st en nw (flat 1 1) 1 _ _ (one_row w 1 T) (flat_curve 1 1 (by omega) (by omega) (by omega) (by omega)) h x (by show _ = _; rw [flat_target 1 1 (by omega) (by omega) (gone_asked h)]; exact hx.out)
  clear h hx
  go_enter Tryz.func29, Tryz.ntmps29
  go_wp2_with fail
  refine (F _).mono ?_
  rintro e w1 ⟨rfl, hb⟩
  go_wp2_with fail
  go_ret2
  exact ⟨rfl, ((Below.refl _ w).alloc (Nat.le_refl _) _).trans (hb.mono (by simp))⟩
theorem twapR_bad (qty st en nw : Int) (w : World) (E : Int) (hE : Hid (pacE qty st en nw = E)) (h0 : E ≠ 0) :
    Calls Tryz.prog 29 #[.int .i64 qty, .int .i64 st, .int .i64 en, .int .i64 nw] w fun e w' => e = .returned (.tuple #[.int .i64 0, .int .i64 E]) ∧ Below w.heap.size w w' := by
  have F := fun n cap a w => vwapR_bad qty st en nw n cap a w E hE h0
  clear h0 hE
  go_enter Tryz.func29, Tryz.ntmps29
  go_wp2_with fail
  refine (F _ _ _ _).mono ?_
  rintro e w1 ⟨rfl, hb⟩
  go_wp2_with fail
  go_ret2
  exact ⟨rfl, ((Below.refl _ w).alloc (Nat.le_refl _) _).trans (hb.mono (by simp))⟩
end Go.Proofs.YtdacfnodihannaaGreat.PA
