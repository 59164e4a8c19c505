/-
  Contract of the third reference's Spread, for every curve and quantity that may be asked for.
-/
import Derived.Test.YtipgajilchkneaaRef3Target
import Derived.Test.YtipgajilchkneaaCurveSpread
namespace Go.Proofs.Ytipgajilchkneaa
open Go.ChangeShapes Go.WideShapes Go.ChangeAt Go.RowKit

/-- Over as many ticks as there are buckets, the target at tick k is what is due by the first k buckets. -/
theorem target_due (zs : Nat → Int) (n : Nat) (qty : Int) (k : Nat) (hn : 0 < n) : targetOf zs n qty (k : Int) (n : Int) = dueOf zs n qty k := by
  unfold targetOf dueOf
  rw [doneOf_at zs ((k : Int) * (n : Int)) (n : Int) k 0 (Int.le_refl _) (by omega) (by rw [Int.add_zero, Int.mul_comm])]
  rw [Int.mul_zero, Int.add_zero, ← Int.mul_assoc, Int.mul_ediv_mul_of_pos_left _ _ (by omega : (0 : Int) < (n : Int))]

set_option maxRecDepth 100000 in
set_option maxHeartbeats 2000000 in
theorem spreadR_any (qty : Int) (zs : Nat → Int) (n : Nat) (v : Value) (w : World) (h : Row w v n fun i => .int .i64 (zs i)) (hc : Curve zs n) (q0 : 0 ≤ qty) (q1 : qty ≤ 1099511627776) :
    Calls Try.prog 20 #[.int .i64 qty, v] w fun e w' => ∃ v', e = .returned v' ∧ Below w.heap.size w w' ∧ Row w' v' n fun i => .int .i64 (dueOf zs n qty (i + 1) - dueOf zs n qty i) := by
  obtain ⟨a, cap, rfl, h1, h2, h3⟩ := id h
  unfold maxLen at h2
  have hlen := hc.len
  have hpos : 0 < n := by
    rcases Nat.eq_zero_or_pos n with e | e
    · subst e; have := hc.some; simp [sumTo] at this
    · exact e
  have TR : ∀ k, k < n → ∀ w, (Row w (.slice a n cap) n fun i => .int .i64 (zs i)) → Calls Try.prog 17 #[.int .i64 qty, .slice a n cap, .int .i64 ((k : Int) + 1), .int .i64 (n : Int)] w fun e w' => e = .returned (.int .i64 (dueOf zs n qty (k + 1))) ∧ Below w.heap.size w w' := fun k hk w h =>
    targetR_any qty zs n _ w h hc ((k : Int) + 1) (n : Int) (by unfold Asked; omega) q0 q1 _ (target_due zs n qty (k + 1) hpos)
  have HB : Hid (∀ k, 0 ≤ dueOf zs n qty k ∧ dueOf zs n qty k ≤ qty) := fun k => due_bd hc q0 k
  have H0 : Hid (dueOf zs n qty 0 = 0) := by show _ = _; simp [dueOf, sumTo]
  obtain ⟨i0, hi, hz0, hz1, hz2⟩ := info_parts Try.infoInt
  generalize dueOf zs n qty = due at *
  go_enter Try.func20, Try.ntmps20
  go_wp2_with fail
  go_loopw [5, 6, 7] (fun u s c wr => ∃ k : Nat, s = .int .i64 (due k) ∧ c = .int .i64 (k : Int) ∧ k ≤ n ∧ wr.ownsRow w.heap.size 3 1 u k ((List.range k).map fun i => Value.int .i64 (due (i + 1) - due i)) ∧ Below w.heap.size w wr) (fun _ _ c _ => n - (intOf c).toNat)
  case atStart => exact ⟨0, by rw [H0.out], rfl, Nat.zero_le _, World.ownsRow_nil _ _ _ _, Below.refl _ _⟩
  case round =>
    obtain ⟨k, rfl, rfl, hk, row, hB⟩ := hrel
    by_cases hlt : k < n
    · have t : (k : Int) < (n : Int) := by omega
      have F := TR k hlt
      have b0 := HB.out k
      have b1 := HB.out (k + 1)
      have HR : Hid ((List.range (k + 1)).map (fun i => Value.int .i64 (due (i + 1) - due i)) = (List.range k).map (fun i => Value.int .i64 (due (i + 1) - due i)) ++ [.int .i64 (due (k + 1) - due k)]) := by
        show _ = _
        rw [List.range_succ, List.map_append]; rfl
      have HW : Hid (wrap64 (due (k + 1) - due k) = due (k + 1) - due k) := wrap_in _ (by omega) (by omega)
      obtain ⟨x, hx⟩ : ∃ x, Hid (due (k + 1) = x) := ⟨_, rfl⟩
      obtain ⟨g, hg⟩ : ∃ g, Hid (due k = g) := ⟨_, rfl⟩
      obtain ⟨L, hL⟩ : ∃ L, Hid ((List.range k).map (fun i => Value.int .i64 (due (i + 1) - due i)) = L) := ⟨_, rfl⟩
      rw [hx.out, hg.out] at HW
      rw [hx.out] at F
      rw [hL.out] at row
      rw [hL.out, hx.out, hg.out] at HR
      rw [hg.out]
      clear b0 b1 TR h3
      go_wp2_with fail
      refine (F _ (h.below hB)).mono ?_
      rintro e w1 ⟨rfl, hb1⟩
      have B1 := hB.trans (hb1.mono hB.size)
      have row1 := owns_below row hb1
      have s1 := B1.size
      clear row hb1 hB
      go_wp2_with (at_builtin; refine wpList_append_own _ rfl _ _ 22 rfl w.heap.size 3 i0 (.int .i64 0) 1 8 Try.underlying22 hi hz0 hz1 hz2 rfl (by decide) _ _ _ rfl (row1.alloc _) ⟨w1.heap.size, 0, none⟩ 1 1 [.int .i64 (wrap64 (x - g))] rfl rfl ?c1 ?c2 ?c3 ?c4 ?c5 ?_)
      case c1 => exact cell_one_new _ _ _
      case c2 => simp [Value.oneCell']
      case c3 => unfold maxLen; omega
      case c4 => omega
      case c5 => simp; omega
      intro v' w' hown' hgrow _
      have B2 := (B1.alloc (by omega) _).grown hgrow (by simp; omega) (fun k hk => (row1.lt k hk).1)
      rw [HW.out, ← HR.out] at hown'
      clear hgrow row1 B1
      go_wp2_with fail
      go_roundw
      case rel => exact ⟨k + 1, by rw [hx.out], by simp, by omega, hown', B2⟩
      case measure => simp [intOf]; omega
    · have hkn : k = n := by omega
      subst hkn
      have t : ¬ (k : Int) < (k : Int) := by omega
      have hr := row_of_owns row (fun i => .int .i64 (due (i + 1) - due i)) (fun i hi => by simp [hi])
      go_wp2_with fail
      go_ret
      exact ⟨_, rfl, hB, hr⟩
end Go.Proofs.Ytipgajilchkneaa
