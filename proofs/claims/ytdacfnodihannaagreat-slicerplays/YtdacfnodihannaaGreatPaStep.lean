/-
  Contracts of package pace's within, isTime, paced (with either closure), Twap, Vwap and Goal, for every input.
-/
import Derived.Test.YtdacfnodihannaaGreatPaMath
namespace Go.Proofs.YtdacfnodihannaaGreat.PA
open Go.ChangeShapes Go.WideShapes Go.ChangeAt Go.RowKit

theorem within_any (n low high : Int) (w : World) : Calls Tryz.prog 55 #[.int .i64 n, .int .i64 low, .int .i64 high] w fun e w' => e = .returned (.bool (inB n low high)) ∧ w = w' := by
  unfold inB
  by_cases h1 : low ≤ n
  · by_cases h2 : n ≤ high
    · rw [decide_eq_true ⟨h1, h2⟩]
      go_enter Tryz.func55, Tryz.ntmps55
      go_wp2
      go_ret
      exact ⟨rfl, rfl⟩
    · rw [decide_eq_false (fun k => h2 k.2)]
      go_enter Tryz.func55, Tryz.ntmps55
      go_wp2
      go_ret
      exact ⟨rfl, rfl⟩
  · rw [decide_eq_false (fun k => h1 k.1)]
    go_enter Tryz.func55, Tryz.ntmps55
    go_wp2
    go_ret
    exact ⟨rfl, rfl⟩
theorem time_any (n : Int) (w : World) : Calls Tryz.prog 87 #[.int .i64 n] w fun e w' => e = .returned (.bool (timeB n)) ∧ w = w' := by
  have F := fun w => within_any n 0 1099511627776 w
  unfold timeB
  generalize inB n 0 1099511627776 = b at *
  go_enter Tryz.func87, Tryz.ntmps87
  go_wp2_with fail
  refine (F _).mono ?_
  rintro e w1 ⟨rfl, rfl⟩
  go_wp2_with fail
  go_ret
  exact ⟨rfl, rfl⟩

set_option maxHeartbeats 1000000 in
theorem paced_bad (qty st en nw E : Int) (hE : Hid (pacE qty st en nw = E)) (h0 : E ≠ 0) (f : Value) (w : World) :
    Calls Tryz.prog 65 #[.int .i64 qty, .int .i64 st, .int .i64 en, .int .i64 nw, f] w fun e w' => e = .returned (.tuple #[.int .i64 0, .int .i64 E]) ∧ w = w' := by
  have F1 : ∀ w, Calls Tryz.prog 55 #[.int .i64 qty, .int .i64 0, .int .i64 1099511627776] w fun e w' => e = .returned (.bool (timeB qty)) ∧ w = w' := fun w => within_any qty 0 1099511627776 w
  have F2 := fun w => time_any st w
  have F3 := fun w => time_any en w
  have F4 := fun w => time_any nw w
  have F5 := fun w => within_any (en - st) 1 1073741824 w
  have k := hE.out
  unfold pacE at k
  obtain ⟨p, hp⟩ : ∃ p, timeB qty = p := ⟨_, rfl⟩
  obtain ⟨q, hq⟩ : ∃ q, timeB st = q := ⟨_, rfl⟩
  obtain ⟨r, hr⟩ : ∃ r, timeB en = r := ⟨_, rfl⟩
  obtain ⟨s, hs⟩ : ∃ s, timeB nw = s := ⟨_, rfl⟩
  obtain ⟨t, ht⟩ : ∃ t, inB (en - st) 1 1073741824 = t := ⟨_, rfl⟩
  rw [hp, hq, hr, hs, ht] at k
  rw [hp] at F1
  rw [hq] at F2
  rw [hr] at F3
  rw [hs] at F4
  rw [ht] at F5
  clear hE
  cases p
  · replace k : 2 = E := k
    subst k
    clear hp hq hr hs ht F2 F3 F4 F5 h0
    go_enter Tryz.func65, Tryz.ntmps65
    go_wp2_with fail
    refine (F1 _).mono ?_
    rintro e w1 ⟨rfl, rfl⟩
    go_wp2_with fail
    go_ret2
    exact ⟨rfl, rfl⟩
  cases q
  · replace k : 2 = E := k
    subst k
    clear hp hq hr hs ht F3 F4 F5 h0
    go_enter Tryz.func65, Tryz.ntmps65
    go_wp2_with fail
    refine (F1 _).mono ?_
    rintro e w1 ⟨rfl, rfl⟩
    go_wp2_with fail
    refine (F2 _).mono ?_
    rintro e w1 ⟨rfl, rfl⟩
    go_wp2_with fail
    go_ret2
    exact ⟨rfl, rfl⟩
  cases r
  · replace k : 2 = E := k
    subst k
    clear hp hq hr hs ht F4 F5 h0
    go_enter Tryz.func65, Tryz.ntmps65
    go_wp2_with fail
    refine (F1 _).mono ?_
    rintro e w1 ⟨rfl, rfl⟩
    go_wp2_with fail
    refine (F2 _).mono ?_
    rintro e w1 ⟨rfl, rfl⟩
    go_wp2_with fail
    refine (F3 _).mono ?_
    rintro e w1 ⟨rfl, rfl⟩
    go_wp2_with fail
    go_ret2
    exact ⟨rfl, rfl⟩
  cases s
  · replace k : 2 = E := k
    subst k
    clear hp hq hr hs ht F5 h0
    go_enter Tryz.func65, Tryz.ntmps65
    go_wp2_with fail
    refine (F1 _).mono ?_
    rintro e w1 ⟨rfl, rfl⟩
    go_wp2_with fail
    refine (F2 _).mono ?_
    rintro e w1 ⟨rfl, rfl⟩
    go_wp2_with fail
    refine (F3 _).mono ?_
    rintro e w1 ⟨rfl, rfl⟩
    go_wp2_with fail
    refine (F4 _).mono ?_
    rintro e w1 ⟨rfl, rfl⟩
    go_wp2_with fail
    go_ret2
    exact ⟨rfl, rfl⟩
  cases t
  · replace k : 282 = E := k
    subst k
    have b1 := inB_iff.1 hq
    have b2 := inB_iff.1 hr
    have hw : wrap64 (en - st) = en - st := wrap_in _ (by omega) (by omega)
    clear hp hq hr hs ht b1 b2 h0
    go_enter Tryz.func65, Tryz.ntmps65
    go_wp2_with fail
    refine (F1 _).mono ?_
    rintro e w1 ⟨rfl, rfl⟩
    go_wp2_with fail
    refine (F2 _).mono ?_
    rintro e w1 ⟨rfl, rfl⟩
    go_wp2_with fail
    refine (F3 _).mono ?_
    rintro e w1 ⟨rfl, rfl⟩
    go_wp2_with fail
    refine (F4 _).mono ?_
    rintro e w1 ⟨rfl, rfl⟩
    go_wp2_with fail
    refine (F5 _).mono ?_
    rintro e w1 ⟨rfl, rfl⟩
    go_wp2_with fail
    go_ret2
    exact ⟨rfl, rfl⟩
  · exact absurd k.symm h0
end Go.Proofs.YtdacfnodihannaaGreat.PA
