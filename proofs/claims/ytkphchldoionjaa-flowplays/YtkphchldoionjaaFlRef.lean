/-
  Contracts of the reference of layer 25: in, Print (over a list of numbers), Target.
-/
import Derived.Test.YtkphchldoionjaaFlTape
import Derived.Test.YtkphchldoionjaaRefPart
namespace Go.Proofs.Ytkphchldoionjaa.FL
open Go.ChangeShapes Go.WideShapes Go.ChangeAt Go.RowKit Go.Lib

theorem inR_any (n low high : Int) (w : World) : Calls Try.prog 18 #[.int .i64 n, .int .i64 low, .int .i64 high] w fun e w' => e = .returned (.bool (inB n low high)) ∧ w = w' := by
  unfold inB
  by_cases h1 : low ≤ n
  · by_cases h2 : n ≤ high
    · rw [decide_eq_true ⟨h1, h2⟩]
      go_enter Try.func18, Try.ntmps18
      go_wp2
      go_ret
      exact ⟨rfl, rfl⟩
    · rw [decide_eq_false (fun k => h2 k.2)]
      go_enter Try.func18, Try.ntmps18
      go_wp2
      go_ret
      exact ⟨rfl, rfl⟩
  · rw [decide_eq_false (fun k => h1 k.1)]
    go_enter Try.func18, Try.ntmps18
    go_wp2
    go_ret
    exact ⟨rfl, rfl⟩
set_option maxHeartbeats 1000000 in
theorem printR_any {w : World} {r n : Nat} {T : Nat → Int} (K : IntG w r n T) (hn : n ≤ 16) (hg : Good n T) (s q : Int) : Calls Try.prog 10 #[.slice (some ⟨r, 0, none⟩) n n, .int .i64 s, .int .i64 q] w fun e w' => e = .returned (.int .i64 (prE n T s q)) ∧ IntG w' r n (prT n T s q) ∧ But (fun k => k = r) w w' := by
  have F1 := fun w => inR_any s 0 ((n : Int) - 1) w
  have F2 := fun w => inR_any q 1 1099511627776 w
  have hw0 : wrap64 ((n : Int) - 1) = (n : Int) - 1 := wrap_in _ (by omega) (by omega)
  by_cases hbad : (inB s 0 ((n : Int) - 1) && inB q 1 1099511627776) = false
  · have eE : prE n T s q = 2 := by unfold prE; rw [hbad]; rfl
    have eT : prT n T s q = T := by unfold prT; rw [eE]; rfl
    rw [eE, eT]
    have R' : Hid (IntG w r n T ∧ But (fun k => k = r) w w) := ⟨K, But.refl _ _⟩
    clear eE eT K
    cases h1 : inB s 0 ((n : Int) - 1)
    · rw [h1] at F1
      clear hbad h1 F2
      go_enter Try.func10, Try.ntmps10
      go_wp2_with fail
      refine (F1 _).mono ?_
      rintro e w1 ⟨rfl, rfl⟩
      go_wp2_with fail
      go_ret
      exact ⟨rfl, R'.out⟩
    · rw [h1] at F1 hbad
      rw [Bool.true_and] at hbad
      rw [hbad] at F2
      clear hbad h1
      go_enter Try.func10, Try.ntmps10
      go_wp2_with fail
      refine (F1 _).mono ?_
      rintro e w1 ⟨rfl, rfl⟩
      go_wp2_with fail
      refine (F2 _).mono ?_
      rintro e w1 ⟨rfl, rfl⟩
      go_wp2_with fail
      go_ret
      exact ⟨rfl, R'.out⟩
  · have hok : (inB s 0 ((n : Int) - 1) && inB q 1 1099511627776) = true := by simpa using hbad
    clear hbad
    have hok' := hok
    simp only [Bool.and_eq_true] at hok'
    rw [hok'.1] at F1
    rw [hok'.2] at F2
    have b1 := inB_iff.1 hok'.1
    have b2 := inB_iff.1 hok'.2
    obtain ⟨i, rfl⟩ : ∃ i : Nat, s = (i : Int) := ⟨s.toNat, by omega⟩
    have hi : i < n := by omega
    have d := K.cell i hi
    have gd := hg i hi
    have hw : wrap64 (T i + q) = T i + q := wrap_in _ (by omega) (by omega)
    by_cases ho : 4611686018427387904 < T i + q
    · have eE : prE n T i q = 10 := by unfold prE; rw [hok, if_pos rfl, Int.toNat_natCast, if_pos ho]
      have eT : prT n T i q = T := by unfold prT; rw [eE]; rfl
      rw [eE, eT]
      have R' : Hid (IntG w r n T ∧ But (fun k => k = r) w w) := ⟨K, But.refl _ _⟩
      clear eE eT K hok hok' b1 b2 gd
      go_enter Try.func10, Try.ntmps10
      go_wp2_with fail
      refine (F1 _).mono ?_
      rintro e w1 ⟨rfl, rfl⟩
      go_wp2_with fail
      refine (F2 _).mono ?_
      rintro e w1 ⟨rfl, rfl⟩
      go_wp2_with fail
      go_ret
      exact ⟨rfl, R'.out⟩
    · have eE : prE n T i q = 0 := by unfold prE; rw [hok, if_pos rfl, Int.toNat_natCast, if_neg ho]
      have eT : prT n T i q = upd T i (T i + q) := by unfold prT; rw [eE, if_pos rfl, Int.toNat_natCast]
      rw [eE, eT]
      have R' : Hid (∀ v, v = T i + q → IntG (w.setCell ⟨r, i, none⟩ (.int .i64 v)) r n (upd T i (T i + q)) ∧ But (fun k => k = r) w (w.setCell ⟨r, i, none⟩ (.int .i64 v))) := by
        rintro v rfl
        exact ⟨K.set i _, (But.refl _ _).setCell _ _ _ (fun _ => rfl)⟩
      have fz := K.thaw i
      clear eE eT K hok hok' b1 b2 gd
      go_enter Try.func10, Try.ntmps10
      go_wp2_with fail
      refine (F1 _).mono ?_
      rintro e w1 ⟨rfl, rfl⟩
      go_wp2_with fail
      refine (F2 _).mono ?_
      rintro e w1 ⟨rfl, rfl⟩
      go_wp2_with fail
      go_ret
      exact ⟨rfl, R'.out _ rfl⟩
set_option maxHeartbeats 1000000 in
theorem targetR_any (q r v : Int) (w : World) : Calls Try.prog 13 #[.int .i64 q, .int .i64 r, .int .i64 v] w fun e w' => e = .returned (.tuple #[.int .i64 (tgN q r v), .int .i64 (tgE q r v)]) ∧ Below w.heap.size w w' := by
  have F1 := fun w => inR_any q 0 1099511627776 w
  have F2 := fun w => inR_any r 0 10000 w
  have F3 := fun w => inR_any v 0 4611686018427387904 w
  unfold tgN tgE
  cases hf : fineB q r v
  · simp only [Bool.false_eq_true, if_false]
    unfold fineB at hf
    cases h1 : inB q 0 1099511627776
    · rw [h1] at F1
      clear hf F2 F3 h1
      go_enter Try.func13, Try.ntmps13
      go_wp2_with fail
      refine (F1 _).mono ?_
      rintro e w1 ⟨rfl, rfl⟩
      go_wp2_with fail
      go_ret2
      exact ⟨rfl, Below.refl _ _⟩
    · rw [h1] at F1 hf
      rw [Bool.true_and] at hf
      cases h2 : inB r 0 10000
      · rw [h2] at F2
        clear hf F3 h1 h2
        go_enter Try.func13, Try.ntmps13
        go_wp2_with fail
        refine (F1 _).mono ?_
        rintro e w1 ⟨rfl, rfl⟩
        go_wp2_with fail
        refine (F2 _).mono ?_
        rintro e w1 ⟨rfl, rfl⟩
        go_wp2_with fail
        go_ret2
        exact ⟨rfl, Below.refl _ _⟩
      · rw [h2] at F2 hf
        rw [Bool.true_and] at hf
        rw [hf] at F3
        clear hf h1 h2
        go_enter Try.func13, Try.ntmps13
        go_wp2_with fail
        refine (F1 _).mono ?_
        rintro e w1 ⟨rfl, rfl⟩
        go_wp2_with fail
        refine (F2 _).mono ?_
        rintro e w1 ⟨rfl, rfl⟩
        go_wp2_with fail
        refine (F3 _).mono ?_
        rintro e w1 ⟨rfl, rfl⟩
        go_wp2_with fail
        go_ret2
        exact ⟨rfl, Below.refl _ _⟩
  · have h := fine_of hf
    have pb := part_bd h
    rw [inB_yes h.q0 h.q1] at F1
    rw [inB_yes h.r0 h.r1] at F2
    rw [inB_yes h.v0 h.v1] at F3
    have F4 := fun w => fractionR_any v r 10000 false w (by have := h.v0; omega) (by have := h.v1; omega) (by have := h.r0; omega) (by have := h.r1; omega) (by omega) (by omega) (by decide)
    have ha := ans_in (vol r v) (by omega)
    rw [part_frac h, ha.1, ha.2] at F4
    simp only [if_true]
    clear hf h ha
    generalize vol r v = p at *
    clear pb
    by_cases hm : q < p
    · rw [show min p q = q by omega]
      go_enter Try.func13, Try.ntmps13
      go_wp2_with fail
      refine (F1 _).mono ?_
      rintro e w1 ⟨rfl, rfl⟩
      go_wp2_with fail
      refine (F2 _).mono ?_
      rintro e w1 ⟨rfl, rfl⟩
      go_wp2_with fail
      refine (F3 _).mono ?_
      rintro e w1 ⟨rfl, rfl⟩
      go_wp2_with fail
      refine (F4 _).mono ?_
      rintro e w1 ⟨rfl, hb⟩
      go_wp2_with fail
      go_ret2
      exact ⟨rfl, hb⟩
    · rw [show min p q = p by omega]
      go_enter Try.func13, Try.ntmps13
      go_wp2_with fail
      refine (F1 _).mono ?_
      rintro e w1 ⟨rfl, rfl⟩
      go_wp2_with fail
      refine (F2 _).mono ?_
      rintro e w1 ⟨rfl, rfl⟩
      go_wp2_with fail
      refine (F3 _).mono ?_
      rintro e w1 ⟨rfl, rfl⟩
      go_wp2_with fail
      refine (F4 _).mono ?_
      rintro e w1 ⟨rfl, hb⟩
      go_wp2_with fail
      go_ret2
      exact ⟨rfl, hb⟩
end Go.Proofs.Ytkphchldoionjaa.FL
