/-
  BodyDigits: each number from 0 on is read from its digits, and from no others; with a nought ahead, a sign or a blank it is none.
-/
import Derived.Test.YtbbocekijkpjnaaBodyAwake
import Derived.Test.YtbbocekijkpjnaaBodyNums
import Derived.Test.YtbbocekijkpjnaaRefDigits
namespace Go.Proofs.Ytbbocekijkpjnaa
open Go.ChangeShapes Go.WideShapes Go.ChangeAt Go.RowKit Go.Lib

theorem add_run11 (a b X : ByteArray) (h : a ++ b = X) (h1 : a.size ≤ 1000000) (h2 : b.size ≤ 1000000) : ∀ w, (Op.stringOp .add a b).run Try.prog w = .ok (.string X) w := by
  intro w
  rw [run_string_add_sum, h]
  omega
theorem mk_add11 (a b : List UInt8) : mk a ++ mk b = mk (a ++ b) := bytes_ext8 (by simp [mk])
set_option maxRecDepth 1000000 in
set_option maxHeartbeats 4000000 in
theorem digits_main (n : Nat) (hn : n ≤ 9223372036854775807) (w : World) :
    Calls Try.prog 5 #[.int .i64 (n : Int)] w fun e w' => e = .returned (.bool true) ∧ Below w.heap.size w w' := by
  have A := awake11_any w
  have D := refDigits_all n hn
  have hl := digits_short 18 n (by omega)
  have N1 := fun w => number_any (mk (decDigits n)) w (by rw [mk_size]; unfold maxLen; omega)
  have N2 := fun w => number_any (mk (48 :: decDigits n)) w (by rw [mk_size]; unfold maxLen; simp; omega)
  have N3 := fun w => number_any (mk (43 :: decDigits n)) w (by rw [mk_size]; unfold maxLen; simp; omega)
  have N4 := fun w => number_any (mk (decDigits n ++ [32])) w (by rw [mk_size]; unfold maxLen; simp; omega)
  have N5 := fun w => numbers_any (mk (decDigits n ++ 44 :: decDigits n)) w (by rw [mk_size]; simp; omega)
  rw [mk_list, num_dec hn] at N1
  rw [mk_list, num_nought] at N2
  rw [mk_list, num_plus] at N3
  rw [mk_list, num_blank] at N4
  rw [mk_list, nums_two hn] at N5
  have sz : (mk (decDigits n)).size ≤ 19 := by rw [mk_size]; exact hl
  have j1 := add_run11 ⟨#[48]⟩ (mk (decDigits n)) (mk (48 :: decDigits n)) (mk_add11 [48] _) (by decide) (by omega)
  have j2 := add_run11 ⟨#[43]⟩ (mk (decDigits n)) (mk (43 :: decDigits n)) (mk_add11 [43] _) (by decide) (by omega)
  have j3 := add_run11 (mk (decDigits n)) ⟨#[32]⟩ (mk (decDigits n ++ [32])) (mk_add11 _ [32]) (by omega) (by decide)
  have j4 := add_run11 (mk (decDigits n)) ⟨#[44]⟩ (mk (decDigits n ++ [44])) (mk_add11 _ [44]) (by omega) (by decide)
  have j5 := add_run11 (mk (decDigits n ++ [44])) (mk (decDigits n)) (mk (decDigits n ++ 44 :: decDigits n)) (by rw [mk_add11]; simp) (by rw [mk_size, List.length_append]; simp; omega) (by omega)
  dsimp only at N1 N2 N3 N4
  rw [show listE (some [n, n]) = ([n, n], 0) from rfl] at N5
  dsimp only at N5
  generalize mk (decDigits n) = d at *
  generalize mk (48 :: decDigits n) = d1 at *
  generalize mk (43 :: decDigits n) = d2 at *
  generalize mk (decDigits n ++ [32]) = d3 at *
  generalize mk (decDigits n ++ [44]) = d4 at *
  generalize mk (decDigits n ++ 44 :: decDigits n) = d5 at *
  have t0 : ¬ (n : Int) < 0 := by omega
  clear hl sz
  go_enter Try.func5, Try.ntmps5
  go_wp2_with fail
  refine A.mono ?_
  rintro e w1 ⟨rfl, b1⟩
  go_wp2_with fail
  refine (D _).mono ?_
  rintro e w2 ⟨rfl, b2⟩
  go_wp2_with fail
  refine (N1 _).mono ?_
  rintro e w3 ⟨rfl, rfl⟩
  go_wp2_with fail
  refine (N2 _).mono ?_
  rintro e w4 ⟨rfl, rfl⟩
  go_wp2_with fail
  refine (N3 _).mono ?_
  rintro e w5 ⟨rfl, rfl⟩
  go_wp2_with fail
  refine (N4 _).mono ?_
  rintro e w6 ⟨rfl, rfl⟩
  go_wp2_with fail
  refine (N5 _).mono ?_
  rintro e w7 ⟨v, rfl, Q⟩
  have HB : Hid (Below w.heap.size w w7) := (b1.trans (b2.mono b1.size)).trans (Q.below.mono (b1.trans (b2.mono b1.size)).size)
  obtain ⟨a, cap, rfl, r1, r2, r3⟩ := Q.row
  obtain ⟨b, off, rfl, k0⟩ := r3 0 (by simp)
  obtain ⟨b', off', e2, k1⟩ := r3 1 (by simp)
  simp only [Option.some.injEq, Addr.mk.injEq] at e2
  obtain ⟨rfl, rfl, _⟩ := e2
  have q0 : w7.cell? ⟨b, off, none⟩ = some (.int .i64 (n : Int)) := k0
  have q1 : w7.cell? ⟨b, off + 1, none⟩ = some (.int .i64 (n : Int)) := k1
  clear k0 k1
  clear Q r3 b1 b2 N1 N2 N3 N4 N5 D A j1 j2 j3 j4 j5
  go_wp2_with fail
  go_ret
  exact ⟨rfl, HB.out⟩
set_option maxHeartbeats 1000000 in
theorem bodyDigits_walk (w : World) (a : Int) (ha : -9223372036854775808 ≤ a ∧ a ≤ 9223372036854775807) :
    Calls Try.prog 5 #[.int .i64 a] w fun e w' => e = .returned (.bool true) ∧ Below w.heap.size w w' := by
  by_cases h : a < 0
  · have A := awake11_any w
    go_enter Try.func5, Try.ntmps5
    go_wp2_with fail
    refine A.mono ?_
    rintro e w1 ⟨rfl, b1⟩
    go_wp2_with fail
    go_ret
    exact ⟨rfl, b1⟩
  · obtain ⟨n, rfl⟩ : ∃ n : Nat, a = (n : Int) := ⟨a.toNat, by omega⟩
    exact digits_main n (by omega) w
theorem bodyDigits_own : ownKnob Try.prog.godebug = none := by kernel_rfl
theorem bodyDigits_laidOut : laidOutB Try.prog = true := by kernel_rfl
set_option maxRecDepth 100000 in
theorem bodyDigits_lifted (os : Os) (started : os.Started) (H : Type) (enc : TypeId × Value → H) :
    ReturnsInHanded {} Try.checked os 5 .any (Rows.bodyDigitsSpec.pre6 enc Try.prog Try.f5 Rows.bodyDigitsRow.domain false) (Rows.bodyDigitsSpec.post enc Try.prog Try.f5 false true false false) := by
  refine returnsInHanded_of_change (C := Try.checked) bodyDigits_own started (by kernel_rfl) Try.func5
    (ChangeSpec.witness6 (enc := enc) (C := Try.checked) false ⟨#[], #[.int .i64 0], []⟩ 8 (by kernel_rfl) (by kernel_rfl) (by kernel_rfl) (by kernel_rfl)) ?_
  intro W base args ds gs before hval0 hW hcnd _
  have hval : ∀ (j : Nat) t v, Try.f5.params[j]? = some t → args[j]? = some v → Value.okWide Try.prog W .any base t v := hval0
  have hW' := hW
  obtain ⟨p, q, hA0, hV, rfl, hfz, hnd⟩ := hW
  have hA : DataW.TrodAll enc Try.prog W 0 (fun _ => true) true Try.f5.params.toList args.toList ds p := hA0
  rw [Try.params5] at hA hval
  obtain ⟨v0, vs0, d0, ds0, p0, q0, hargs, rfl, rfl, h0, r0⟩ := trodAll_cons hA
  obtain ⟨rfl, rfl, rfl⟩ := trodAll_nil r0
  obtain rfl : args = #[v0] := by cases args; simp_all
  obtain ⟨rfl, rfl⟩ := trodVars_none hV
  obtain ⟨a0, rfl, rfl, rfl, w0⟩ := open_int Try.underlying3 (hval 0 3 v0 rfl rfl) h0
  have bd0 := bounds_i64 w0
  clear hA0 hval0
  simp only [List.append_nil] at hW'
  refine (bodyDigits_walk W a0 bd0).mono fun e W' ⟨he, bel⟩ => ?_
  subst he
  exact ⟨_, rfl, _, _, _, [], _, [], hW', trodAll_mk1 (shut_bool Try.underlying4 _), (trodAll_cons_mk (shut_int Try.underlying3 w0) trodAll_mk0), rfl, bel.frame _, fun h => by cases h⟩

/-- THE STATEMENT. -/
theorem bodyDigits_proved : Rows.BodyDigitsSaid :=
  OpenClaim.holds_of_wide 5 Try.f5 rfl rfl rfl rfl rfl rfl rfl ⟨rfl, rfl, rfl, rfl, rfl⟩ rfl rfl rfl rfl rfl (by kernel_rfl) Try.func5 (by kernel_rfl)
    (of_decide_eq_true (by kernel_rfl)) (by unfold Func.isWrapper; first | (rw [if_pos (by decide +kernel)]; kernel_rfl) | (rw [if_neg (by decide +kernel)]; exact ⟨rfl, rfl⟩))
    (fun os started H enc _ => bodyDigits_lifted os started H enc)
#print axioms bodyDigits_proved
end Go.Proofs.Ytbbocekijkpjnaa
