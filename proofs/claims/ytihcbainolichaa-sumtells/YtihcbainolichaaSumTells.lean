/-
  SumTells: one byte that is another one changes the sum, wherever it is. For every text, every place and every byte, no condition.
-/
import Derived.Test.YtihcbainolichaaSumAwake
import Derived.Deep.RegionHeld3
namespace Go.Proofs.Ytihcbainolichaa
open Go.ChangeShapes Go.WideShapes Go.ChangeAt Go.RowKit Go.Lib

theorem byte_text (m : Nat) (hm : m < 256) (W : World) (g cap : Nat) (h : W.cell? ⟨g, 0, none⟩ = some (.int .u8 (m : Int))) :
    (convert 34 9 (.slice (some ⟨g, 0, none⟩) 1 cap)).run Try.prog W = .ok (.string (mk [UInt8.ofNat m])) W := by
  refine bytes_text [UInt8.ofNat m] W g 0 cap ?_
  intro j hj
  have : j = 0 := by simp at hj; omega
  subst this
  simp only [List.getElem_cons_zero, Nat.add_zero]
  rw [byte_ofNat hm, h]
theorem glue9 (P X Q T : ByteArray) (h : P ++ X ++ Q = T) (h1 : P.size ≤ 10000) (h2 : X.size = 1) (h3 : Q.size ≤ 10000) : ∃ D, (∀ w, (Op.stringOp .add P X).run Try.prog w = .ok (.string D) w) ∧ (∀ w, (Op.stringOp .add D Q).run Try.prog w = .ok (.string T) w) := by
  refine ⟨P ++ X, fun w => ?_, fun w => ?_⟩
  · rw [run_string_add_sum]
    omega
  · rw [run_string_add_sum, h]
    rw [ByteArray.size_append]
    omega
set_option maxRecDepth 1000000 in
set_option maxHeartbeats 4000000 in
theorem sumTells_main (w : World) (s : ByteArray) (k m : Nat) (hs : s.size ≤ 10000) (hk : k < s.size) (hm : m < 256) (hne : (s[k]'hk).toNat ≠ m) :
    Calls Try.prog 7 #[.string s, .int .i64 (k : Int), .int .u8 (m : Int)] w fun e w' => e = .returned (.bool true) ∧ Below w.heap.size w w' := by
  have F0 := awake9_any w
  have F1 := fun w => sum_any s w (by unfold maxLen; omega)
  obtain ⟨T, hT⟩ : ∃ T, s.extract 0 k ++ mk [UInt8.ofNat m] ++ s.extract (k + 1) s.size = T := ⟨_, rfl⟩
  have lT : T.data.toList = s.data.toList.take k ++ UInt8.ofNat m :: s.data.toList.drop (k + 1) := by
    rw [← hT, ext_head, ext_tail]
    simp [mk]
  have lS : s.data.toList = s.data.toList.take k ++ (s[k]'hk) :: s.data.toList.drop (k + 1) := by
    rw [← drop_byte s hk, List.take_append_drop]
  have hdiff : sumL s.data.toList ≠ sumL T.data.toList := by
    rw [lT]
    conv => lhs; rw [lS]
    refine sum_tells _ _ _ _ (fun e => hne ?_)
    rw [e, byte_ofNat hm]
  have z1 : (s.extract 0 k).size ≤ 10000 := by
    rw [ext_head, mk_size, List.length_take]
    omega
  have z3 : (s.extract (k + 1) s.size).size ≤ 10000 := by
    rw [ext_tail, mk_size, List.length_drop, ← size_eq]
    omega
  have z2 : (mk [UInt8.ofNat m]).size = 1 := mk_size _
  have zT : T.size ≤ 30000 := by
    rw [← hT, ByteArray.size_append, ByteArray.size_append]
    omega
  have F2 := fun w => sum_any T w (by unfold maxLen; omega)
  obtain ⟨D, s1, s2⟩ := glue9 _ _ _ T hT z1 z2 z3
  have hcv := byte_text m hm
  generalize mk [UInt8.ofNat m] = X at *
  clear lT lS hT z1 z2 z3
  have tN : (((sumL s.data.toList : Nat) : Int) != ((sumL T.data.toList : Nat) : Int)) = true := by
    rw [bne, beq_false_of_ne (by omega)]
    rfl
  generalize sumL s.data.toList = A at *
  generalize sumL T.data.toList = B at *
  clear hdiff
  have t1 : ¬ (10000 : Int) < (s.size : Int) := by omega
  have t2 : ¬ (k : Int) < 0 := by omega
  have t3 : ¬ (s.size : Int) ≤ (k : Int) := by omega
  have t3' : (k : Int) < (s.size : Int) := by omega
  have t4 : (k : Int) + 1 ≤ (s.size : Int) := by omega
  obtain ⟨c, hc⟩ : ∃ c, (s[k]'hk).toNat = c := ⟨_, rfl⟩
  have t5 : ((c : Int) == (m : Int)) = false := beq_false_of_ne (by omega)
  have t6 : k + 1 ≤ s.size := hk
  clear hne zT
  go_enter Try.func7, Try.ntmps7
  go_wp2_with fail
  refine F0.mono ?_
  rintro e w1 ⟨rfl, hb1⟩
  go_wp2_with fail
  go_region
  all_goals go_wp2_with fail
  all_goals refine (F1 _).mono ?_
  all_goals rintro e w2 ⟨rfl, rfl⟩
  all_goals go_wp2_with fail
  all_goals refine (F2 _).mono ?_
  all_goals rintro e w3 ⟨rfl, rfl⟩
  all_goals go_wp2_with fail
  all_goals go_ret
  all_goals exact ⟨rfl, (hb1.alloc hb1.size _).drew⟩
set_option maxHeartbeats 2000000 in
theorem sumTells_walk (w : World) (s : ByteArray) (hs : s.size ≤ maxLen) (a : Int) (_ha : -9223372036854775808 ≤ a ∧ a ≤ 9223372036854775807) (x : Int) (hx : 0 ≤ x ∧ x ≤ 255) :
    Calls Try.prog 7 #[.string s, .int .i64 a, .int .u8 x] w fun e w' => e = .returned (.bool true) ∧ Below w.heap.size w w' := by
  have F0 := awake9_any w
  unfold maxLen at hs
  by_cases h1 : (10000 : Int) < (s.size : Int)
  · clear hx
    go_enter Try.func7, Try.ntmps7
    go_wp2_with fail
    refine F0.mono ?_
    rintro e w1 ⟨rfl, hb1⟩
    go_wp2_with fail
    go_ret
    exact ⟨rfl, hb1⟩
  by_cases h2 : a < 0
  · clear hx
    go_enter Try.func7, Try.ntmps7
    go_wp2_with fail
    refine F0.mono ?_
    rintro e w1 ⟨rfl, hb1⟩
    go_wp2_with fail
    go_ret
    exact ⟨rfl, hb1⟩
  by_cases h3 : (s.size : Int) ≤ a
  · clear hx
    go_enter Try.func7, Try.ntmps7
    go_wp2_with fail
    refine F0.mono ?_
    rintro e w1 ⟨rfl, hb1⟩
    go_wp2_with fail
    go_ret
    exact ⟨rfl, hb1⟩
  obtain ⟨k, rfl⟩ := Int.eq_ofNat_of_zero_le (a := a) (by omega)
  obtain ⟨m, rfl⟩ := Int.eq_ofNat_of_zero_le hx.1
  have hk : k < s.size := by omega
  by_cases h4 : (s[k]'hk).toNat = m
  · have t3 : (k : Int) < (s.size : Int) := by omega
    have t5 : ((m : Int) == (m : Int)) = true := by simp
    clear hx
    go_enter Try.func7, Try.ntmps7
    go_wp2_with fail
    refine F0.mono ?_
    rintro e w1 ⟨rfl, hb1⟩
    go_wp2_with fail
    go_ret
    exact ⟨rfl, hb1⟩
  exact sumTells_main w s k m (by omega) hk (by omega) h4

theorem sumTells_own : ownKnob Try.prog.godebug = none := by kernel_rfl
theorem sumTells_laidOut : laidOutB Try.prog = true := by kernel_rfl
set_option maxRecDepth 100000 in
theorem sumTells_lifted (os : Os) (started : os.Started) (H : Type) (enc : TypeId × Value → H) :
    ReturnsInHanded {} Try.checked os 7 .any (Rows.sumTellsSpec.pre6 enc Try.prog Try.f7 Rows.sumTellsRow.domain false) (Rows.sumTellsSpec.post enc Try.prog Try.f7 false true false false) := by
  refine returnsInHanded_of_change (C := Try.checked) sumTells_own started (by kernel_rfl) Try.func7
    (ChangeSpec.witness6 (enc := enc) (C := Try.checked) false ⟨#[], #[.string ⟨#[]⟩, .int .i64 0, .int .u8 0], []⟩ 8 (by kernel_rfl) (by kernel_rfl) (by kernel_rfl) (by kernel_rfl)) ?_
  intro W base args ds gs before hval0 hW hcnd _
  have hval : ∀ (j : Nat) t v, Try.f7.params[j]? = some t → args[j]? = some v → Value.okWide Try.prog W .any base t v := hval0
  have hW' := hW
  obtain ⟨p, q, hA0, hV, rfl, hfz, hnd⟩ := hW
  have hA : DataW.TrodAll enc Try.prog W 0 (fun _ => true) true Try.f7.params.toList args.toList ds p := hA0
  rw [Try.params7] at hA hval
  obtain ⟨v0, vs0, d0, ds0, p0, q0, hargs, rfl, rfl, h0, r0⟩ := trodAll_cons hA
  obtain ⟨v1, vs1, d1, ds1, p1, q1, rfl, rfl, rfl, h1, r1⟩ := trodAll_cons r0
  obtain ⟨v2, vs2, d2, ds2, p2, q2, rfl, rfl, rfl, h2, r2⟩ := trodAll_cons r1
  obtain ⟨rfl, rfl, rfl⟩ := trodAll_nil r2
  obtain rfl : args = #[v0, v1, v2] := by cases args; simp_all
  obtain ⟨rfl, rfl⟩ := trodVars_none hV
  obtain ⟨s0, rfl, rfl, rfl, w0⟩ := Go.ChangeMaps.open_string Try.underlying9 (hval 0 9 v0 rfl rfl) h0
  obtain ⟨a1, rfl, rfl, rfl, w1⟩ := open_int Try.underlying3 (hval 1 3 v1 rfl rfl) h1
  have bd1 := bounds_i64 w1
  obtain ⟨a2, rfl, rfl, rfl, w2⟩ := open_int Try.underlying5 (hval 2 5 v2 rfl rfl) h2
  have bd2 := bounds_u8 w2
  clear hA0 hval0
  simp only [List.append_nil] at hW'
  refine (sumTells_walk W s0 w0 a1 bd1 a2 bd2).mono fun e W' ⟨he, bel⟩ => ?_
  subst he
  exact ⟨_, rfl, _, _, _, [], _, [], hW', trodAll_mk1 (shut_bool Try.underlying4 _), (trodAll_cons_mk (Go.ChangeMaps.shut_string Try.underlying9 w0) (trodAll_cons_mk (shut_int Try.underlying3 w1) (trodAll_cons_mk (shut_int Try.underlying5 w2) trodAll_mk0))), rfl, bel.frame _, fun h => by cases h⟩

/-- THE STATEMENT. -/
theorem sumTells_proved : Rows.SumTellsSaid :=
  OpenClaim.holds_of_wide 7 Try.f7 rfl rfl rfl rfl rfl rfl rfl ⟨rfl, rfl, rfl, rfl, rfl⟩ rfl rfl rfl rfl rfl (by kernel_rfl) Try.func7 (by kernel_rfl)
    (of_decide_eq_true (by kernel_rfl)) (by unfold Func.isWrapper; first | (rw [if_pos (by decide +kernel)]; kernel_rfl) | (rw [if_neg (by decide +kernel)]; exact ⟨rfl, rfl⟩))
    (fun os started H enc _ => sumTells_lifted os started H enc)
#print axioms sumTells_proved
end Go.Proofs.Ytihcbainolichaa
