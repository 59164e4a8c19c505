/-
  WireLimits: a body of as many bytes as may be is sealed and opened, one of one more is not; a length above it is refused where it is read. For every number, no condition.
-/
import Derived.Test.YtcgojnofkbjinaaWireAwake
import Derived.Test.YtcgojnofkbjinaaWireText
import Derived.Test.YtcgojnofkbjinaaTagLaws
namespace Go.Proofs.Ytcgojnofkbjinaa
open Go.ChangeShapes Go.WideShapes Go.ChangeAt Go.RowKit Go.Lib

theorem letters_may : ∀ m, AllMay (List.replicate m 97)
  | 0 => AllMay.nil
  | m + 1 => by
    rw [AllMay.step (by simp), List.replicate_succ, decode_one 97 _ (by decide)]
    exact ⟨by decide, letters_may m⟩
/-- A field of so many letters. -/
def fld (m : Nat) : Fd := (1, mk (List.replicate m 97))
def fldL (m : Nat) : List UInt8 := [49, 61] ++ List.replicate m 97 ++ [1]
theorem fld_form (m : Nat) (h1 : 1 ≤ m) (h2 : m ≤ 512) : formE (fld m) = (fldL m, 0) := by
  have hv : valB (List.replicate m 97) = true := valB_true.2 ⟨by simpa using h1, by simpa using h2, letters_may m⟩
  unfold formE fld fldL
  dsimp only
  rw [mk_list, if_neg (by decide), hv, if_neg (by decide), show (1 : Int).toNat = 1 from rfl, decDigits_one (by decide)]
  simp
theorem fldL_len (m : Nat) : (fldL m).length = m + 3 := by simp [fldL]
theorem cat_append : ∀ (x y : List Fd), cat (x ++ y) = cat x ++ cat y
  | [], y => rfl
  | f :: r, y => by rw [List.cons_append, cat, cat, cat_append r y, List.append_assoc]
/-- So many fields of 256 bytes. -/
def many (j : Nat) : List Fd := List.replicate j (fld 253)
theorem many_ok (j : Nat) : AllOk (many j) := by
  intro f hf
  rw [List.eq_of_mem_replicate hf, fld_form 253 (by omega) (by omega)]
theorem many_len : ∀ j, (cat (many j)).length = 256 * j
  | 0 => rfl
  | j + 1 => by
    rw [many, List.replicate_succ, cat, List.length_append, fld_form 253 (by omega) (by omega), fldL_len]
    have := many_len j
    unfold many at this
    omega
theorem cat_more (j m : Nat) (h1 : 1 ≤ m) (h2 : m ≤ 512) : cat (many j) ++ fldL m = cat (many j ++ [fld m]) := by
  rw [cat_append, cat, cat, fld_form m h1 h2, List.append_nil]
theorem many_more (j : Nat) : many j ++ [fld 253] = many (j + 1) := by
  unfold many
  rw [List.replicate_succ']
theorem whole_ok (j m : Nat) (h1 : 1 ≤ m) (h2 : m ≤ 512) (hj : j ≤ 20) : (fieldsL (cat (many j ++ [fld m]))).2.2 = 0 := by
  unfold fieldsL
  rw [fieldsA_back _ 64 [] 0 ?_ ?_]
  · intro f hf
    rcases List.mem_append.1 hf with hf | hf
    · exact many_ok j f hf
    · rw [List.mem_singleton.1 hf, fld_form m h1 h2]
  · simp [many]
    omega
def txtLen : Value → Nat
  | .string s => s.size
  | _ => 0
/-- The joins of one field more. -/
theorem fld_runs (x : List UInt8) (m : Nat) (hx : x.length ≤ 10000) (hm : m ≤ 1000) : ∃ D1 D2, (∀ w, (Op.stringOp .add ⟨#[49, 61]⟩ (mk (List.replicate m 97))).run Try.prog w = .ok (.string D1) w) ∧ (∀ w, (Op.stringOp .add D1 ⟨#[1]⟩).run Try.prog w = .ok (.string D2) w) ∧ (∀ w, (Op.stringOp .add (mk x) D2).run Try.prog w = .ok (.string (mk (x ++ fldL m))) w) := by
  refine ⟨mk ([49, 61] ++ List.replicate m 97), mk (fldL m), ?_, ?_, ?_⟩
  · exact add_run _ _ _ (by rw [← mk_add]; rfl) (by decide) (by rw [mk_size, List.length_replicate]; omega)
  · exact add_run _ _ _ (by unfold fldL; rw [← mk_add]; rfl) (by rw [mk_size]; simp; omega) (by decide)
  · exact add_run _ _ _ (mk_add _ _) (by rw [mk_size]; omega) (by rw [mk_size, fldL_len]; omega)
abbrev exOver : ByteArray := ⟨#[56, 61, 70, 73, 88, 46, 52, 46, 52, 1, 57, 61, 52, 48, 57, 55]⟩
theorem ex_over : openE exOver.data.toList = ([], 0, 102) := by
  have hb : begR beginL exOver.data.toList = 0 := by decide +kernel
  have hl : lenR (exOver.data.toList.drop 12) 0 0 = (0, 0, 102) := by decide +kernel
  unfold openE
  rw [if_pos hb, hl]
  rfl
set_option maxRecDepth 1000000 in
set_option maxHeartbeats 4000000 in
theorem wireLimits_near (w : World) (N : Nat) (h1 : 4093 ≤ N) (h2 : N ≤ 4099) :
    Calls Try.prog 5 #[.int .i64 (N : Int)] w fun e w' => e = .returned (.bool true) ∧ Below w.heap.size w w' := by
  have F0 := awake10_any w
  have t1 : ¬ (N : Int) < 4093 := by omega
  have t2 : ¬ (4099 : Int) < (N : Int) := by omega
  go_enter Try.func5, Try.ntmps5
  go_wp2_with fail
  refine F0.mono ?_
  rintro e w1 ⟨rfl, hb1⟩
  go_wp2_with fail
  go_loopw [3] (fun v wr => ∃ j : Nat, v = .string (mk (cat (many j))) ∧ 256 * j + 257 ≤ N ∧ Below w.heap.size w wr) (fun v _ => 5000 - txtLen v)
  case atStart => exact ⟨0, rfl, by omega, hb1⟩
  case round =>
    clear hb1 F0
    obtain ⟨j, rfl, hj, hB⟩ := hrel
    have hX : (mk (cat (many j))).size = 256 * j := by rw [mk_size, many_len]
    by_cases hp : 512 < N - 256 * j
    · have F : ∀ w, Calls Try.prog 15 #[.int .i64 253] w fun e w' => e = .returned (.string (mk (List.replicate 253 97))) ∧ Below w.heap.size w w' := fun w => text_any 253 (by omega) (by omega) w
      obtain ⟨D1, D2, j1, j2, j3⟩ := fld_runs (cat (many j)) 253 (by rw [many_len]; omega) (by omega)
      rw [cat_more j 253 (by omega) (by omega), many_more] at j3
      have hY : (mk (cat (many (j + 1)))).size = 256 * (j + 1) := by rw [mk_size, many_len]
      have t3 : (512 : Int) < (N : Int) - ((mk (cat (many j))).size : Int) := by omega
      have HM : Hid (5000 - txtLen (.string (mk (cat (many (j + 1))))) < 5000 - txtLen (.string (mk (cat (many j))))) := by
        show 5000 - (mk (cat (many (j + 1)))).size < 5000 - (mk (cat (many j))).size
        omega
      have hge := hB.size
      obtain ⟨Y, hY2⟩ : ∃ Y, Hid (mk (cat (many (j + 1))) = Y) := ⟨_, rfl⟩
      rw [hY2.out] at j3 HM
      clear hX hY
      generalize mk (List.replicate 253 97) = T at *
      generalize mk (cat (many j)) = X at *
      go_wp2_with fail
      refine (F _).mono ?_
      rintro e w2 ⟨rfl, hb2⟩
      go_wp2_with fail
      go_roundw
      case rel => exact ⟨j + 1, by rw [hY2.out], by omega, hB.trans (hb2.mono hge)⟩
      case measure => exact HM.out
    · have t3 : ¬ (512 : Int) < (N : Int) - ((mk (cat (many j))).size : Int) := by omega
      obtain ⟨m, hm⟩ : ∃ m, N - 256 * j - 3 = m := ⟨_, rfl⟩
      have em : (N : Int) - ((mk (cat (many j))).size : Int) - 3 = (m : Int) := by omega
      have F1 := fun w => text_any m (by omega) (by omega) w
      rw [← em] at F1
      obtain ⟨D1, D2, j1, j2, j3⟩ := fld_runs (cat (many j)) m (by rw [many_len]; omega) (by omega)
      have hlen : (cat (many j) ++ fldL m).length = N := by rw [List.length_append, many_len, fldL_len]; omega
      have hfo := whole_ok j m (by omega) (by omega) (by omega)
      rw [← cat_more j m (by omega) (by omega)] at hfo
      have F2 := fun w => seal_any (mk (cat (many j) ++ fldL m)) w
      rw [mk_list] at F2
      have hYz : (mk (cat (many j) ++ fldL m)).size = N := by rw [mk_size, hlen]
      generalize cat (many j) ++ fldL m = y at *
      have hge := hB.size
      have hx5 : ((mk (cat (many j))).size : Int) ≤ 5000 := by omega
      clear em hX
      by_cases hN : 4096 < N
      · have e1 : sealE y = ([], 102) := by
          unfold sealE
          rw [if_pos (by omega)]
        have F3 := fun w => open_any exOver w (by decide)
        rw [ex_over] at F3
        rw [e1] at F2
        dsimp only at F2 F3
        rw [show mk [] = ⟨#[]⟩ from rfl] at F2 F3
        have t4 : (4096 : Int) < (N : Int) := by omega
        clear hfo e1 hlen hm
        generalize mk (List.replicate m 97) = T at *
        generalize mk (cat (many j)) = X at *
        generalize mk y = Y at *
        go_wp2_with fail
        refine (F1 _).mono ?_
        rintro e w2 ⟨rfl, hb2⟩
        go_wp2_with fail
        refine (F2 _).mono ?_
        rintro e w3 ⟨rfl, hb3⟩
        have B2 := hB.trans (hb2.mono hge)
        have B3 := B2.trans (hb3.mono B2.size)
        clear hb2 hb3 B2 F1 F2
        go_wp2_with fail
        refine (F3 _).mono ?_
        rintro e w4 ⟨rfl, hb4⟩
        have B4 := B3.trans (hb4.mono B3.size)
        clear hb4 B3
        go_wp2_with fail
        go_ret
        exact ⟨rfl, B4⟩
      · have e1 : sealE y = (formL y, 0) := by
          unfold sealE
          rw [if_neg (by omega), if_pos hfo]
        obtain ⟨e2, _⟩ := open_seal [] e1
        rw [List.append_nil] at e2
        have hfl := form_len y
        have hbf := body_fit (b := y) (by omega)
        have F3 := fun w => open_any (mk (formL y)) w (by rw [mk_size]; omega)
        rw [mk_list, e2] at F3
        rw [e1] at F2
        dsimp only at F2 F3
        rw [← mk_size] at F3
        have t4 : ¬ (4096 : Int) < (N : Int) := by omega
        have t5 : (((mk (formL y)).size : Int) == ((mk (formL y)).size : Int)) = true := by simp
        have t6 : ((mk y).toList == (mk y).toList) = true := by simp
        have t7 : (((mk y).size : Int) == (N : Int)) = true := by rw [hYz]; simp
        clear hfo e1 e2 hlen hm hfl hbf hYz
        generalize mk (List.replicate m 97) = T at *
        generalize mk (cat (many j)) = X at *
        generalize mk y = Y at *
        generalize mk (formL y) = M at *
        go_wp2_with fail
        refine (F1 _).mono ?_
        rintro e w2 ⟨rfl, hb2⟩
        go_wp2_with fail
        refine (F2 _).mono ?_
        rintro e w3 ⟨rfl, hb3⟩
        have B2 := hB.trans (hb2.mono hge)
        have B3 := B2.trans (hb3.mono B2.size)
        clear hb2 hb3 B2 F1 F2
        go_wp2_with fail
        refine (F3 _).mono ?_
        rintro e w4 ⟨rfl, hb4⟩
        have B4 := B3.trans (hb4.mono B3.size)
        clear hb4 B3
        go_wp2_with fail
        go_ret
        exact ⟨rfl, B4⟩
theorem wireLimits_walk (w : World) (a : Int) (bd : -9223372036854775808 ≤ a ∧ a ≤ 9223372036854775807) :
    Calls Try.prog 5 #[.int .i64 a] w fun e w' => e = .returned (.bool true) ∧ Below w.heap.size w w' := by
  by_cases h1 : a < 4093
  · have F0 := awake10_any w
    go_enter Try.func5, Try.ntmps5
    go_wp2_with fail
    refine F0.mono ?_
    rintro e w1 ⟨rfl, hb1⟩
    go_wp2_with fail
    go_ret
    exact ⟨rfl, hb1⟩
  by_cases h2 : 4099 < a
  · have F0 := awake10_any w
    go_enter Try.func5, Try.ntmps5
    go_wp2_with fail
    refine F0.mono ?_
    rintro e w1 ⟨rfl, hb1⟩
    go_wp2_with fail
    go_ret
    exact ⟨rfl, hb1⟩
  obtain ⟨N, rfl⟩ : ∃ N : Nat, a = (N : Int) := ⟨a.toNat, by omega⟩
  exact wireLimits_near w N (by omega) (by omega)

theorem wireLimits_own : ownKnob Try.prog.godebug = none := by kernel_rfl
theorem wireLimits_laidOut : laidOutB Try.prog = true := by kernel_rfl
set_option maxRecDepth 100000 in
theorem wireLimits_lifted (os : Os) (started : os.Started) (H : Type) (enc : TypeId × Value → H) :
    ReturnsInHanded {} Try.checked os 5 .any (Rows.wireLimitsSpec.pre6 enc Try.prog Try.f5 Rows.wireLimitsRow.domain false) (Rows.wireLimitsSpec.post enc Try.prog Try.f5 false true false false) := by
  refine returnsInHanded_of_change (C := Try.checked) wireLimits_own started (by kernel_rfl) Try.func5
    (ChangeSpec.witness6 (enc := enc) (C := Try.checked) false ⟨#[], #[.int .i64 0], []⟩ 8 (by kernel_rfl) (by kernel_rfl) (by kernel_rfl) (by kernel_rfl)) ?_
  intro W base args ds gs before hval0 hW hcnd _
  have hval : ∀ (j : Nat) t v, Try.f5.params[j]? = some t → args[j]? = some v → Value.okWide Try.prog W .any base t v := hval0
  have hW' := hW
  obtain ⟨p, q, hA0, hV, rfl, hfz, hnd⟩ := hW
  have hA : DataW.TrodAll enc Try.prog W 0 (fun _ => true) true Try.f5.params.toList args.toList ds p := hA0
  rw [Try.params5] at hA hval
  obtain ⟨v0, vs0, d0, ds0, p0, q0, hargs, rfl, rfl, h0, r0⟩ := trodAll_cons hA
  obtain ⟨rfl, rfl, rfl⟩ := trodAll_nil r0
  obtain rfl : args = #[v0] := by cases args; simp_all
  obtain ⟨rfl, rfl⟩ := trodVars_none hV
  obtain ⟨a0, rfl, rfl, rfl, w0⟩ := open_int Try.underlying3 (hval 0 3 v0 rfl rfl) h0
  have bd0 := bounds_i64 w0
  clear hA0 hval0
  simp only [List.append_nil] at hW'
  refine (wireLimits_walk W a0 bd0).mono fun e W' ⟨he, bel⟩ => ?_
  subst he
  exact ⟨_, rfl, _, _, _, [], _, [], hW', trodAll_mk1 (shut_bool Try.underlying4 _), (trodAll_cons_mk (shut_int Try.underlying3 w0) trodAll_mk0), rfl, bel.frame _, fun h => by cases h⟩

/-- THE STATEMENT. -/
theorem wireLimits_proved : Rows.WireLimitsSaid :=
  OpenClaim.holds_of_wide 5 Try.f5 rfl rfl rfl rfl rfl rfl rfl ⟨rfl, rfl, rfl, rfl, rfl⟩ rfl rfl rfl rfl rfl (by kernel_rfl) Try.func5 (by kernel_rfl)
    (of_decide_eq_true (by kernel_rfl)) (by unfold Func.isWrapper; first | (rw [if_pos (by decide +kernel)]; kernel_rfl) | (rw [if_neg (by decide +kernel)]; exact ⟨rfl, rfl⟩))
    (fun os started H enc _ => wireLimits_lifted os started H enc)
#print axioms wireLimits_proved
end Go.Proofs.Ytcgojnofkbjinaa
