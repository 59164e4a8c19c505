/-
  WireOne: what is opened is sealed as the same bytes, and in a row of messages each is the one that was cut out. For every text, no condition.
-/
import Derived.Test.YtcgojnofkbjinaaWireAwake
import Derived.Test.YtcgojnofkbjinaaWireCut
import Derived.Test.YtcgojnofkbjinaaWireLaws
namespace Go.Proofs.Ytcgojnofkbjinaa
open Go.ChangeShapes Go.WideShapes Go.ChangeAt Go.RowKit Go.Lib

theorem flat_step {L : List (List UInt8)} {k : Nat} (h : k < L.length) : flat (L.take (k + 1)) = flat (L.take k) ++ (sealE L[k]).1 := by
  rw [List.take_add_one, List.getElem?_eq_getElem h, flat_append]
  simp [flat]
theorem flat_le (L : List (List UInt8)) (k : Nat) : (flat (L.take k)).length ≤ (flat L).length := by
  conv => rhs; rw [← List.take_append_drop k L, flat_append, List.length_append]
  omega
set_option maxRecDepth 1000000 in
set_option maxHeartbeats 4000000 in
theorem wireOne_short (w : World) (s : ByteArray) (h : s.size ≤ 8000) :
    Calls Try.prog 6 #[.string s] w fun e w' => e = .returned (.bool true) ∧ Below w.heap.size w w' := by
  have F0 := awake10_any w
  have F1 := fun w => cut_any s w (by omega)
  have t : ¬ (8000 : Int) < (s.size : Int) := by omega
  obtain ⟨L, A, E, hR⟩ : ∃ L A E, cutL s.data.toList [] 0 = (L, A, E) := ⟨_, _, _, rfl⟩
  rw [hR] at F1
  dsimp only at F1
  obtain ⟨more, e1, _, e3, e4, e5⟩ := cut_joins _ _ _ _ _ _ _ hR
  rw [List.nil_append] at e1
  subst e1
  rw [Nat.zero_add, ← size_eq] at e3
  rw [Nat.sub_zero] at e5
  have hfl : (flat L).length ≤ 8000 := by
    rw [e5, List.length_take, ← size_eq]
    omega
  have a1 : (0 : Int) ≤ (A : Int) := by omega
  have a2 : (A : Int) ≤ (s.size : Int) := by omega
  have HE : Hid (mk (flat L) = s.extract 0 A) := by
    show mk (flat L) = s.extract 0 A
    rw [ext_head, e5]
  clear hR e5
  go_enter Try.func6, Try.ntmps6
  go_wp2_with fail
  refine F0.mono ?_
  rintro e w1 ⟨rfl, hb1⟩
  go_wp2_with fail
  refine (F1 _).mono ?_
  rintro e w2 ⟨v, rfl, Q, hlen⟩
  have B2 := hb1.trans (Q.below.mono hb1.size)
  obtain ⟨a, cap, rfl, k1, k2, k3⟩ := Q.row
  have hsz := B2.size
  clear hb1 F0 F1 Q
  unfold maxLen at k2
  go_wp2_with fail
  go_loopw [6, 24] (fun x i wr => ∃ k : Nat, i = .int .i64 (k : Int) ∧ k ≤ L.length ∧ x = .string (mk (flat (L.take k))) ∧ Below w2.heap.size w2 wr) (fun _ i _ => L.length - (RowKit.intOf i).toNat)
  case atStart => exact ⟨0, rfl, by omega, rfl, Below.refl _ _⟩
  case round =>
    obtain ⟨k, rfl, hk, rfl, hB⟩ := hrel
    by_cases hp : k < L.length
    · have t0 : (k : Int) < (L.length : Int) := by omega
      obtain ⟨b, off, rfl, hc⟩ := k3 k hp
      have d0 := (hB.cell (World.block_lt_of_cell? _ _ hc)).trans hc
      have eg : L.getD k [] = L[k] := by simp [hp]
      rw [eg] at d0
      have d : wr.cell? ⟨b, off + k, none⟩ = some (.string (mk L[k])) := d0
      clear d0
      obtain ⟨q1, q2⟩ := e4 L[k] (List.getElem_mem hp)
      have F := fun w => seal_any (mk L[k]) w
      rw [mk_list, q1] at F
      have hfs := flat_step hp
      have hl1 := flat_le L k
      have hl2 := flat_le L (k + 1)
      have hj : ∀ w, (Op.stringOp .add (mk (flat (L.take k))) (mk (sealE L[k]).1)).run Try.prog w = .ok (.string (mk (flat (L.take (k + 1))))) w := by
        rw [hfs]
        refine add_run _ _ _ (mk_add _ _) (by rw [mk_size]; omega) ?_
        rw [mk_size]
        rw [hfs, List.length_append] at hl2
        omega
      have hge := hB.size
      generalize mk (sealE L[k]).1 = X at *
      generalize mk L[k] = Y at *
      obtain ⟨Z, hZ⟩ : ∃ Z, Hid (mk (flat (L.take (k + 1))) = Z) := ⟨_, rfl⟩
      rw [hZ.out] at hj
      generalize mk (flat (L.take k)) = V at *
      clear k3 hc eg hfs hl1 hl2 q1 q2 e4
      go_wp2_with fail
      refine (F _).mono ?_
      rintro e w3 ⟨rfl, hb3⟩
      go_wp2_with fail
      go_roundw
      case rel => exact ⟨k + 1, by simp, by omega, by rw [hZ.out], hB.trans (hb3.mono hge)⟩
      case measure => simp [RowKit.intOf]; omega
    · obtain rfl : k = L.length := by omega
      have t0 : ¬ (L.length : Int) < (L.length : Int) := by omega
      have t3 : ((mk (flat (L.take L.length))).toList == (s.extract 0 A).toList) = true := by
        rw [List.take_length, HE.out]
        simp
      have BE := B2.trans (hB.mono hsz)
      generalize mk (flat (L.take L.length)) = V at *
      clear k3 e4 HE hB B2
      go_wp2_with fail
      go_ret
      exact ⟨rfl, BE⟩
set_option maxHeartbeats 1000000 in
theorem wireOne_walk (w : World) (s : ByteArray) (_ : s.size ≤ maxLen) :
    Calls Try.prog 6 #[.string s] w fun e w' => e = .returned (.bool true) ∧ Below w.heap.size w w' := by
  by_cases h : 8000 < s.size
  · have F0 := awake10_any w
    have t : (8000 : Int) < (s.size : Int) := by omega
    go_enter Try.func6, Try.ntmps6
    go_wp2_with fail
    refine F0.mono ?_
    rintro e w1 ⟨rfl, hb⟩
    go_wp2_with fail
    go_ret
    exact ⟨rfl, hb⟩
  · exact wireOne_short w s (by omega)

theorem wireOne_own : ownKnob Try.prog.godebug = none := by kernel_rfl
theorem wireOne_laidOut : laidOutB Try.prog = true := by kernel_rfl
set_option maxRecDepth 100000 in
theorem wireOne_lifted (os : Os) (started : os.Started) (H : Type) (enc : TypeId × Value → H) :
    ReturnsInHanded {} Try.checked os 6 .any (Rows.wireOneSpec.pre6 enc Try.prog Try.f6 Rows.wireOneRow.domain false) (Rows.wireOneSpec.post enc Try.prog Try.f6 false true false false) := by
  refine returnsInHanded_of_change (C := Try.checked) wireOne_own started (by kernel_rfl) Try.func6
    (ChangeSpec.witness6 (enc := enc) (C := Try.checked) false ⟨#[], #[.string ⟨#[]⟩], []⟩ 8 (by kernel_rfl) (by kernel_rfl) (by kernel_rfl) (by kernel_rfl)) ?_
  intro W base args ds gs before hval0 hW hcnd _
  have hval : ∀ (j : Nat) t v, Try.f6.params[j]? = some t → args[j]? = some v → Value.okWide Try.prog W .any base t v := hval0
  have hW' := hW
  obtain ⟨p, q, hA0, hV, rfl, hfz, hnd⟩ := hW
  have hA : DataW.TrodAll enc Try.prog W 0 (fun _ => true) true Try.f6.params.toList args.toList ds p := hA0
  rw [Try.params6] at hA hval
  obtain ⟨v0, vs0, d0, ds0, p0, q0, hargs, rfl, rfl, h0, r0⟩ := trodAll_cons hA
  obtain ⟨rfl, rfl, rfl⟩ := trodAll_nil r0
  obtain rfl : args = #[v0] := by cases args; simp_all
  obtain ⟨rfl, rfl⟩ := trodVars_none hV
  obtain ⟨s0, rfl, rfl, rfl, w0⟩ := Go.ChangeMaps.open_string Try.underlying9 (hval 0 9 v0 rfl rfl) h0
  clear hA0 hval0
  simp only [List.append_nil] at hW'
  refine (wireOne_walk W s0 w0).mono fun e W' ⟨he, bel⟩ => ?_
  subst he
  exact ⟨_, rfl, _, _, _, [], _, [], hW', trodAll_mk1 (shut_bool Try.underlying4 _), (trodAll_cons_mk (Go.ChangeMaps.shut_string Try.underlying9 w0) trodAll_mk0), rfl, bel.frame _, fun h => by cases h⟩

/-- THE STATEMENT. -/
theorem wireOne_proved : Rows.WireOneSaid :=
  OpenClaim.holds_of_wide 6 Try.f6 rfl rfl rfl rfl rfl rfl rfl ⟨rfl, rfl, rfl, rfl, rfl⟩ rfl rfl rfl rfl rfl (by kernel_rfl) Try.func6 (by kernel_rfl)
    (of_decide_eq_true (by kernel_rfl)) (by unfold Func.isWrapper; first | (rw [if_pos (by decide +kernel)]; kernel_rfl) | (rw [if_neg (by decide +kernel)]; exact ⟨rfl, rfl⟩))
    (fun os started H enc _ => wireOne_lifted os started H enc)
#print axioms wireOne_proved
end Go.Proofs.Ytcgojnofkbjinaa
