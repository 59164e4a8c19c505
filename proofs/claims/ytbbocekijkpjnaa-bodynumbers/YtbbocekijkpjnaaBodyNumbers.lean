/-
  BodyNumbers: any text is the document's number, and its numbers, or none. For every text, no condition.
-/
import Derived.Test.YtbbocekijkpjnaaBodyAwake
import Derived.Test.YtbbocekijkpjnaaBodyNums
import Derived.Test.YtbbocekijkpjnaaBodyRefNums
import Derived.Test.YtbbocekijkpjnaaSameInts
namespace Go.Proofs.Ytbbocekijkpjnaa
open Go.ChangeShapes Go.WideShapes Go.ChangeAt Go.RowKit Go.Lib

/-- Both sides tell the same number, or none. -/
theorem number_agree (l : List UInt8) : ∃ (n : Nat) (e : Nat) (z : Int), numE l = (n, e) ∧ numZ l = z ∧ ((e = 0 ∧ z = (n : Int)) ∨ (e = 112 ∧ n = 0 ∧ z = -1)) := by
  refine ⟨(numE l).1, (numE l).2, numZ l, rfl, rfl, ?_⟩
  rcases numE_err l with h | h
  · exact .inl ⟨h, numZ_ok h⟩
  · exact .inr ⟨by rw [h], by rw [h], numZ_no h⟩
set_option maxRecDepth 1000000 in
set_option maxHeartbeats 8000000 in
theorem numbers_main (s : ByteArray) (w : World) (hs : s.size ≤ 600) :
    Calls Try.prog 3 #[.string s] w fun e w' => e = .returned (.bool true) ∧ Below w.heap.size w w' := by
  have A := awake11_any w
  have N1 := fun w => number_any s w (by unfold maxLen; omega)
  have N2 := fun w => refNumber_any s w (by unfold maxLen; omega)
  have L1 := fun w => numbers_any s w (by omega)
  have L2 := fun w => refNumbers_any s w (by omega)
  obtain ⟨n, e0, z, hn, hz, hc⟩ := number_agree s.data.toList
  rw [hn] at N1
  rw [hz] at N2
  dsimp only at N1
  have hlen : ∀ out, numsO s.data.toList = some out → out.length ≤ 601 := fun out h => by
    have := numsO_len h
    rw [← size_eq] at this
    omega
  have t0 : ¬ (600 : Int) < (s.size : Int) := by omega
  clear hn hz
  cases hO : numsO s.data.toList with
  | none =>
    rw [hO] at L1 L2
    rw [show listE none = ([], 112) from rfl] at L1
    rw [show (none : Option (List Nat)).isSome = false from rfl, show (none : Option (List Nat)).getD [] = [] from rfl] at L2
    dsimp only at L1
    have S := fun u v w (h1 : Row w u 0 _) (h2 : Row w v 0 _) => sameI_yes (fun i => (([] : List Nat).getD i 0 : Nat)) 0 u v w (by omega) h1 h2
    clear hO hlen
    rcases hc with ⟨rfl, rfl⟩ | ⟨rfl, rfl, rfl⟩
    · go_enter Try.func3, Try.ntmps3
      go_wp2_with fail
      refine A.mono ?_
      rintro e w1 ⟨rfl, b1⟩
      go_wp2_with fail
      refine (N1 _).mono ?_
      rintro e w2 ⟨rfl, rfl⟩
      go_wp2_with fail
      refine (N2 _).mono ?_
      rintro e w3 ⟨rfl, b3⟩
      go_wp2_with fail
      refine (L1 _).mono ?_
      rintro e w4 ⟨v4, rfl, Q4⟩
      go_wp2_with fail
      refine (L2 _).mono ?_
      rintro e w5 ⟨v5, rfl, Q5⟩
      have R4 := (Q4.still Q5.below).row
      have R5 := Q5.row
      have HB : Hid (Below w.heap.size w w5) := ((b1.trans (b3.mono b1.size)).trans (Q4.below.mono (b1.trans (b3.mono b1.size)).size)).trans (Q5.below.mono ((b1.trans (b3.mono b1.size)).trans (Q4.below.mono (b1.trans (b3.mono b1.size)).size)).size)
      have S1 := S v4 v5 w5 R4 R5
      obtain ⟨a4, c4, rfl⟩ := Q4.shape
      obtain ⟨a5, c5, rfl⟩ := Q5.shape
      clear S R4 R5 Q4 Q5 N1 N2 L1 L2 A b1 b3
      go_wp2_with fail
      refine S1.mono ?_
      rintro e w6 ⟨rfl, b6⟩
      go_wp2_with fail
      go_ret
      exact ⟨rfl, HB.out.trans (b6.mono HB.out.size)⟩
    · go_enter Try.func3, Try.ntmps3
      go_wp2_with fail
      refine A.mono ?_
      rintro e w1 ⟨rfl, b1⟩
      go_wp2_with fail
      refine (N1 _).mono ?_
      rintro e w2 ⟨rfl, rfl⟩
      go_wp2_with fail
      refine (N2 _).mono ?_
      rintro e w3 ⟨rfl, b3⟩
      go_wp2_with fail
      refine (L1 _).mono ?_
      rintro e w4 ⟨v4, rfl, Q4⟩
      go_wp2_with fail
      refine (L2 _).mono ?_
      rintro e w5 ⟨v5, rfl, Q5⟩
      have R4 := (Q4.still Q5.below).row
      have R5 := Q5.row
      have HB : Hid (Below w.heap.size w w5) := ((b1.trans (b3.mono b1.size)).trans (Q4.below.mono (b1.trans (b3.mono b1.size)).size)).trans (Q5.below.mono ((b1.trans (b3.mono b1.size)).trans (Q4.below.mono (b1.trans (b3.mono b1.size)).size)).size)
      have S1 := S v4 v5 w5 R4 R5
      obtain ⟨a4, c4, rfl⟩ := Q4.shape
      obtain ⟨a5, c5, rfl⟩ := Q5.shape
      clear S R4 R5 Q4 Q5 N1 N2 L1 L2 A b1 b3
      go_wp2_with fail
      refine S1.mono ?_
      rintro e w6 ⟨rfl, b6⟩
      go_wp2_with fail
      go_ret
      exact ⟨rfl, HB.out.trans (b6.mono HB.out.size)⟩
  | some out =>
    have hl := hlen out hO
    rw [hO] at L1 L2
    rw [show listE (some out) = (out, 0) from rfl] at L1
    rw [show (some out).isSome = true from rfl, show (some out).getD [] = out from rfl] at L2
    dsimp only at L1
    have S := fun u v w (h1 : Row w u out.length _) (h2 : Row w v out.length _) => sameI_yes (fun i => (out.getD i 0 : Nat)) out.length u v w (by omega) h1 h2
    clear hO hlen
    rcases hc with ⟨rfl, rfl⟩ | ⟨rfl, rfl, rfl⟩
    · go_enter Try.func3, Try.ntmps3
      go_wp2_with fail
      refine A.mono ?_
      rintro e w1 ⟨rfl, b1⟩
      go_wp2_with fail
      refine (N1 _).mono ?_
      rintro e w2 ⟨rfl, rfl⟩
      go_wp2_with fail
      refine (N2 _).mono ?_
      rintro e w3 ⟨rfl, b3⟩
      go_wp2_with fail
      refine (L1 _).mono ?_
      rintro e w4 ⟨v4, rfl, Q4⟩
      go_wp2_with fail
      refine (L2 _).mono ?_
      rintro e w5 ⟨v5, rfl, Q5⟩
      have R4 := (Q4.still Q5.below).row
      have R5 := Q5.row
      have HB : Hid (Below w.heap.size w w5) := ((b1.trans (b3.mono b1.size)).trans (Q4.below.mono (b1.trans (b3.mono b1.size)).size)).trans (Q5.below.mono ((b1.trans (b3.mono b1.size)).trans (Q4.below.mono (b1.trans (b3.mono b1.size)).size)).size)
      have S1 := S v4 v5 w5 R4 R5
      obtain ⟨a4, c4, rfl⟩ := Q4.shape
      obtain ⟨a5, c5, rfl⟩ := Q5.shape
      clear S R4 R5 Q4 Q5 N1 N2 L1 L2 A b1 b3
      go_wp2_with fail
      refine S1.mono ?_
      rintro e w6 ⟨rfl, b6⟩
      go_wp2_with fail
      go_ret
      exact ⟨rfl, HB.out.trans (b6.mono HB.out.size)⟩
    · go_enter Try.func3, Try.ntmps3
      go_wp2_with fail
      refine A.mono ?_
      rintro e w1 ⟨rfl, b1⟩
      go_wp2_with fail
      refine (N1 _).mono ?_
      rintro e w2 ⟨rfl, rfl⟩
      go_wp2_with fail
      refine (N2 _).mono ?_
      rintro e w3 ⟨rfl, b3⟩
      go_wp2_with fail
      refine (L1 _).mono ?_
      rintro e w4 ⟨v4, rfl, Q4⟩
      go_wp2_with fail
      refine (L2 _).mono ?_
      rintro e w5 ⟨v5, rfl, Q5⟩
      have R4 := (Q4.still Q5.below).row
      have R5 := Q5.row
      have HB : Hid (Below w.heap.size w w5) := ((b1.trans (b3.mono b1.size)).trans (Q4.below.mono (b1.trans (b3.mono b1.size)).size)).trans (Q5.below.mono ((b1.trans (b3.mono b1.size)).trans (Q4.below.mono (b1.trans (b3.mono b1.size)).size)).size)
      have S1 := S v4 v5 w5 R4 R5
      obtain ⟨a4, c4, rfl⟩ := Q4.shape
      obtain ⟨a5, c5, rfl⟩ := Q5.shape
      clear S R4 R5 Q4 Q5 N1 N2 L1 L2 A b1 b3
      go_wp2_with fail
      refine S1.mono ?_
      rintro e w6 ⟨rfl, b6⟩
      go_wp2_with fail
      go_ret
      exact ⟨rfl, HB.out.trans (b6.mono HB.out.size)⟩
set_option maxHeartbeats 1000000 in
theorem bodyNumbers_walk (w : World) (s : ByteArray) (_hs : s.size ≤ maxLen) :
    Calls Try.prog 3 #[.string s] w fun e w' => e = .returned (.bool true) ∧ Below w.heap.size w w' := by
  by_cases h : s.size ≤ 600
  · exact numbers_main s w h
  · have A := awake11_any w
    have t0 : (600 : Int) < (s.size : Int) := by omega
    go_enter Try.func3, Try.ntmps3
    go_wp2_with fail
    refine A.mono ?_
    rintro e w1 ⟨rfl, b1⟩
    go_wp2_with fail
    go_ret
    exact ⟨rfl, b1⟩
theorem bodyNumbers_own : ownKnob Try.prog.godebug = none := by kernel_rfl
theorem bodyNumbers_laidOut : laidOutB Try.prog = true := by kernel_rfl
set_option maxRecDepth 100000 in
theorem bodyNumbers_lifted (os : Os) (started : os.Started) (H : Type) (enc : TypeId × Value → H) :
    ReturnsInHanded {} Try.checked os 3 .any (Rows.bodyNumbersSpec.pre6 enc Try.prog Try.f3 Rows.bodyNumbersRow.domain false) (Rows.bodyNumbersSpec.post enc Try.prog Try.f3 false true false false) := by
  refine returnsInHanded_of_change (C := Try.checked) bodyNumbers_own started (by kernel_rfl) Try.func3
    (ChangeSpec.witness6 (enc := enc) (C := Try.checked) false ⟨#[], #[.string ⟨#[]⟩], []⟩ 8 (by kernel_rfl) (by kernel_rfl) (by kernel_rfl) (by kernel_rfl)) ?_
  intro W base args ds gs before hval0 hW hcnd _
  have hval : ∀ (j : Nat) t v, Try.f3.params[j]? = some t → args[j]? = some v → Value.okWide Try.prog W .any base t v := hval0
  have hW' := hW
  obtain ⟨p, q, hA0, hV, rfl, hfz, hnd⟩ := hW
  have hA : DataW.TrodAll enc Try.prog W 0 (fun _ => true) true Try.f3.params.toList args.toList ds p := hA0
  rw [Try.params3] at hA hval
  obtain ⟨v0, vs0, d0, ds0, p0, q0, hargs, rfl, rfl, h0, r0⟩ := trodAll_cons hA
  obtain ⟨rfl, rfl, rfl⟩ := trodAll_nil r0
  obtain rfl : args = #[v0] := by cases args; simp_all
  obtain ⟨rfl, rfl⟩ := trodVars_none hV
  obtain ⟨s0, rfl, rfl, rfl, w0⟩ := Go.ChangeMaps.open_string Try.underlying9 (hval 0 9 v0 rfl rfl) h0
  clear hA0 hval0
  simp only [List.append_nil] at hW'
  refine (bodyNumbers_walk W s0 w0).mono fun e W' ⟨he, bel⟩ => ?_
  subst he
  exact ⟨_, rfl, _, _, _, [], _, [], hW', trodAll_mk1 (shut_bool Try.underlying4 _), (trodAll_cons_mk (Go.ChangeMaps.shut_string Try.underlying9 w0) trodAll_mk0), rfl, bel.frame _, fun h => by cases h⟩

/-- THE STATEMENT. -/
theorem bodyNumbers_proved : Rows.BodyNumbersSaid :=
  OpenClaim.holds_of_wide 3 Try.f3 rfl rfl rfl rfl rfl rfl rfl ⟨rfl, rfl, rfl, rfl, rfl⟩ rfl rfl rfl rfl rfl (by kernel_rfl) Try.func3 (by kernel_rfl)
    (of_decide_eq_true (by kernel_rfl)) (by unfold Func.isWrapper; first | (rw [if_pos (by decide +kernel)]; kernel_rfl) | (rw [if_neg (by decide +kernel)]; exact ⟨rfl, rfl⟩))
    (fun os started H enc _ => bodyNumbers_lifted os started H enc)
#print axioms bodyNumbers_proved
end Go.Proofs.Ytbbocekijkpjnaa
