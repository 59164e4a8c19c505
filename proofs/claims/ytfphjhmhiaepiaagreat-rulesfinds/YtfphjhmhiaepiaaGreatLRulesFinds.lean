/-
  RulesFinds: accounts, symbols and venues are found by their names, and each symbol has the document's band. For every setup, name and number, no condition.
-/
import Derived.Test.YtfphjhmhiaepiaaGreatKR
import Derived.Test.YtfphjhmhiaepiaaGreatKS
import Derived.Test.YtfphjhmhiaepiaaGreatKT
import Derived.Test.YtfphjhmhiaepiaaGreatKO
namespace Go.Proofs.YtfphjhmhiaepiaaGreat
open Go.ChangeShapes Go.WideShapes Go.ChangeAt Go.RowKit Go.Lib RU SM

theorem rulesFinds_walk (w : World) (a1 a2 a3 : Option Addr) (c1 c2 c3 : Nat) (s : Stp) (h : SetIn w a1 a2 a3 c1 c2 c3 s) (t : ByteArray) (_ht : t.size ≤ maxLen) (d : Int) (_hd : -9223372036854775808 ≤ d ∧ d ≤ 9223372036854775807) :
    Calls Tryz.prog 3 #[.agg #[.slice a1 s.nA c1, .slice a2 s.nS c2, .slice a3 s.nV c3, .int .i64 (s.P 3), .int .i64 (s.P 4), .int .i64 (s.P 5), .int .i64 (s.P 6), .int .i64 (s.P 7), .int .i64 (s.P 8)], .string t, .int .i64 d] w fun e w' => e = .returned (.bool true) ∧ Below w.heap.size w w' := by
  cases hf : fewB s
  · exact finds_great w a1 a2 a3 c1 c2 c3 s h t d hf
  · by_cases ht : 200 < t.size
    · exact finds_long w a1 a2 a3 c1 c2 c3 s h t d hf ht
    · cases hr : rightB s
      · exact finds_wrong w a1 a2 a3 c1 c2 c3 s h t d hf (by omega) hr
      · have cnt := right_cnt hr
        have n1 : 1 ≤ s.nA := cnt.1.1
        have n2 : 1 ≤ s.nS := cnt.2.1.1
        have n3 : 1 ≤ s.nV := cnt.2.2.1
        obtain ⟨⟨ba, oa, rfl⟩, ⟨bs, os, rfl⟩, ⟨bv, ov, rfl⟩⟩ : (∃ b o, a1 = some ⟨b, o, none⟩) ∧ (∃ b o, a2 = some ⟨b, o, none⟩) ∧ (∃ b o, a3 = some ⟨b, o, none⟩) := by
          obtain ⟨_, _, e1, _, _, g1⟩ := h.ra
          obtain ⟨_, _, e2, _, _, g2⟩ := h.rs
          obtain ⟨_, _, e3, _, _, g3⟩ := h.rv
          injection e1 with e1
          injection e2 with e2
          injection e3 with e3
          subst e1 e2 e3
          obtain ⟨x1, y1, z1, _⟩ := g1 0 (by omega)
          obtain ⟨x2, y2, z2, _⟩ := g2 0 (by omega)
          obtain ⟨x3, y3, z3, _⟩ := g3 0 (by omega)
          exact ⟨⟨x1, y1, z1⟩, ⟨x2, y2, z2⟩, ⟨x3, y3, z3⟩⟩
        by_cases k : d < 0
        · exact finds_neg w ba oa bs os bv ov c1 c2 c3 s h t d k hf (by omega) hr
        · by_cases q : d < (s.nS : Int)
          · obtain ⟨i, rfl⟩ : ∃ i : Nat, d = (i : Int) := ⟨d.toNat, by omega⟩
            exact finds_in w ba oa bs os bv ov c1 c2 c3 s h t i (by omega) hf (by omega) hr
          · exact finds_far w ba oa bs os bv ov c1 c2 c3 s h t d (by omega) q hf (by omega) hr

theorem rulesFinds_own : ownKnob Tryz.prog.godebug = none := by kernel_rfl
theorem rulesFinds_laidOut : laidOutB Tryz.prog = true := by kernel_rfl
set_option maxRecDepth 100000 in
set_option maxHeartbeats 2000000 in
theorem rulesFinds_lifted (os : Os) (started : os.Started) (H : Type) (enc : TypeId × Value → H) :
    ReturnsInHanded {} Tryz.checked os 3 .any (Rows.rulesFindsSpec.pre6 enc Tryz.prog Tryz.f3 Rows.rulesFindsRow.domain false) (Rows.rulesFindsSpec.post enc Tryz.prog Tryz.f3 false true false false) := by
  refine returnsInHanded_of_change (C := Tryz.checked) rulesFinds_own started (by kernel_rfl) Tryz.func3
    (ChangeSpec.witness6 (enc := enc) (C := Tryz.checked) false ⟨#[], #[.agg #[.slice none 0 0, .slice none 0 0, .slice none 0 0, .int .i64 0, .int .i64 0, .int .i64 0, .int .i64 0, .int .i64 0, .int .i64 0], .string ⟨#[]⟩, .int .i64 0], []⟩ 8 (by kernel_rfl) (by kernel_rfl) (by kernel_rfl) (by kernel_rfl)) ?_
  intro W base args ds gs before hval0 hW hcnd _
  have hval : ∀ (j : Nat) t v, Tryz.f3.params[j]? = some t → args[j]? = some v → Value.okWide Tryz.prog W .any base t v := hval0
  have hW' := hW
  obtain ⟨p, q, hA0, hV, rfl, hfz, hnd⟩ := hW
  have hA : DataW.TrodAll enc Tryz.prog W 0 (fun _ => true) true Tryz.f3.params.toList args.toList ds p := hA0
  rw [Tryz.params3] at hA hval
  obtain ⟨v0, vs0, d0, ds0, p0, q0, hargs, rfl, rfl, h0, r0⟩ := trodAll_cons hA
  obtain ⟨v1, vs1, d1, ds1, p1, q1, rfl, rfl, rfl, h1, r1⟩ := trodAll_cons r0
  obtain ⟨v2, vs2, d2, ds2, p2, q2, rfl, rfl, rfl, h2, r2⟩ := trodAll_cons r1
  obtain ⟨rfl, rfl, rfl⟩ := trodAll_nil r2
  obtain rfl : args = #[v0, v1, v2] := by cases args; simp_all
  obtain ⟨rfl, rfl⟩ := trodVars_none hV
  have k0 := h0
  have lt0 : ∀ x ∈ p0, x.block < W.heap.size := by obtain ⟨m, hm⟩ := k0; exact DataW.trod_lt m _ _ _ hm
  obtain ⟨sa1, sa2, sa3, sc1, sc2, sc3, ss, rfl, row0⟩ := RU.open_setup (hval 0 26 v0 rfl rfl) h0
  obtain ⟨s1, rfl, rfl, rfl, w1⟩ := Go.ChangeMaps.open_string Tryz.underlying9 (hval 1 9 v1 rfl rfl) h1
  obtain ⟨a2, rfl, rfl, rfl, w2⟩ := open_int Tryz.underlying3 (hval 2 3 v2 rfl rfl) h2
  have bd2 := bounds_i64 w2
  clear hA0 hval0
  simp only [List.append_nil] at hW'
  refine (rulesFinds_walk W sa1 sa2 sa3 sc1 sc2 sc3 ss row0 s1 w1 a2 bd2).mono fun e W' ⟨he, bel⟩ => ?_
  subst he
  exact ⟨_, rfl, _, _, _, [], _, [], hW', trodAll_mk1 (shut_bool Tryz.underlying4 _), (trodAll_cons_mk (Below.trod rulesFinds_laidOut (by kernel_rfl) (of_decide_eq_true (by kernel_rfl)) k0 bel lt0) (trodAll_cons_mk (Go.ChangeMaps.shut_string Tryz.underlying9 w1) (trodAll_cons_mk (shut_int Tryz.underlying3 w2) trodAll_mk0))), rfl, bel.frame _, fun h => by cases h⟩

/-- THE STATEMENT. -/
theorem rulesFinds_proved : Rows.RulesFindsSaid :=
  OpenClaim.holds_of_wide 3 Tryz.f3 rfl rfl rfl rfl rfl rfl rfl ⟨rfl, rfl, rfl, rfl, rfl⟩ rfl rfl rfl rfl rfl (by kernel_rfl) Tryz.func3 (by kernel_rfl)
    (of_decide_eq_true (by kernel_rfl)) (by unfold Func.isWrapper; first | (rw [if_pos (by decide +kernel)]; kernel_rfl) | (rw [if_neg (by decide +kernel)]; exact ⟨rfl, rfl⟩))
    (fun os started H enc _ => rulesFinds_lifted os started H enc)
#print axioms rulesFinds_proved
end Go.Proofs.YtfphjhmhiaepiaaGreat

