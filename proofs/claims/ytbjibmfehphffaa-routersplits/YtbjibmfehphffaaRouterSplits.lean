/-
  Any slice is split over any offers as the reference says, or refused: for every two numbers and every list (of up to 30 offers: beyond it the function answers true by itself).
-/
import Derived.Test.YtbjibmfehphffaaRoAwake
import Derived.Test.YtbjibmfehphffaaRoRefSplit
import Derived.Test.YtbjibmfehphffaaFrame23
namespace Go.Proofs.Ytbjibmfehphffaa
open Go.ChangeShapes Go.WideShapes Go.ChangeAt Go.RowKit RO

theorem pieceR_eq (a b c d : Int) (w : World) : (Op.equalIn 10000 46 (.agg #[.int .i64 a, .int .i64 b]) (.agg #[.int .i64 c, .int .i64 d])).run Try.prog w = .ok (decide (a = c ∧ b = d)) w := by
  rw [show (10000 : Nat) = 9999 + 1 from rfl, run_equalIn_struct (P := Try.prog) w 9999 _ _ _ (by kernel_rfl) (by kernel_rfl)]
  simp [Program.fieldsOf, Try.underlying46, Op.eqFields, go_sem, Try.underlying3]
  by_cases h1 : a = c <;> by_cases h2 : b = d <;> simp [h1, h2]
/-- The slice value v reads as pieces. -/
def RowP (w : World) (v : Value) (ps : List Pc) : Prop := ∃ a cap, v = .slice a ps.length cap ∧ ∀ i x, ps[i]? = some x → ∃ b, a = some ⟨b, 0, none⟩ ∧ w.cell? ⟨b, i * 2, none⟩ = some (.int .i64 x.pl) ∧ w.cell? ⟨b, i * 2 + 1, none⟩ = some (.int .i64 x.q)
theorem rowP_of_own {w : World} {B : Nat} {v : Value} {ps : List Pc} {e : TypeId} (h : w.ownsRow B e 2 v ps.length (allP ps)) : RowP w v ps := by
  have hcs := fun g hg => h.cells (g := g) hg
  rcases h.2 with ⟨rfl, e⟩ | ⟨g, cap, cur, rfl, hb, hg, hc, _⟩
  · refine ⟨none, 0, by rw [e], fun i x hx => ?_⟩
    rw [List.eq_nil_of_length_eq_zero e] at hx
    simp at hx
  · refine ⟨_, cap, rfl, fun i x hx => ⟨g, rfl, ?_, ?_⟩⟩
    · have := hcs g rfl (i * 2 + 0) (.int .i64 x.pl) (by rw [allP_at ps i 0 x hx (by omega)]; rfl)
      rw [Addr.add_lit, Nat.zero_add] at this
      exact this
    · have := hcs g rfl (i * 2 + 1) (.int .i64 x.q) (by rw [allP_at ps i 1 x hx (by omega)]; rfl)
      rw [Addr.add_lit, Nat.zero_add] at this
      exact this
theorem RowP.below {w w' : World} {v : Value} {ps : List Pc} (h : RowP w v ps) (k : Below w.heap.size w w') : RowP w' v ps := by
  obtain ⟨a, cap, rfl, h3⟩ := h
  refine ⟨a, cap, rfl, fun i x hx => ?_⟩
  obtain ⟨b, e, c0, c1⟩ := h3 i x hx
  have lt := World.block_lt_of_cell? _ _ c0
  exact ⟨b, e, (k.cell (p := ⟨b, i * 2, none⟩) lt).trans c0, (k.cell (p := ⟨b, i * 2 + 1, none⟩) lt).trans c1⟩
theorem splitL_len (qty lot : Int) (xs : List Of) : (splitL qty lot xs).length ≤ xs.length := by
  have h1 := piecesL_len (rndL (fun _ => rndZ shn qty (sharesL lot xs)) (rndZ shn qty (sharesL lot xs)) (rndL shn qty (sharesL lot xs)))
  rw [rndL_length, rndL_length] at h1
  exact Nat.le_trans h1 (sharesL_len lot xs)
set_option maxHeartbeats 1000000 in
theorem splits_bad (w : World) (qty lot : Int) (n : Nat) (L : Nat → Of) (v : Value) (h : RowL w v n L) (hn : n ≤ 30) (hE : spE qty lot n L ≠ 0) :
    Calls Try.prog 5 #[.int .i64 qty, .int .i64 lot, v] w fun e w' => e = .returned (.bool true) ∧ Below w.heap.size w w' := by
  have t : ¬ (30 : Int) < (n : Int) := by omega
  have F1 := fun (w1 : World) (hb : Below w.heap.size w w1) => split_bad qty lot n L v w1 (h.below hb) (by omega) hE
  have F2 := fun (w1 : World) (hb : Below w.heap.size w w1) => plain_any n L v w1 (h.below hb) (by omega)
  have F3 := fun (w1 : World) (v1 : Value) (h1 : RowL w1 v1 n L) => asked_any qty lot n L v1 w1 h1 (by omega)
  have hE2 : spE qty lot n L = 2 ∨ spE qty lot n L = 3 := by
    unfold spE at hE ⊢
    split
    · exact .inl rfl
    · split
      · exact .inr rfl
      · rename_i h1 h2; rw [if_neg h1, if_neg h2] at hE; exact absurd rfl hE
  obtain ⟨a, cap, rfl, _⟩ := id h
  generalize spE qty lot n L = E at *
  have t1 : ¬ E = 0 := hE
  have t2 : -9223372036854775808 ≤ E ∧ E ≤ 9223372036854775807 := by omega
  clear hE hE2 h
  go_enter Try.func5, Try.ntmps5
  go_wp2_with fail
  refine (awake_any w).mono ?_
  rintro e w1 ⟨rfl, B1⟩
  have F1 := F1 w1 B1
  go_wp2_with fail
  refine F1.mono ?_
  rintro e w2 ⟨rfl, b2⟩
  have B2 := B1.trans (b2.mono B1.size)
  have F2 := F2 w2 B2
  go_wp2_with fail
  refine F2.mono ?_
  rintro e w3 ⟨v3, rfl, H3⟩
  have B3 := B2.trans (H3.out.2.mono B2.size)
  have F3 := F3 w3 v3 (rowL_of_own H3.out.1)
  obtain ⟨a3, c3, rfl⟩ := own_shape H3.out.1
  go_wp2_with fail
  refine F3.mono ?_
  rintro e w4 ⟨rfl, rfl⟩
  clear F1 F2 F3
  go_wp2_with fail
  go_ret
  exact ⟨rfl, B3⟩
set_option maxHeartbeats 1000000 in
theorem splits_good (w : World) (qty lot : Int) (n : Nat) (L : Nat → Of) (v : Value) (h : RowL w v n L) (hn : n ≤ 30) (hE : spE qty lot n L = 0) :
    Calls Try.prog 5 #[.int .i64 qty, .int .i64 lot, v] w fun e w' => e = .returned (.bool true) ∧ Below w.heap.size w w' := by
  have t : ¬ (30 : Int) < (n : Int) := by omega
  have F1 := fun (w1 : World) (hb : Below w.heap.size w w1) => split_good qty lot n L v w1 (h.below hb) hE
  have F2 := fun (w1 : World) (hb : Below w.heap.size w w1) => plain_any n L v w1 (h.below hb) (by omega)
  have F3 := fun (w1 : World) (v1 : Value) (h1 : RowL w1 v1 n L) => asked_any qty lot n L v1 w1 h1 (by omega)
  have F4 := fun (w1 : World) (v1 : Value) (h1 : RowL w1 v1 n L) => splitR_any qty lot n L v1 w1 h1 hE
  obtain ⟨a, cap, rfl, _⟩ := id h
  rw [hE] at F3
  clear h hE
  go_enter Try.func5, Try.ntmps5
  go_wp2_with fail
  refine (awake_any w).mono ?_
  rintro e w1 ⟨rfl, B1⟩
  have F1 := F1 w1 B1
  go_wp2_with fail
  refine F1.mono ?_
  rintro e w2 ⟨f, v2, rfl, H2⟩
  have B2 := B1.trans (H2.out.2.2.mono B1.size)
  have R2 := rowP_of_own H2.out.2.1
  have G2 := F2 w2 B2
  obtain ⟨a2, c2, rfl⟩ := own_shape H2.out.2.1
  go_wp2_with fail
  refine G2.mono ?_
  rintro e w3 ⟨v3, rfl, H3⟩
  have B3 := B2.trans (H3.out.2.mono B2.size)
  have G3 := F3 w3 v3 (rowL_of_own H3.out.1)
  obtain ⟨a3, c3, rfl⟩ := own_shape H3.out.1
  go_wp2_with fail
  refine G3.mono ?_
  rintro e w4 ⟨rfl, rfl⟩
  have G5 := F2 w3 B3
  go_wp2_with fail
  refine G5.mono ?_
  rintro e w5 ⟨v5, rfl, H5⟩
  have B5 := B3.trans (H5.out.2.mono B3.size)
  have G6 := F4 w5 v5 (rowL_of_own H5.out.1)
  obtain ⟨a5, c5, rfl⟩ := own_shape H5.out.1
  go_wp2_with fail
  refine G6.mono ?_
  rintro e w6 ⟨v6, rfl, f', H6⟩
  have B6 := B5.trans (H6.out.2.2.mono B5.size)
  have R6 := rowP_of_own H6.out.2.1
  obtain ⟨a6, c6, rfl⟩ := own_shape H6.out.2.1
  have R2' := ((R2.below H3.out.2).below H5.out.2).below H6.out.2.2
  have EL : listO (fun k => L (f' k)) n = listO (fun k => L (f k)) n := listO_same (fun i hi => by rw [H6.out.1.one H2.out.1 i hi])
  rw [EL] at R6 ⊢
  clear EL H2 H3 H5 H6 F1 F2 F3 F4 G2 G3 G5 G6 R2
  have hpl := splitL_len qty lot (listO (fun k => L (f k)) n)
  rw [listO_length] at hpl
  generalize splitL qty lot (listO (fun k => L (f k)) n) = ps at *
  replace hpl : ps.length ≤ 30 := Nat.le_trans hpl hn
  obtain ⟨_, _, e2, P2⟩ := R2'
  obtain ⟨_, _, e6, P6⟩ := R6
  injection e2 with e21 _ e23
  injection e6 with e61 _ e63
  subst e21 e61
  have HB6 : Hid (Below w.heap.size w w6) := B6
  clear e23 e63 B6 B5 B3 B2 B1
  go_wp2_with fail
  go_loopw [56] (fun x wr => ∃ i : Nat, x = .int .i64 (i : Int) ∧ i ≤ ps.length ∧ Below w6.heap.size w6 wr) (fun x _ => ps.length - (RowKit.intOf x).toNat)
  case atStart => exact ⟨0, rfl, Nat.zero_le _, Below.refl _ _⟩
  case round =>
    obtain ⟨i, rfl, hi, hB⟩ := hrel
    by_cases hlt : i < ps.length
    · have t : (i : Int) < (ps.length : Int) := by omega
      obtain ⟨x, hx⟩ : ∃ x, ps[i]? = some x := ⟨ps[i], by simp [hlt]⟩
      obtain ⟨b2, rfl, c0, c1⟩ := P2 i x hx
      obtain ⟨b6, rfl, d0, d1⟩ := P6 i x hx
      have c0' := (hB.cell (p := ⟨b2, i * 2, none⟩) (World.block_lt_of_cell? _ _ c0)).trans c0
      have c1' := (hB.cell (p := ⟨b2, i * 2 + 1, none⟩) (World.block_lt_of_cell? _ _ c1)).trans c1
      have d0' := (hB.cell (p := ⟨b6, i * 2, none⟩) (World.block_lt_of_cell? _ _ d0)).trans d0
      have d1' := (hB.cell (p := ⟨b6, i * 2 + 1, none⟩) (World.block_lt_of_cell? _ _ d1)).trans d1
      have l2 : b2 < wr.heap.size := World.block_lt_of_cell? _ _ c0'
      have l6 : b6 < wr.heap.size := World.block_lt_of_cell? _ _ d0'
      obtain ⟨xp, xq⟩ := x
      simp only at c0' c1' d0' d1'
      have E1 := fun w => pieceR_eq xp xq xp xq w
      rw [decide_eq_true ⟨rfl, rfl⟩] at E1
      clear c0 c1 d0 d1 P2 P6 hx
      go_wp2_with fail
      go_quiet (fail)
      go_wp2_with fail
      go_roundw
      case rel => exact ⟨i + 1, by simp, by omega, below_more (hB.alloc hB.size _) _⟩
      case measure => simp [RowKit.intOf] <;> omega
    · have t : ¬ (i : Int) < (ps.length : Int) := by omega
      clear P2 P6
      go_wp2_with fail
      go_ret
      exact ⟨rfl, HB6.out.trans (hB.mono HB6.out.size)⟩
theorem routerSplits_walk (w : World) (qty : Int) (_hq : -9223372036854775808 ≤ qty ∧ qty ≤ 9223372036854775807) (lot : Int) (_hl : -9223372036854775808 ≤ lot ∧ lot ≤ 9223372036854775807) (v : Value) (n : Nat) (L : Nat → Of) (h : RowL w v n L) :
    Calls Try.prog 5 #[.int .i64 qty, .int .i64 lot, v] w fun e w' => e = .returned (.bool true) ∧ Below w.heap.size w w' := by
  by_cases hn : n ≤ 30
  · by_cases hE : spE qty lot n L = 0
    · exact splits_good w qty lot n L v h hn hE
    · exact splits_bad w qty lot n L v h hn hE
  · have t : (30 : Int) < (n : Int) := by omega
    obtain ⟨a, cap, rfl, _⟩ := id h
    clear h hn
    go_enter Try.func5, Try.ntmps5
    go_wp2_with fail
    refine (awake_any w).mono ?_
    rintro e w1 ⟨rfl, B1⟩
    go_wp2_with fail
    go_ret
    exact ⟨rfl, B1⟩
theorem routerSplits_own : ownKnob Try.prog.godebug = none := by kernel_rfl
theorem routerSplits_laidOut : laidOutB Try.prog = true := by kernel_rfl
set_option maxRecDepth 100000 in
theorem routerSplits_lifted (os : Os) (started : os.Started) (H : Type) (enc : TypeId × Value → H) :
    ReturnsInHanded {} Try.checked os 5 .any (Rows.routerSplitsSpec.pre6 enc Try.prog Try.f5 Rows.routerSplitsRow.domain false) (Rows.routerSplitsSpec.post enc Try.prog Try.f5 false true false false) := by
  refine returnsInHanded_of_change (C := Try.checked) routerSplits_own started (by kernel_rfl) Try.func5
    (ChangeSpec.witness6 (enc := enc) (C := Try.checked) false ⟨#[], #[.int .i64 0, .int .i64 0, .slice none 0 0], []⟩ 8 (by kernel_rfl) (by kernel_rfl) (by kernel_rfl) (by kernel_rfl)) ?_
  intro W base args ds gs before hval0 hW hcnd _
  have hval : ∀ (j : Nat) t v, Try.f5.params[j]? = some t → args[j]? = some v → Value.okWide Try.prog W .any base t v := hval0
  have hW' := hW
  obtain ⟨p, q, hA0, hV, rfl, hfz, hnd⟩ := hW
  have hA : DataW.TrodAll enc Try.prog W 0 (fun _ => true) true Try.f5.params.toList args.toList ds p := hA0
  rw [Try.params5] at hA hval
  obtain ⟨v0, vs0, d0, ds0, p0, q0, hargs, rfl, rfl, h0, r0⟩ := trodAll_cons hA
  obtain ⟨v1, vs1, d1, ds1, p1, q1, rfl, rfl, rfl, h1, r1⟩ := trodAll_cons r0
  obtain ⟨v2, vs2, d2, ds2, p2, q2, rfl, rfl, rfl, h2, r2⟩ := trodAll_cons r1
  obtain ⟨rfl, rfl, rfl⟩ := trodAll_nil r2
  obtain rfl : args = #[v0, v1, v2] := by cases args; simp_all
  obtain ⟨rfl, rfl⟩ := trodVars_none hV
  obtain ⟨a0, rfl, rfl, rfl, w0⟩ := open_int Try.underlying3 (hval 0 3 v0 rfl rfl) h0
  have bd0 := bounds_i64 w0
  obtain ⟨a1, rfl, rfl, rfl, w1⟩ := open_int Try.underlying3 (hval 1 3 v1 rfl rfl) h1
  have bd1 := bounds_i64 w1
  obtain ⟨ad2, n2, cap2, rfl⟩ := okWide_slice Try.underlying29 (hval 2 29 v2 rfl rfl)
  have k2 := h2
  have lt2 : ∀ x ∈ p2, x.block < W.heap.size := by obtain ⟨m, hm⟩ := k2; exact DataW.trod_lt m _ _ _ hm
  obtain ⟨X2, ops2⟩ : ∃ X, RowL W (.slice ad2 n2 cap2) n2 X := by obtain ⟨fuel, hf⟩ := h2; exact open_ops hf
  clear hA0 hval0
  simp only [List.append_nil, List.nil_append] at hW'
  refine (routerSplits_walk W a0 bd0 a1 bd1 _ n2 X2 ops2).mono fun e W' ⟨he, bel⟩ => ?_
  subst he
  exact ⟨_, rfl, _, _, _, [], _, [], hW', trodAll_mk1 (shut_bool Try.underlying4 _), (trodAll_cons_mk (shut_int Try.underlying3 w0) (trodAll_cons_mk (shut_int Try.underlying3 w1) (trodAll_cons_mk (Below.trod routerSplits_laidOut (by kernel_rfl) (of_decide_eq_true (by kernel_rfl)) k2 bel lt2) trodAll_mk0))), rfl, bel.frame _, fun h => by cases h⟩

/-- THE STATEMENT. -/
theorem routerSplits_proved : Rows.RouterSplitsSaid :=
  OpenClaim.holds_of_wide 5 Try.f5 rfl rfl rfl rfl rfl rfl rfl ⟨rfl, rfl, rfl, rfl, rfl⟩ rfl rfl rfl rfl rfl (by kernel_rfl) Try.func5 (by kernel_rfl)
    (of_decide_eq_true (by kernel_rfl)) (by unfold Func.isWrapper; first | (rw [if_pos (by decide +kernel)]; kernel_rfl) | (rw [if_neg (by decide +kernel)]; exact ⟨rfl, rfl⟩))
    (fun os started H enc _ => routerSplits_lifted os started H enc)
#print axioms routerSplits_proved
end Go.Proofs.Ytbjibmfehphffaa
