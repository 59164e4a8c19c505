/-
  Orders and replies that are encoded are decoded as they were, and no order's body is a reply's: the statement PostBack, for every order and every reply.
-/
import Derived.Test.YtdbkoflejimibaaDoorJJ
import Derived.Test.YtdbkoflejimibaaDoorJL
import Derived.Test.YtdbkoflejimibaaDoorJK
import Derived.Test.YtdbkoflejimibaaDoorJM
import Derived.Test.YtdbkoflejimibaaDoorGA
import Derived.Test.YtdbkoflejimibaaDoorCards
import Derived.Test.YtdbkoflejimibaaDoorTie
import Derived.SevenTiedAt
namespace Go.Proofs.YtdbkoflejimibaaDoor
open Go.ChangeShapes Go.WideShapes Go.ChangeAt Go.WideMaps Go.WideElems Go.RowKit Go.Lib
open PP

theorem zero_n (j : Nat) : (zeroT 0).2 j = 0 := by
  unfold zeroT
  dsimp only
  split <;> rfl
theorem zero_t (j : Nat) : (zeroT 0).1 j = ⟨#[]⟩ := rfl
/-- The blocks that hold the two. -/
abbrev both (w : World) (t r : ThP) : World := R.boxT (O.boxT w t) r
theorem both_below (w : World) (t r : ThP) : Below w.heap.size w (both w t r) := (O.box_below w t).trans ((R.box_below _ r).mono (O.box_below w t).size)
theorem both_at (w : World) (t r : ThP) : ThAt O.nm (both w t r) w.heap.size t ∧ ThAt R.nm (both w t r) (w.heap.size + 1) r := by
  refine ⟨(O.box_at w t).still (R.box_below _ r), ?_⟩
  have := R.box_at (O.boxT w t) r
  rw [show (O.boxT w t).heap.size = w.heap.size + 1 by simp] at this
  exact this
set_option maxRecDepth 1000000 in
set_option maxHeartbeats 16000000 in
theorem postBack_walk (w : World) (t r : ThP) (hp : Pow w) (hlO : O.Let w) (hlR : R.Let w) :
    Calls Tryd.prog 5 #[.agg #[.int .i64 (t.2 0), .int .i64 (t.2 1), .string (t.1 2), .string (t.1 3), .int .i64 (t.2 4), .int .i64 (t.2 5), .int .i64 (t.2 6)], .agg #[.int .i64 (r.2 0), .int .i64 (r.2 1), .string (r.1 2), .string (r.1 3), .int .i64 (r.2 4), .int .i64 (r.2 5), .string (r.1 6)]] w fun e w' => e = .returned (.bool true) ∧ Below w.heap.size w w' := by
  have HB0 : Hid (Below w.heap.size w (both w t r)) := both_below w t r
  have AW := awake14_any (both w t r) (hlO.still HB0.out) (hlR.still HB0.out) (hp.still HB0.out)
  have HAO : Hid (ThAt O.nm (both w t r) w.heap.size t) := (both_at w t r).1
  have HAR : Hid (ThAt R.nm (both w t r) (w.heap.size + 1) r) := (both_at w t r).2
  have HLO : Hid (O.Let w) := hlO
  have HLR : Hid (R.Let w) := hlR
  have HP : Hid (Pow w) := hp
  unfold both O.boxT R.boxT at AW
  clear hp hlO hlR
  go_enter Tryd.func5, Tryd.ntmps5
  go_wp2_with fail
  refine AW.mono ?_
  rintro e w1 ⟨rfl, b1⟩
  have HB1 : Hid (Below w.heap.size w w1) := HB0.out.trans (b1.mono HB0.out.size)
  have HAO1 : Hid (ThAt O.nm w1 w.heap.size t) := HAO.out.still b1
  have HAR1 : Hid (ThAt R.nm w1 (w.heap.size + 1) r) := HAR.out.still b1
  obtain ⟨a0, a1, a2, a3, a4, a5, a6⟩ := O.ThAt.all HAO1.out
  obtain ⟨c0, c1, c2, c3, c4, c5, c6⟩ := R.ThAt.all HAR1.out
  have SH := short_any _ _ _ _ (row_lit w1 [t.1 2, t.1 3, r.1 2, r.1 3, r.1 6] (by simp) 9) (by simp)
  simp only [List.map_cons, List.map_nil, List.length_cons, List.length_nil, Nat.reduceAdd] at SH
  have bs : Below w1.heap.size w1 (w1.alloc (.cells #[.string (t.1 2), .string (t.1 3), .string (r.1 2), .string (r.1 3), .string (r.1 6)] 9)) := (Below.refl _ w1).alloc (Nat.le_refl _) _
  have HB2 : Hid (Below w.heap.size w (w1.alloc (.cells #[.string (t.1 2), .string (t.1 3), .string (r.1 2), .string (r.1 3), .string (r.1 6)] 9))) := HB1.out.trans (bs.mono HB1.out.size)
  have HAO2 : Hid (ThAt O.nm (w1.alloc (.cells #[.string (t.1 2), .string (t.1 3), .string (r.1 2), .string (r.1 3), .string (r.1 6)] 9)) w.heap.size t) := HAO1.out.still bs
  have HAR2 : Hid (ThAt R.nm (w1.alloc (.cells #[.string (t.1 2), .string (t.1 3), .string (r.1 2), .string (r.1 3), .string (r.1 6)] 9)) (w.heap.size + 1) r) := HAR1.out.still bs
  generalize shortB _ 5 = sb at SH
  clear AW b1 bs HAO HAR HAO1 HAR1
  go_wp2_with fail
  refine SH.mono ?_
  rintro e w2 ⟨rfl, hw2⟩
  rw [← hw2] at HB2 HAO2 HAR2
  clear SH hw2 a0 a1 a2 a3 a4 a5 a6 c0 c1 c2 c3 c4 c5 c6
  cases sb with
  | false =>
    go_wp2_with fail
    go_ret
    exact ⟨rfl, HB2.out⟩
  | true =>
    have EO := O.encode_any t w2 (HLO.out.still HB2.out) (HP.out.still HB2.out)
    obtain ⟨a0, a1, a2, a3, a4, a5, a6⟩ := O.ThAt.all HAO2.out
    by_cases hO : O.rightB t = true
    case neg =>
      have e2 : O.encE t = ([], 2) := if_neg hO
      rw [e2] at EO
      clear hO e2
      go_wp2_with fail
      refine EO.mono ?_
      rintro e w3 ⟨rfl, b3⟩
      have HB3 : Hid (Below w.heap.size w w3) := HB2.out.trans (b3.mono HB2.out.size)
      have HAR3 : Hid (ThAt R.nm w3 (w.heap.size + 1) r) := HAR2.out.still b3
      clear EO b3 a0 a1 a2 a3 a4 a5 a6
      have ER := R.encode_any r w3 (HLR.out.still HB3.out) (HP.out.still HB3.out)
      obtain ⟨k0, k1, k2, k3, k4, k5, k6⟩ := R.ThAt.all HAR3.out
      by_cases hR : R.rightB r = true
      case neg =>
        have e2 : R.encE r = ([], 2) := if_neg hR
        rw [e2] at ER
        clear hR e2
        go_wp2_with fail
        refine ER.mono ?_
        rintro e x1 ⟨rfl, y1⟩
        have HX1 : Hid (Below w.heap.size w x1) := HB3.out.trans (y1.mono HB3.out.size)
        clear ER y1
        go_wp2_with fail
        go_ret
        exact ⟨rfl, HX1.out⟩
      have e0 : R.encE r = (cat (R.fieldsT r), 0) := if_pos hR
      rw [e0] at ER
      have HRR : Hid (R.RightP r) := (R.right_iff r).1 hR
      have DB : Hid (∀ w, R.Let w → _) := fun w h => R.decode_back HRR.out w h
      have DC : Hid (∀ w, O.Let w → _) := fun w h => decode_crossR HRR.out w h
      generalize mk (cat (R.fieldsT r)) = br at *
      clear hR e0
      go_wp2_with fail
      refine ER.mono ?_
      rintro e x1 ⟨rfl, y1⟩
      have HX1 : Hid (Below w.heap.size w x1) := HB3.out.trans (y1.mono HB3.out.size)
      have HR1 : Hid (ThAt R.nm x1 (w.heap.size + 1) r) := HAR3.out.still y1
      have D1 := DB.out x1 (HLR.out.still HX1.out)
      clear ER y1 k0 k1 k2 k3 k4 k5 k6
      go_wp2_with fail
      refine D1.mono ?_
      rintro e x2 ⟨rfl, y2⟩
      have HX2 : Hid (Below w.heap.size w (R.boxT x2 r)) := (HX1.out.trans (y2.mono HX1.out.size)).trans ((R.box_below x2 r).mono (HX1.out.trans (y2.mono HX1.out.size)).size)
      have HR2 : Hid (ThAt R.nm (R.boxT x2 r) (w.heap.size + 1) r) := (HR1.out.still y2).still (R.box_below x2 r)
      have HQ2 : Hid (ThAt R.nm (R.boxT x2 r) x2.heap.size r) := R.box_at x2 r
      have D2 := DC.out (R.boxT x2 r) (HLO.out.still HX2.out)
      unfold R.boxT at D2
      clear D1 y2 DB DC
      go_wp2_with fail
      refine D2.mono ?_
      rintro e x3 ⟨rfl, y3⟩
      have HX3 : Hid (Below w.heap.size w x3) := HX2.out.trans (y3.mono HX2.out.size)
      obtain ⟨g0, g1, g2, g3, g4, g5, g6⟩ := R.ThAt.all ((HR2.out.still y3).still (O.box_below x3 (zeroT 0)))
      obtain ⟨h0, h1, h2, h3, h4, h5, h6⟩ := R.ThAt.all ((HQ2.out.still y3).still (O.box_below x3 (zeroT 0)))
      unfold O.boxT at g0 g1 g2 g3 g4 g5 g6 h0 h1 h2 h3 h4 h5 h6
      simp only [zero_n, zero_t] at g0 g1 g2 g3 g4 g5 g6 h0 h1 h2 h3 h4 h5 h6
      have QR : ∀ w, (Op.equalIn 10000 35 (.agg #[.int .i64 (r.2 0), .int .i64 (r.2 1), .string (r.1 2), .string (r.1 3), .int .i64 (r.2 4), .int .i64 (r.2 5), .string (r.1 6)]) (.agg #[.int .i64 (r.2 0), .int .i64 (r.2 1), .string (r.1 2), .string (r.1 3), .int .i64 (r.2 4), .int .i64 (r.2 5), .string (r.1 6)])).run Tryd.prog w = .ok true w := R.same_run r
      clear D2 y3
      go_wp2_with fail
      go_ret
      exact ⟨rfl, HX3.out.alloc HX3.out.size _⟩
    have e0 : O.encE t = (cat (O.fieldsT t), 0) := if_pos hO
    rw [e0] at EO
    have HRO : Hid (O.RightP t) := (O.right_iff t).1 hO
    have DB : Hid (∀ w, O.Let w → _) := fun w h => O.decode_back HRO.out w h
    have DC : Hid (∀ w, R.Let w → _) := fun w h => decode_crossO HRO.out w h
    generalize mk (cat (O.fieldsT t)) = bo at *
    clear hO e0
    go_wp2_with fail
    refine EO.mono ?_
    rintro e w3 ⟨rfl, b3⟩
    have HB3 : Hid (Below w.heap.size w w3) := HB2.out.trans (b3.mono HB2.out.size)
    have HAO3 : Hid (ThAt O.nm w3 w.heap.size t) := HAO2.out.still b3
    have HAR3 : Hid (ThAt R.nm w3 (w.heap.size + 1) r) := HAR2.out.still b3
    have D1 := DB.out w3 (HLO.out.still HB3.out)
    clear EO b3 a0 a1 a2 a3 a4 a5 a6
    go_wp2_with fail
    refine D1.mono ?_
    rintro e w4 ⟨rfl, b4⟩
    have HB4 : Hid (Below w.heap.size w (O.boxT w4 t)) := (HB3.out.trans (b4.mono HB3.out.size)).trans ((O.box_below w4 t).mono (HB3.out.trans (b4.mono HB3.out.size)).size)
    have HAO4 : Hid (ThAt O.nm (O.boxT w4 t) w.heap.size t) := (HAO3.out.still b4).still (O.box_below w4 t)
    have HAR4 : Hid (ThAt R.nm (O.boxT w4 t) (w.heap.size + 1) r) := (HAR3.out.still b4).still (O.box_below w4 t)
    have HP4 : Hid (ThAt O.nm (O.boxT w4 t) w4.heap.size t) := O.box_at w4 t
    have D2 := DC.out (O.boxT w4 t) (HLR.out.still HB4.out)
    unfold O.boxT at D2
    clear D1 b4 DB DC
    go_wp2_with fail
    refine D2.mono ?_
    rintro e w5 ⟨rfl, b5⟩
    have HB5 : Hid (Below w.heap.size w (R.boxT w5 (zeroT 0))) := (HB4.out.trans (b5.mono HB4.out.size)).trans ((R.box_below w5 (zeroT 0)).mono (HB4.out.trans (b5.mono HB4.out.size)).size)
    have HAR5 : Hid (ThAt R.nm (R.boxT w5 (zeroT 0)) (w.heap.size + 1) r) := (HAR4.out.still b5).still (R.box_below w5 (zeroT 0))
    obtain ⟨m0, m1, m2, m3, m4, m5, m6⟩ := O.ThAt.all ((HAO4.out.still b5).still (R.box_below w5 (zeroT 0)))
    obtain ⟨n0, n1, n2, n3, n4, n5, n6⟩ := O.ThAt.all ((HP4.out.still b5).still (R.box_below w5 (zeroT 0)))
    unfold R.boxT at m0 m1 m2 m3 m4 m5 m6 n0 n1 n2 n3 n4 n5 n6
    simp only [zero_n, zero_t] at m0 m1 m2 m3 m4 m5 m6 n0 n1 n2 n3 n4 n5 n6
    have QO : ∀ w, (Op.equalIn 10000 23 (.agg #[.int .i64 (t.2 0), .int .i64 (t.2 1), .string (t.1 2), .string (t.1 3), .int .i64 (t.2 4), .int .i64 (t.2 5), .int .i64 (t.2 6)]) (.agg #[.int .i64 (t.2 0), .int .i64 (t.2 1), .string (t.1 2), .string (t.1 3), .int .i64 (t.2 4), .int .i64 (t.2 5), .int .i64 (t.2 6)])).run Tryd.prog w = .ok true w := O.same_run t
    clear D2 b5
    have ER := R.encode_any r (R.boxT w5 (zeroT 0)) (HLR.out.still HB5.out) (HP.out.still HB5.out)
    obtain ⟨k0, k1, k2, k3, k4, k5, k6⟩ := R.ThAt.all HAR5.out
    unfold R.boxT at ER k0 k1 k2 k3 k4 k5 k6
    simp only [zero_n, zero_t] at ER k0 k1 k2 k3 k4 k5 k6
    by_cases hR : R.rightB r = true
    case neg =>
      have e2 : R.encE r = ([], 2) := if_neg hR
      rw [e2] at ER
      clear hR e2
      go_wp2_with fail
      refine ER.mono ?_
      rintro e x1 ⟨rfl, y1⟩
      have HX1 : Hid (Below w.heap.size w x1) := HB5.out.trans (y1.mono HB5.out.size)
      clear ER y1
      go_wp2_with fail
      go_ret
      exact ⟨rfl, HX1.out⟩
    have e0 : R.encE r = (cat (R.fieldsT r), 0) := if_pos hR
    rw [e0] at ER
    have HRR : Hid (R.RightP r) := (R.right_iff r).1 hR
    have DB : Hid (∀ w, R.Let w → _) := fun w h => R.decode_back HRR.out w h
    have DC : Hid (∀ w, O.Let w → _) := fun w h => decode_crossR HRR.out w h
    generalize mk (cat (R.fieldsT r)) = br at *
    clear hR e0
    go_wp2_with fail
    refine ER.mono ?_
    rintro e x1 ⟨rfl, y1⟩
    have HX1 : Hid (Below w.heap.size w x1) := HB5.out.trans (y1.mono HB5.out.size)
    have HR1 : Hid (ThAt R.nm x1 (w.heap.size + 1) r) := HAR5.out.still y1
    have D1 := DB.out x1 (HLR.out.still HX1.out)
    clear ER y1 k0 k1 k2 k3 k4 k5 k6
    go_wp2_with fail
    refine D1.mono ?_
    rintro e x2 ⟨rfl, y2⟩
    have HX2 : Hid (Below w.heap.size w (R.boxT x2 r)) := (HX1.out.trans (y2.mono HX1.out.size)).trans ((R.box_below x2 r).mono (HX1.out.trans (y2.mono HX1.out.size)).size)
    have HR2 : Hid (ThAt R.nm (R.boxT x2 r) (w.heap.size + 1) r) := (HR1.out.still y2).still (R.box_below x2 r)
    have HQ2 : Hid (ThAt R.nm (R.boxT x2 r) x2.heap.size r) := R.box_at x2 r
    have D2 := DC.out (R.boxT x2 r) (HLO.out.still HX2.out)
    unfold R.boxT at D2
    clear D1 y2 DB DC
    go_wp2_with fail
    refine D2.mono ?_
    rintro e x3 ⟨rfl, y3⟩
    have HX3 : Hid (Below w.heap.size w x3) := HX2.out.trans (y3.mono HX2.out.size)
    obtain ⟨g0, g1, g2, g3, g4, g5, g6⟩ := R.ThAt.all ((HR2.out.still y3).still (O.box_below x3 (zeroT 0)))
    obtain ⟨h0, h1, h2, h3, h4, h5, h6⟩ := R.ThAt.all ((HQ2.out.still y3).still (O.box_below x3 (zeroT 0)))
    unfold O.boxT at g0 g1 g2 g3 g4 g5 g6 h0 h1 h2 h3 h4 h5 h6
    simp only [zero_n, zero_t] at g0 g1 g2 g3 g4 g5 g6 h0 h1 h2 h3 h4 h5 h6
    have QR : ∀ w, (Op.equalIn 10000 35 (.agg #[.int .i64 (r.2 0), .int .i64 (r.2 1), .string (r.1 2), .string (r.1 3), .int .i64 (r.2 4), .int .i64 (r.2 5), .string (r.1 6)]) (.agg #[.int .i64 (r.2 0), .int .i64 (r.2 1), .string (r.1 2), .string (r.1 3), .int .i64 (r.2 4), .int .i64 (r.2 5), .string (r.1 6)])).run Tryd.prog w = .ok true w := R.same_run r
    clear D2 y3
    go_wp2_with fail
    go_ret
    exact ⟨rfl, HX3.out.alloc HX3.out.size _⟩
set_option maxRecDepth 100000 in
theorem postBack_lifted (os : Os) (started : os.Started) (H : Type) (enc : TypeId × Value → H) :
    ReturnsInHanded {} Tryd.checked os 5 .any (fun w args => (Rows.postBackSpec.pre enc Tryd.prog Tryd.f5 [] false w args ∧ laidMetH Tryd.prog Rows.postBackRow.laid w) ∧ sizedMet enc Tryd.prog Tryd.f5 (OpenSpec.ofChange Rows.postBackSpec) false w args)
      (Rows.postBackSpec.post enc Tryd.prog Tryd.f5 false true false false) := by
  refine returnsInHanded_of_change_and (C := Tryd.checked) (X := fun w _ => laidMetH Tryd.prog laid8 w) (fun _ _ _ hh h => h.of_heap hh) own8 started (by kernel_rfl) Tryd.func5
    (ChangeSpec.witness_shaped (enc := enc) (C := Tryd.checked) (os := os) (X := fun w _ => laidMetH Tryd.prog laid8 w) false (World.doorLaid Tryd.prog 400 os) #[.agg #[.int .i64 0, .int .i64 0, .string ⟨#[]⟩, .string ⟨#[]⟩, .int .i64 0, .int .i64 0, .int .i64 0], .agg #[.int .i64 0, .int .i64 0, .string ⟨#[]⟩, .string ⟨#[]⟩, .int .i64 0, .int .i64 0, .string ⟨#[]⟩]] 8 rfl (World.shaped_of_RefB (by kernel_rfl) (by kernel_rfl)) (by kernel_rfl) (by kernel_rfl) (by kernel_rfl) (door_met os _)) ?_
  intro W base args ds gs before hval0 hW _ _ hL _
  have hval : ∀ (j : Nat) t v, Tryd.f5.params[j]? = some t → args[j]? = some v → Value.okWide Tryd.prog W .any base t v := hval0
  have hW' := hW
  obtain ⟨p, q, hA0, hV, rfl, hfz, hnd⟩ := hW
  have hA : DataW.TrodAll enc Tryd.prog W 0 (fun _ => true) true Tryd.f5.params.toList args.toList ds p := hA0
  rw [Tryd.params5] at hA hval
  obtain ⟨v0, vs0, d0, ds0, p0, q0, hargs, rfl, rfl, h0, r0⟩ := trodAll_cons hA
  obtain ⟨v1, vs1, d1, ds1, p1, q1, rfl, rfl, rfl, h1, r1⟩ := trodAll_cons r0
  obtain ⟨rfl, rfl, rfl⟩ := trodAll_nil r1
  obtain rfl : args = #[v0, v1] := by cases args; simp_all
  obtain ⟨rfl, rfl⟩ := trodVars_none hV
  have k0 := h0
  have lt0 : ∀ x ∈ p0, x.block < W.heap.size := by obtain ⟨m, hm⟩ := k0; exact DataW.trod_lt m _ _ _ hm
  obtain ⟨t0, rfl⟩ := open_order (hval 0 23 v0 rfl rfl) h0
  have k1 := h1
  have lt1 : ∀ x ∈ p1, x.block < W.heap.size := by obtain ⟨m, hm⟩ := k1; exact DataW.trod_lt m _ _ _ hm
  obtain ⟨t1, rfl⟩ := open_reply (hval 1 35 v1 rfl rfl) h1
  clear hA0 hval0
  simp only [List.append_nil] at hW'
  refine (postBack_walk W t0 t1 (pow_of_laid hL) (letO_of_laid hL) (letR_of_laid hL)).mono fun e W' ⟨he, bel⟩ => ?_
  subst he
  exact ⟨_, rfl, _, _, _, [], _, [], hW', trodAll_mk1 (shut_bool Tryd.underlying4 _), (trodAll_cons_mk (Below.trod laidOut8 (by kernel_rfl) (of_decide_eq_true (by kernel_rfl)) k0 bel lt0) (trodAll_cons_mk (Below.trod laidOut8 (by kernel_rfl) (of_decide_eq_true (by kernel_rfl)) k1 bel lt1) trodAll_mk0)), rfl, bel.frame _, fun h => by cases h⟩

/-- The row. -/
theorem postBack_row : Rows.PostBackSaid :=
  OpenClaim.holds_of_wide 5 Tryd.f5 rfl rfl rfl rfl rfl rfl rfl ⟨rfl, rfl, rfl, rfl, rfl⟩ rfl rfl rfl rfl rfl (by kernel_rfl) Tryd.func5 (by kernel_rfl)
    (of_decide_eq_true (by kernel_rfl)) (by unfold Func.isWrapper; first | (rw [if_pos (by decide +kernel)]; kernel_rfl) | (rw [if_neg (by decide +kernel)]; exact ⟨rfl, rfl⟩))
    (fun os started H enc _ => postBack_lifted os started H enc)
/-- THE STATEMENT: the tied card. -/
theorem postBack_proved : Rows.PostBackCardSaid :=
  Claim7.holds_tied_plain_at .later [] Rows.postBackCard.laidKinds true Rows.postBackCard.stood.harness Rows.postBackCard.stood.looks
    postBack_row (fun _ h => by cases h) (by kernel_rfl) (fun _ h => by cases h) postBack_row_tie rfl ⟨rfl, rfl⟩ (by kernel_rfl) rfl
    (fun f fn hf hfn => by
      obtain rfl : f = 5 := Option.some.inj ((show Tryd.prog.funcNamed Rows.postBackRow.func = some 5 by kernel_rfl).symm.trans hf) |>.symm
      obtain rfl : fn = Tryd.f5 := (Option.some.inj (Tryd.func5.symm.trans hfn)).symm
      exact ⟨by kernel_rfl, fun j t ht => by
        rw [Tryd.params5] at ht
        have hm : t ∈ [23, 35] := by simpa using Array.mem_of_getElem? ht
        have hall : ([23, 35].all fun u => !Tryd.prog.wantsStandIn u) = true := by kernel_rfl
        exact (show Tryd.prog.wantsStandIn t = false by simpa using List.all_eq_true.1 hall t hm)⟩)
    (by kernel_rfl)
#print axioms postBack_proved
end Go.Proofs.YtdbkoflejimibaaDoor
