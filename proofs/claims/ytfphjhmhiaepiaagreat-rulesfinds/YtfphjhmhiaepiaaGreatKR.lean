/-
  RulesFinds of a setup that is right: what is asked for by name and by place is told.
-/
import Derived.Deep.RegionHeld3
import Derived.Test.YtfphjhmhiaepiaaGreatKQ
import Derived.Test.YtfphjhmhiaepiaaGreatKP
namespace Go.Proofs.YtfphjhmhiaepiaaGreat
open Go.ChangeShapes Go.WideShapes Go.ChangeAt Go.RowKit Go.Lib RU SM

set_option maxRecDepth 100000 in
set_option maxHeartbeats 64000000 in
theorem finds_in (w : World) (ba oa bs os bv ov c1 c2 c3 : Nat) (s : Stp) (h : SetIn w (some ⟨ba, oa, none⟩) (some ⟨bs, os, none⟩) (some ⟨bv, ov, none⟩) c1 c2 c3 s) (t : ByteArray) (i : Nat) (hi : i < s.nS) (hf : fewB s = true) (ht : t.size ≤ 200) (hr : rightB s = true) :
    Calls Tryz.prog 3 #[.agg #[.slice (some ⟨ba, oa, none⟩) s.nA c1, .slice (some ⟨bs, os, none⟩) s.nS c2, .slice (some ⟨bv, ov, none⟩) s.nV c3, .int .i64 (s.P 3), .int .i64 (s.P 4), .int .i64 (s.P 5), .int .i64 (s.P 6), .int .i64 (s.P 7), .int .i64 (s.P 8)], .string t, .int .i64 (i : Int)] w fun e w' => e = .returned (.bool true) ∧ Below w.heap.size w w' := by
  have HB0 : Hid (Below w.heap.size w (w.alloc (.cells #[.slice (some ⟨ba, oa, none⟩) s.nA c1, .slice (some ⟨bs, os, none⟩) s.nS c2, .slice (some ⟨bv, ov, none⟩) s.nV c3, .int .i64 (s.P 3), .int .i64 (s.P 4), .int .i64 (s.P 5), .int .i64 (s.P 6), .int .i64 (s.P 7), .int .i64 (s.P 8)] 26))) := (Below.refl _ _).alloc (Nat.le_refl _) _
  have A0 : Hid (SetAt (w.alloc (.cells #[.slice (some ⟨ba, oa, none⟩) s.nA c1, .slice (some ⟨bs, os, none⟩) s.nS c2, .slice (some ⟨bv, ov, none⟩) s.nV c3, .int .i64 (s.P 3), .int .i64 (s.P 4), .int .i64 (s.P 5), .int .i64 (s.P 6), .int .i64 (s.P 7), .int .i64 (s.P 8)] 26)) w.heap.size (some ⟨ba, oa, none⟩) (some ⟨bs, os, none⟩) (some ⟨bv, ov, none⟩) c1 c2 c3 s) := SetAt.box w (some ⟨ba, oa, none⟩) (some ⟨bs, os, none⟩) (some ⟨bv, ov, none⟩) c1 c2 c3 s _
  have F1 := fun w => awake15_any w
  have F2 : ∀ W, Below w.heap.size w W → Calls Tryz.prog 5 #[.agg #[.slice (some ⟨ba, oa, none⟩) s.nA c1, .slice (some ⟨bs, os, none⟩) s.nS c2, .slice (some ⟨bv, ov, none⟩) s.nV c3, .int .i64 (s.P 3), .int .i64 (s.P 4), .int .i64 (s.P 5), .int .i64 (s.P 6), .int .i64 (s.P 7), .int .i64 (s.P 8)]] W fun e w' => e = .returned (.bool (fewB s)) ∧ Below W.heap.size W w' := fun W hW => few15_any (h.below hW (Nat.le_refl _))
  obtain ⟨⟨k1, k2, k3⟩, q1, q2, q3⟩ := few_get hf
  have few' : Few s := ⟨by omega, by omega, by omega, fun i hi => Nat.le_trans (short_get q1 hi) (by omega), fun i hi => Nat.le_trans (short_get q2 hi) (by omega), fun i hi => Nat.le_trans (short_get q3 hi) (by omega)⟩
  have szs : Szs s := ⟨fun i hi => Nat.le_trans (short_get q1 hi) (by omega), fun i hi => Nat.le_trans (short_get q2 hi) (by omega), fun i hi => Nat.le_trans (short_get q3 hi) (by omega)⟩
  rw [hf] at F2
  have F3 : ∀ W, Below w.heap.size w W → Calls Tryz.prog 6 #[.agg #[.slice (some ⟨ba, oa, none⟩) s.nA c1, .slice (some ⟨bs, os, none⟩) s.nS c2, .slice (some ⟨bv, ov, none⟩) s.nV c3, .int .i64 (s.P 3), .int .i64 (s.P 4), .int .i64 (s.P 5), .int .i64 (s.P 6), .int .i64 (s.P 7), .int .i64 (s.P 8)]] W fun e w' => ∃ x1 x2 x3 y1 y2 y3, e = .returned (.agg #[.slice x1 s.nA y1, .slice x2 s.nS y2, .slice x3 s.nV y3, .int .i64 (s.P 3), .int .i64 (s.P 4), .int .i64 (s.P 5), .int .i64 (s.P 6), .int .i64 (s.P 7), .int .i64 (s.P 8)]) ∧ SetIn w' x1 x2 x3 y1 y2 y3 s ∧ Below W.heap.size W w' := fun W hW => plain_any (h.below hW (Nat.le_refl _)) (by omega) (by omega) (by omega)
  have F4 : ∀ {W : World} {x1 x2 x3 : Option Addr} {y1 y2 y3 : Nat}, SetIn W x1 x2 x3 y1 y2 y3 s → Calls Tryz.prog 7 #[.agg #[.slice x1 s.nA y1, .slice x2 s.nS y2, .slice x3 s.nV y3, .int .i64 (s.P 3), .int .i64 (s.P 4), .int .i64 (s.P 5), .int .i64 (s.P 6), .int .i64 (s.P 7), .int .i64 (s.P 8)]] W fun e w' => e = .returned (.bool true) ∧ Below W.heap.size W w' := fun hI => by
      have := rightR_any hI few'
      rwa [hr] at this
  have F5 : ∀ {W : World} {l1 l2 l3 : Option Addr} {r1 r2 r3 : Nat}, SetIn W l1 l2 l3 r1 r2 r3 s → Calls Tryz.prog 8 #[.agg #[.slice l1 s.nA r1, .slice l2 s.nS r2, .slice l3 s.nV r3, .int .i64 (s.P 3), .int .i64 (s.P 4), .int .i64 (s.P 5), .int .i64 (s.P 6), .int .i64 (s.P 7), .int .i64 (s.P 8)]] W fun e w' => ∃ pp f1 f2 f3 g1 g2 g3 j1 j2 j3, e = .returned (.tuple #[.pointer (some ⟨pp, 0, none⟩), .int .i64 0]) ∧ RulAt W.heap.size w' pp f1 f2 f3 g1 g2 g3 j1 j2 j3 s ∧ Below W.heap.size W w' := fun hI => new_good hI hr szs
  have cnt := right_cnt hr
  have n1 : 1 ≤ s.nA := cnt.1.1
  have n2 : 1 ≤ s.nS := cnt.2.1.1
  have n3 : 1 ≤ s.nV := cnt.2.2.1
  have t1 : ¬ (200 : Int) < (t.size : Int) := by omega
  have t2 : (t.size : Int) ≤ 200 := by omega
  have tm : t.size ≤ maxLen := by unfold maxLen; omega
  obtain ⟨i0, hi0, hz0, hs0, hb0⟩ := info_parts infoA
  obtain ⟨i1, hi1, hz1, hs1, hb1⟩ := info_parts infoS
  obtain ⟨i2, hi2, hz2, hs2, hb2⟩ := info_parts infoV
  obtain ⟨z0, HZ0⟩ : ∃ z, Hid (numV (lastOf (fun i => (s.A i).1) s.nA t) = z) := ⟨_, rfl⟩
  obtain ⟨k0', HK0⟩ : ∃ b, Hid ((lastOf (fun i => (s.A i).1) s.nA t).isSome = b) := ⟨_, rfl⟩
  have LF0 := last_first (names_get (nms_get (right_nms hr)).1).2 t
  have GF0 : ∀ {B : Nat} {W : World} {pp : Nat} {f1 f2 f3 : Option Addr} {g1 g2 g3 j1 j2 j3 : Nat}, RulAt B W pp f1 f2 f3 g1 g2 g3 j1 j2 j3 s → Calls Tryz.prog 9 #[.pointer (some ⟨pp, 0, none⟩), .string t] W fun e w' => e = .returned (.tuple #[.int .i64 z0, .bool k0']) ∧ w' = W := fun hR => by
      have := account_found hR t tm
      rwa [HZ0.out, HK0.out] at this
  have FN0 : ∀ W v, Row W v s.nA (fun i => .string (s.A i).1) → Calls Tryz.prog 15 #[.int .i64 z0, .bool k0', v, .string t] W fun e w' => e = .returned (.bool true) ∧ W = w' := fun W v hv => (lawFind_any hv t z0 k0' (by rw [← HK0.out]; exact LF0.1) (by rw [← HZ0.out]; exact LF0.2)).mono fun e w' ⟨a, b⟩ => ⟨a, b.symm⟩
  obtain ⟨z1, HZ1⟩ : ∃ z, Hid (numV (lastOf (fun i => (s.S i).1) s.nS t) = z) := ⟨_, rfl⟩
  obtain ⟨k1', HK1⟩ : ∃ b, Hid ((lastOf (fun i => (s.S i).1) s.nS t).isSome = b) := ⟨_, rfl⟩
  have LF1 := last_first (names_get (nms_get (right_nms hr)).2.1).2 t
  have GF1 : ∀ {B : Nat} {W : World} {pp : Nat} {f1 f2 f3 : Option Addr} {g1 g2 g3 j1 j2 j3 : Nat}, RulAt B W pp f1 f2 f3 g1 g2 g3 j1 j2 j3 s → Calls Tryz.prog 10 #[.pointer (some ⟨pp, 0, none⟩), .string t] W fun e w' => e = .returned (.tuple #[.int .i64 z1, .bool k1']) ∧ w' = W := fun hR => by
      have := symbol_found hR t tm
      rwa [HZ1.out, HK1.out] at this
  have FN1 : ∀ W v, Row W v s.nS (fun i => .string (s.S i).1) → Calls Tryz.prog 15 #[.int .i64 z1, .bool k1', v, .string t] W fun e w' => e = .returned (.bool true) ∧ W = w' := fun W v hv => (lawFind_any hv t z1 k1' (by rw [← HK1.out]; exact LF1.1) (by rw [← HZ1.out]; exact LF1.2)).mono fun e w' ⟨a, b⟩ => ⟨a, b.symm⟩
  obtain ⟨z2, HZ2⟩ : ∃ z, Hid (numV (lastOf (fun i => (s.V i).1) s.nV t) = z) := ⟨_, rfl⟩
  obtain ⟨k2', HK2⟩ : ∃ b, Hid ((lastOf (fun i => (s.V i).1) s.nV t).isSome = b) := ⟨_, rfl⟩
  have LF2 := last_first (names_get (nms_get (right_nms hr)).2.2).2 t
  have GF2 : ∀ {B : Nat} {W : World} {pp : Nat} {f1 f2 f3 : Option Addr} {g1 g2 g3 j1 j2 j3 : Nat}, RulAt B W pp f1 f2 f3 g1 g2 g3 j1 j2 j3 s → Calls Tryz.prog 11 #[.pointer (some ⟨pp, 0, none⟩), .string t] W fun e w' => e = .returned (.tuple #[.int .i64 z2, .bool k2']) ∧ w' = W := fun hR => by
      have := venue_found hR t tm
      rwa [HZ2.out, HK2.out] at this
  have FN2 : ∀ W v, Row W v s.nV (fun i => .string (s.V i).1) → Calls Tryz.prog 15 #[.int .i64 z2, .bool k2', v, .string t] W fun e w' => e = .returned (.bool true) ∧ W = w' := fun W v hv => (lawFind_any hv t z2 k2' (by rw [← HK2.out]; exact LF2.1) (by rw [← HZ2.out]; exact LF2.2)).mono fun e w' ⟨a, b⟩ => ⟨a, b.symm⟩
  have TK : (s.S i).2.1 2 ≤ 9223372036854775807 := by
      have h1 := sym_tick hr hi
      omega
  have HI : Hid (SetIn w (some ⟨ba, oa, none⟩) (some ⟨bs, os, none⟩) (some ⟨bv, ov, none⟩) c1 c2 c3 s) := h
  have FW : Hid (Few s) := few'
  have CT : Hid (Cnt s) := cnt
  clear few' szs hr q1 q2 q3 cnt hf ht h LF0 LF1 LF2
  go_enter Tryz.func3, Tryz.ntmps3
  go_wp2_with fail
  refine (F1 _).mono ?_
  rintro e w1 ⟨rfl, b1⟩
  have HB1 : Hid (Below w.heap.size w w1) := HB0.out.trans (b1.mono HB0.out.size)
  have A1 : Hid (SetAt w1 w.heap.size (some ⟨ba, oa, none⟩) (some ⟨bs, os, none⟩) (some ⟨bv, ov, none⟩) c1 c2 c3 s) := A0.out.still b1 A0.out.lt
  obtain ⟨d0, d1, d2, d3, d4, d5, d6, d7, d8⟩ := A1.out
  clear b1
  go_wp2_with fail
  refine (F2 _ HB1.out).mono ?_
  rintro e w2 ⟨rfl, b2⟩
  have HB2 : Hid (Below w.heap.size w w2) := HB1.out.trans (b2.mono HB1.out.size)
  have A2 : Hid (SetAt w2 w.heap.size (some ⟨ba, oa, none⟩) (some ⟨bs, os, none⟩) (some ⟨bv, ov, none⟩) c1 c2 c3 s) := A1.out.still b2 A1.out.lt
  clear d0 d1 d2 d3 d4 d5 d6 d7 d8
  obtain ⟨d0, d1, d2, d3, d4, d5, d6, d7, d8⟩ := A2.out
  clear b2
  go_wp2_with fail
  refine (F3 _ HB2.out).mono ?_
  rintro e w3 ⟨x1, x2, x3, y1, y2, y3, rfl, hI, b3⟩
  have G4 := F4 hI
  have HB3 : Hid (Below w.heap.size w w3) := HB2.out.trans (b3.mono HB2.out.size)
  have A3 : Hid (SetAt w3 w.heap.size (some ⟨ba, oa, none⟩) (some ⟨bs, os, none⟩) (some ⟨bv, ov, none⟩) c1 c2 c3 s) := A2.out.still b3 A2.out.lt
  clear d0 d1 d2 d3 d4 d5 d6 d7 d8
  obtain ⟨d0, d1, d2, d3, d4, d5, d6, d7, d8⟩ := A3.out
  clear b3 hI
  go_wp2_with fail
  refine G4.mono ?_
  rintro e w4 ⟨rfl, b4⟩
  have HB4 : Hid (Below w.heap.size w w4) := HB3.out.trans (b4.mono HB3.out.size)
  have A4 : Hid (SetAt w4 w.heap.size (some ⟨ba, oa, none⟩) (some ⟨bs, os, none⟩) (some ⟨bv, ov, none⟩) c1 c2 c3 s) := A3.out.still b4 A3.out.lt
  clear d0 d1 d2 d3 d4 d5 d6 d7 d8
  obtain ⟨d0, d1, d2, d3, d4, d5, d6, d7, d8⟩ := A4.out
  clear b4 G4
  go_wp2_with fail
  refine (F3 _ HB4.out).mono ?_
  rintro e w5 ⟨p1, p2, p3, q1, q2, q3, rfl, hI5, b5⟩
  have HB5 : Hid (Below w.heap.size w w5) := HB4.out.trans (b5.mono HB4.out.size)
  have A5 : Hid (SetAt w5 w.heap.size (some ⟨ba, oa, none⟩) (some ⟨bs, os, none⟩) (some ⟨bv, ov, none⟩) c1 c2 c3 s) := A4.out.still b5 A4.out.lt
  clear d0 d1 d2 d3 d4 d5 d6 d7 d8
  have HP5 : Hid (SetIn w5 p1 p2 p3 q1 q2 q3 s) := hI5
  clear b5 hI5 HB0 HB1 HB2 HB3 HB4 A0 A1 A2 A3 A4 F1 F2
  have VS : Hid ((w5.alloc (.cells #[.slice p1 s.nA q1, .slice p2 s.nS q2, .slice p3 s.nV q3, .int .i64 (s.P 3), .int .i64 (s.P 4), .int .i64 (s.P 5), .int .i64 (s.P 6), .int .i64 (s.P 7), .int .i64 (s.P 8)] 33)).heap.size = w5.heap.size + 1) := by show _ = _; simp
  have HBV : Hid (Below w.heap.size w (w5.alloc (.cells #[.slice p1 s.nA q1, .slice p2 s.nS q2, .slice p3 s.nV q3, .int .i64 (s.P 3), .int .i64 (s.P 4), .int .i64 (s.P 5), .int .i64 (s.P 6), .int .i64 (s.P 7), .int .i64 (s.P 8)] 33))) := HB5.out.alloc HB5.out.size _
  have AX : Hid (SetAt (w5.alloc (.cells #[.slice p1 s.nA q1, .slice p2 s.nS q2, .slice p3 s.nV q3, .int .i64 (s.P 3), .int .i64 (s.P 4), .int .i64 (s.P 5), .int .i64 (s.P 6), .int .i64 (s.P 7), .int .i64 (s.P 8)] 33)) w.heap.size (some ⟨ba, oa, none⟩) (some ⟨bs, os, none⟩) (some ⟨bv, ov, none⟩) c1 c2 c3 s) := A5.out.still ((Below.refl _ _).alloc (Nat.le_refl _) _) A5.out.lt
  have B7 : Hid (SetAt (w5.alloc (.cells #[.slice p1 s.nA q1, .slice p2 s.nS q2, .slice p3 s.nV q3, .int .i64 (s.P 3), .int .i64 (s.P 4), .int .i64 (s.P 5), .int .i64 (s.P 6), .int .i64 (s.P 7), .int .i64 (s.P 8)] 33)) w5.heap.size p1 p2 p3 q1 q2 q3 s) := SetAt.box w5 p1 p2 p3 q1 q2 q3 s _
  have LX : Hid (w.heap.size < w5.heap.size + 1) := by have h1 := AX.out.lt; rw [VS.out] at h1; exact h1
  obtain ⟨d0, d1, d2, d3, d4, d5, d6, d7, d8⟩ := AX.out
  have K0 : Hid (Below (w5.heap.size + 1) (w5.alloc (.cells #[.slice p1 s.nA q1, .slice p2 s.nS q2, .slice p3 s.nV q3, .int .i64 (s.P 3), .int .i64 (s.P 4), .int .i64 (s.P 5), .int .i64 (s.P 6), .int .i64 (s.P 7), .int .i64 (s.P 8)] 33)) ((w5.alloc (.cells #[.slice p1 s.nA q1, .slice p2 s.nS q2, .slice p3 s.nV q3, .int .i64 (s.P 3), .int .i64 (s.P 4), .int .i64 (s.P 5), .int .i64 (s.P 6), .int .i64 (s.P 7), .int .i64 (s.P 8)] 33)).alloc (.cells #[.slice (some ⟨ba, oa, none⟩) s.nA c1, .slice (some ⟨bs, os, none⟩) s.nS c2, .slice (some ⟨bv, ov, none⟩) s.nV c3, .int .i64 (s.P 3), .int .i64 (s.P 4), .int .i64 (s.P 5), .int .i64 (s.P 6), .int .i64 (s.P 7), .int .i64 (s.P 8)] 26))) := (Below.refl _ _).alloc (by simp) _
  have X0 : Hid (Box9 ((w5.alloc (.cells #[.slice p1 s.nA q1, .slice p2 s.nS q2, .slice p3 s.nV q3, .int .i64 (s.P 3), .int .i64 (s.P 4), .int .i64 (s.P 5), .int .i64 (s.P 6), .int .i64 (s.P 7), .int .i64 (s.P 8)] 33)).alloc (.cells #[.slice (some ⟨ba, oa, none⟩) s.nA c1, .slice (some ⟨bs, os, none⟩) s.nS c2, .slice (some ⟨bv, ov, none⟩) s.nV c3, .int .i64 (s.P 3), .int .i64 (s.P 4), .int .i64 (s.P 5), .int .i64 (s.P 6), .int .i64 (s.P 7), .int .i64 (s.P 8)] 26)) (w5.heap.size + 1) (setF (some ⟨ba, oa, none⟩) (some ⟨bs, os, none⟩) (some ⟨bv, ov, none⟩) c1 c2 c3 s)) := by have h1 := box9_new (w5.alloc (.cells #[.slice p1 s.nA q1, .slice p2 s.nS q2, .slice p3 s.nV q3, .int .i64 (s.P 3), .int .i64 (s.P 4), .int .i64 (s.P 5), .int .i64 (s.P 6), .int .i64 (s.P 7), .int .i64 (s.P 8)] 33)) (some ⟨ba, oa, none⟩) (some ⟨bs, os, none⟩) (some ⟨bv, ov, none⟩) c1 c2 c3 s 26; rw [World.size_alloc] at h1; exact h1
  have LB0 : Hid (w5.heap.size + 2 ≤ ((w5.alloc (.cells #[.slice p1 s.nA q1, .slice p2 s.nS q2, .slice p3 s.nV q3, .int .i64 (s.P 3), .int .i64 (s.P 4), .int .i64 (s.P 5), .int .i64 (s.P 6), .int .i64 (s.P 7), .int .i64 (s.P 8)] 33)).alloc (.cells #[.slice (some ⟨ba, oa, none⟩) s.nA c1, .slice (some ⟨bs, os, none⟩) s.nS c2, .slice (some ⟨bv, ov, none⟩) s.nV c3, .int .i64 (s.P 3), .int .i64 (s.P 4), .int .i64 (s.P 5), .int .i64 (s.P 6), .int .i64 (s.P 7), .int .i64 (s.P 8)] 26)).heap.size) := by show _ ≤ _; simp
  have SS0 : Hid (((w5.alloc (.cells #[.slice p1 s.nA q1, .slice p2 s.nS q2, .slice p3 s.nV q3, .int .i64 (s.P 3), .int .i64 (s.P 4), .int .i64 (s.P 5), .int .i64 (s.P 6), .int .i64 (s.P 7), .int .i64 (s.P 8)] 33)).alloc (.cells #[.slice (some ⟨ba, oa, none⟩) s.nA c1, .slice (some ⟨bs, os, none⟩) s.nS c2, .slice (some ⟨bv, ov, none⟩) s.nV c3, .int .i64 (s.P 3), .int .i64 (s.P 4), .int .i64 (s.P 5), .int .i64 (s.P 6), .int .i64 (s.P 7), .int .i64 (s.P 8)] 26)).heap.size = w5.heap.size + 1 + 1) := by show _ = _; simp
  have KE0 : Hid (Below (w5.heap.size + 1) (w5.alloc (.cells #[.slice p1 s.nA q1, .slice p2 s.nS q2, .slice p3 s.nV q3, .int .i64 (s.P 3), .int .i64 (s.P 4), .int .i64 (s.P 5), .int .i64 (s.P 6), .int .i64 (s.P 7), .int .i64 (s.P 8)] 33)) (((w5.alloc (.cells #[.slice p1 s.nA q1, .slice p2 s.nS q2, .slice p3 s.nV q3, .int .i64 (s.P 3), .int .i64 (s.P 4), .int .i64 (s.P 5), .int .i64 (s.P 6), .int .i64 (s.P 7), .int .i64 (s.P 8)] 33)).alloc (.cells #[.slice (some ⟨ba, oa, none⟩) s.nA c1, .slice (some ⟨bs, os, none⟩) s.nS c2, .slice (some ⟨bv, ov, none⟩) s.nV c3, .int .i64 (s.P 3), .int .i64 (s.P 4), .int .i64 (s.P 5), .int .i64 (s.P 6), .int .i64 (s.P 7), .int .i64 (s.P 8)] 26)).alloc (.cells #[] 55))) := K0.out.alloc (by have h1 := LB0.out; omega) _
  have HBE0 : Hid (Below w.heap.size w (((w5.alloc (.cells #[.slice p1 s.nA q1, .slice p2 s.nS q2, .slice p3 s.nV q3, .int .i64 (s.P 3), .int .i64 (s.P 4), .int .i64 (s.P 5), .int .i64 (s.P 6), .int .i64 (s.P 7), .int .i64 (s.P 8)] 33)).alloc (.cells #[.slice (some ⟨ba, oa, none⟩) s.nA c1, .slice (some ⟨bs, os, none⟩) s.nS c2, .slice (some ⟨bv, ov, none⟩) s.nV c3, .int .i64 (s.P 3), .int .i64 (s.P 4), .int .i64 (s.P 5), .int .i64 (s.P 6), .int .i64 (s.P 7), .int .i64 (s.P 8)] 26)).alloc (.cells #[] 55))) := HBV.out.trans (KE0.out.mono (Nat.le_of_lt LX.out))
  have e0 : (((w5.alloc (.cells #[.slice p1 s.nA q1, .slice p2 s.nS q2, .slice p3 s.nV q3, .int .i64 (s.P 3), .int .i64 (s.P 4), .int .i64 (s.P 5), .int .i64 (s.P 6), .int .i64 (s.P 7), .int .i64 (s.P 8)] 33)).alloc (.cells #[.slice (some ⟨ba, oa, none⟩) s.nA c1, .slice (some ⟨bs, os, none⟩) s.nS c2, .slice (some ⟨bv, ov, none⟩) s.nV c3, .int .i64 (s.P 3), .int .i64 (s.P 4), .int .i64 (s.P 5), .int .i64 (s.P 6), .int .i64 (s.P 7), .int .i64 (s.P 8)] 26)).alloc (.cells #[] 55)).cell? ⟨w.heap.size, 0, none⟩ = some (.slice (some ⟨ba, oa, none⟩) s.nA c1) := (KE0.out.cell LX.out).trans AX.out.d0
  have hown : (((w5.alloc (.cells #[.slice p1 s.nA q1, .slice p2 s.nS q2, .slice p3 s.nV q3, .int .i64 (s.P 3), .int .i64 (s.P 4), .int .i64 (s.P 5), .int .i64 (s.P 6), .int .i64 (s.P 7), .int .i64 (s.P 8)] 33)).alloc (.cells #[.slice (some ⟨ba, oa, none⟩) s.nA c1, .slice (some ⟨bs, os, none⟩) s.nS c2, .slice (some ⟨bv, ov, none⟩) s.nV c3, .int .i64 (s.P 3), .int .i64 (s.P 4), .int .i64 (s.P 5), .int .i64 (s.P 6), .int .i64 (s.P 7), .int .i64 (s.P 8)] 26)).alloc (.cells #[] 55)).ownsRow (w5.heap.size + 2) 55 2 (.slice (some ⟨w5.heap.size + 1 + 1, 0, none⟩) 0 0) 0 [] := by
      have h1 := World.ownsRow_made (base := w5.heap.size + 2) (e := 55) (size := 2) ((w5.alloc (.cells #[.slice p1 s.nA q1, .slice p2 s.nS q2, .slice p3 s.nV q3, .int .i64 (s.P 3), .int .i64 (s.P 4), .int .i64 (s.P 5), .int .i64 (s.P 6), .int .i64 (s.P 7), .int .i64 (s.P 8)] 33)).alloc (.cells #[.slice (some ⟨ba, oa, none⟩) s.nA c1, .slice (some ⟨bs, os, none⟩) s.nS c2, .slice (some ⟨bv, ov, none⟩) s.nV c3, .int .i64 (s.P 3), .int .i64 (s.P 4), .int .i64 (s.P 5), .int .i64 (s.P 6), .int .i64 (s.P 7), .int .i64 (s.P 8)] 26)) #[] 0 LB0.out (Nat.zero_le _) rfl
      rw [SS0.out] at h1
      exact h1
  have hcn := rowA_cells (HI.out.ra.below HBE0.out (Nat.le_refl _))
  have hbase : Hid (w5.heap.size + 2 ≤ (((w5.alloc (.cells #[.slice p1 s.nA q1, .slice p2 s.nS q2, .slice p3 s.nV q3, .int .i64 (s.P 3), .int .i64 (s.P 4), .int .i64 (s.P 5), .int .i64 (s.P 6), .int .i64 (s.P 7), .int .i64 (s.P 8)] 33)).alloc (.cells #[.slice (some ⟨ba, oa, none⟩) s.nA c1, .slice (some ⟨bs, os, none⟩) s.nS c2, .slice (some ⟨bv, ov, none⟩) s.nV c3, .int .i64 (s.P 3), .int .i64 (s.P 4), .int .i64 (s.P 5), .int .i64 (s.P 6), .int .i64 (s.P 7), .int .i64 (s.P 8)] 26)).alloc (.cells #[] 55)).heap.size) := by have h1 := LB0.out; have h2 := ((Below.refl ((w5.alloc (.cells #[.slice p1 s.nA q1, .slice p2 s.nS q2, .slice p3 s.nV q3, .int .i64 (s.P 3), .int .i64 (s.P 4), .int .i64 (s.P 5), .int .i64 (s.P 6), .int .i64 (s.P 7), .int .i64 (s.P 8)] 33)).alloc (.cells #[.slice (some ⟨ba, oa, none⟩) s.nA c1, .slice (some ⟨bs, os, none⟩) s.nS c2, .slice (some ⟨bv, ov, none⟩) s.nV c3, .int .i64 (s.P 3), .int .i64 (s.P 4), .int .i64 (s.P 5), .int .i64 (s.P 6), .int .i64 (s.P 7), .int .i64 (s.P 8)] 26)).heap.size ((w5.alloc (.cells #[.slice p1 s.nA q1, .slice p2 s.nS q2, .slice p3 s.nV q3, .int .i64 (s.P 3), .int .i64 (s.P 4), .int .i64 (s.P 5), .int .i64 (s.P 6), .int .i64 (s.P 7), .int .i64 (s.P 8)] 33)).alloc (.cells #[.slice (some ⟨ba, oa, none⟩) s.nA c1, .slice (some ⟨bs, os, none⟩) s.nS c2, .slice (some ⟨bv, ov, none⟩) s.nV c3, .int .i64 (s.P 3), .int .i64 (s.P 4), .int .i64 (s.P 5), .int .i64 (s.P 6), .int .i64 (s.P 7), .int .i64 (s.P 8)] 26))).alloc (Nat.le_refl _) (.cells #[] 55)).size; exact Nat.le_trans h1 h2
  have hall := allA_one s.A s.nA
  go_wp2_with (at_builtin; refine wpList_append_own_at _ rfl _ _ 22 rfl (w5.heap.size + 2) 55 i0 (.agg #[.string ⟨#[]⟩, .int .i64 0]) 2 24 Tryz.underlying22 hi0 hz0 hs0 hb0 rfl (by decide) _ _ _ rfl hown ⟨ba, oa, none⟩ s.nA c1 (allA s.A s.nA) rfl ?hl ?hnews ?hone ?h63 ?hbytes ?hbase ?_)
  case hl => exact allA_length _ _
  case hnews => exact hcn
  case hone => exact hall
  case h63 => unfold maxLen; omega
  case hbytes => omega
  case hbase => exact hbase.out
  intro v5 u1 hown5 hg5 _ hat5
  have own5 : u1.ownsRow (w5.heap.size + 2) 55 2 v5 s.nA (allA s.A s.nA) := by simpa using hown5
  clear hown5 hat5 hown hcn hall hbase e0
  obtain ⟨l1, r1, rfl⟩ := own_shape own5
  have BG : But (fun k => k = w5.heap.size + 1 + 1) (((w5.alloc (.cells #[.slice p1 s.nA q1, .slice p2 s.nS q2, .slice p3 s.nV q3, .int .i64 (s.P 3), .int .i64 (s.P 4), .int .i64 (s.P 5), .int .i64 (s.P 6), .int .i64 (s.P 7), .int .i64 (s.P 8)] 33)).alloc (.cells #[.slice (some ⟨ba, oa, none⟩) s.nA c1, .slice (some ⟨bs, os, none⟩) s.nS c2, .slice (some ⟨bv, ov, none⟩) s.nV c3, .int .i64 (s.P 3), .int .i64 (s.P 4), .int .i64 (s.P 5), .int .i64 (s.P 6), .int .i64 (s.P 7), .int .i64 (s.P 8)] 26)).alloc (.cells #[] 55)) u1 := (But.of_grown hg5).mono (fun k _ e => (Option.some.inj e).symm)
  have LS : w5.heap.size + 1 + 1 = ((w5.alloc (.cells #[.slice p1 s.nA q1, .slice p2 s.nS q2, .slice p3 s.nV q3, .int .i64 (s.P 3), .int .i64 (s.P 4), .int .i64 (s.P 5), .int .i64 (s.P 6), .int .i64 (s.P 7), .int .i64 (s.P 8)] 33)).alloc (.cells #[.slice (some ⟨ba, oa, none⟩) s.nA c1, .slice (some ⟨bs, os, none⟩) s.nS c2, .slice (some ⟨bv, ov, none⟩) s.nV c3, .int .i64 (s.P 3), .int .i64 (s.P 4), .int .i64 (s.P 5), .int .i64 (s.P 6), .int .i64 (s.P 7), .int .i64 (s.P 8)] 26)).heap.size := SS0.out.symm
  have QB1 : Hid (Box9 u1 (w5.heap.size + 1) (setF (some ⟨ba, oa, none⟩) (some ⟨bs, os, none⟩) (some ⟨bv, ov, none⟩) c1 c2 c3 s)) := (X0.out.still ((Below.refl _ _).alloc (Nat.le_refl _) _)).kept BG (by have h1 := LB0.out; omega)
  have KU1 : Hid (Below (w5.heap.size + 1) (w5.alloc (.cells #[.slice p1 s.nA q1, .slice p2 s.nS q2, .slice p3 s.nV q3, .int .i64 (s.P 3), .int .i64 (s.P 4), .int .i64 (s.P 5), .int .i64 (s.P 6), .int .i64 (s.P 7), .int .i64 (s.P 8)] 33)) u1) := KE0.out.trans (BG.below (Nat.le_trans (by have h1 := LB0.out; omega) (((Below.refl ((w5.alloc (.cells #[.slice p1 s.nA q1, .slice p2 s.nS q2, .slice p3 s.nV q3, .int .i64 (s.P 3), .int .i64 (s.P 4), .int .i64 (s.P 5), .int .i64 (s.P 6), .int .i64 (s.P 7), .int .i64 (s.P 8)] 33)).alloc (.cells #[.slice (some ⟨ba, oa, none⟩) s.nA c1, .slice (some ⟨bs, os, none⟩) s.nS c2, .slice (some ⟨bv, ov, none⟩) s.nV c3, .int .i64 (s.P 3), .int .i64 (s.P 4), .int .i64 (s.P 5), .int .i64 (s.P 6), .int .i64 (s.P 7), .int .i64 (s.P 8)] 26)).heap.size ((w5.alloc (.cells #[.slice p1 s.nA q1, .slice p2 s.nS q2, .slice p3 s.nV q3, .int .i64 (s.P 3), .int .i64 (s.P 4), .int .i64 (s.P 5), .int .i64 (s.P 6), .int .i64 (s.P 7), .int .i64 (s.P 8)] 33)).alloc (.cells #[.slice (some ⟨ba, oa, none⟩) s.nA c1, .slice (some ⟨bs, os, none⟩) s.nS c2, .slice (some ⟨bv, ov, none⟩) s.nV c3, .int .i64 (s.P 3), .int .i64 (s.P 4), .int .i64 (s.P 5), .int .i64 (s.P 6), .int .i64 (s.P 7), .int .i64 (s.P 8)] 26))).alloc (Nat.le_refl _) (.cells #[] 55)).size)) (fun k e => by have h1 := LB0.out; omega))
  have US : But (fun k => k = w5.heap.size + 1) u1 (u1.setCell ⟨w5.heap.size + 1, 0, none⟩ (.slice l1 s.nA r1)) := (But.refl _ _).setCell _ _ _ (fun _ => rfl)
  have O1_1 : Hid ((u1.setCell ⟨w5.heap.size + 1, 0, none⟩ (.slice l1 s.nA r1)).ownsRow (w5.heap.size + 2) 55 2 (.slice l1 s.nA r1) s.nA (allA s.A s.nA)) := own_kept own5 US (fun g hg e => by have h1 := (own5.lt g hg).1; omega)
  have LB1 : Hid (w5.heap.size + 2 ≤ (u1.setCell ⟨w5.heap.size + 1, 0, none⟩ (.slice l1 s.nA r1)).heap.size) := by have h1 := LB0.out; have h2 := BG.size; have h3 := ((Below.refl ((w5.alloc (.cells #[.slice p1 s.nA q1, .slice p2 s.nS q2, .slice p3 s.nV q3, .int .i64 (s.P 3), .int .i64 (s.P 4), .int .i64 (s.P 5), .int .i64 (s.P 6), .int .i64 (s.P 7), .int .i64 (s.P 8)] 33)).alloc (.cells #[.slice (some ⟨ba, oa, none⟩) s.nA c1, .slice (some ⟨bs, os, none⟩) s.nS c2, .slice (some ⟨bv, ov, none⟩) s.nV c3, .int .i64 (s.P 3), .int .i64 (s.P 4), .int .i64 (s.P 5), .int .i64 (s.P 6), .int .i64 (s.P 7), .int .i64 (s.P 8)] 26)).heap.size ((w5.alloc (.cells #[.slice p1 s.nA q1, .slice p2 s.nS q2, .slice p3 s.nV q3, .int .i64 (s.P 3), .int .i64 (s.P 4), .int .i64 (s.P 5), .int .i64 (s.P 6), .int .i64 (s.P 7), .int .i64 (s.P 8)] 33)).alloc (.cells #[.slice (some ⟨ba, oa, none⟩) s.nA c1, .slice (some ⟨bs, os, none⟩) s.nS c2, .slice (some ⟨bv, ov, none⟩) s.nV c3, .int .i64 (s.P 3), .int .i64 (s.P 4), .int .i64 (s.P 5), .int .i64 (s.P 6), .int .i64 (s.P 7), .int .i64 (s.P 8)] 26))).alloc (Nat.le_refl _) (.cells #[] 55)).size; have h4 := US.size; show _ ≤ _; omega
  have K1 : Hid (Below (w5.heap.size + 1) (w5.alloc (.cells #[.slice p1 s.nA q1, .slice p2 s.nS q2, .slice p3 s.nV q3, .int .i64 (s.P 3), .int .i64 (s.P 4), .int .i64 (s.P 5), .int .i64 (s.P 6), .int .i64 (s.P 7), .int .i64 (s.P 8)] 33)) (u1.setCell ⟨w5.heap.size + 1, 0, none⟩ (.slice l1 s.nA r1))) := KU1.out.trans (US.below (by have h1 := KU1.out.size; rw [VS.out] at h1; omega) (fun k e => by omega))
  have X1 : Hid (Box9 (u1.setCell ⟨w5.heap.size + 1, 0, none⟩ (.slice l1 s.nA r1)) (w5.heap.size + 1) (upd (setF (some ⟨ba, oa, none⟩) (some ⟨bs, os, none⟩) (some ⟨bv, ov, none⟩) c1 c2 c3 s) 0 (.slice l1 s.nA r1))) := QB1.out.set (by omega) _
  clear d0 d1 d2 d3 d4 d5 d6 d7 d8
  have x0' : u1.cell? ⟨w5.heap.size + 1, 0, none⟩ = some (.slice (some ⟨ba, oa, none⟩) s.nA c1) := QB1.out.cell 0 (by omega)
  have x1' : u1.cell? ⟨w5.heap.size + 1, 1, none⟩ = some (.slice (some ⟨bs, os, none⟩) s.nS c2) := QB1.out.cell 1 (by omega)
  have x2' : u1.cell? ⟨w5.heap.size + 1, 2, none⟩ = some (.slice (some ⟨bv, ov, none⟩) s.nV c3) := QB1.out.cell 2 (by omega)
  have x3' : u1.cell? ⟨w5.heap.size + 1, 3, none⟩ = some (.int .i64 (s.P 3)) := QB1.out.cell 3 (by omega)
  have x4' : u1.cell? ⟨w5.heap.size + 1, 4, none⟩ = some (.int .i64 (s.P 4)) := QB1.out.cell 4 (by omega)
  have x5' : u1.cell? ⟨w5.heap.size + 1, 5, none⟩ = some (.int .i64 (s.P 5)) := QB1.out.cell 5 (by omega)
  have x6' : u1.cell? ⟨w5.heap.size + 1, 6, none⟩ = some (.int .i64 (s.P 6)) := QB1.out.cell 6 (by omega)
  have x7' : u1.cell? ⟨w5.heap.size + 1, 7, none⟩ = some (.int .i64 (s.P 7)) := QB1.out.cell 7 (by omega)
  have x8' : u1.cell? ⟨w5.heap.size + 1, 8, none⟩ = some (.int .i64 (s.P 8)) := QB1.out.cell 8 (by omega)
  have z : ∀ j, u1.frozen? ⟨w5.heap.size + 1, j, none⟩ = false := QB1.out.fz
  clear own5 hg5 BG US LS QB1 KE0 HBE0 SS0 KU1
  clear X0 K0 LB0
  have SS1 : Hid ((u1.setCell ⟨w5.heap.size + 1, 0, none⟩ (.slice l1 s.nA r1)).heap.size = u1.heap.size) := by show _ = _; simp
  have KE1 : Hid (Below (w5.heap.size + 1) (w5.alloc (.cells #[.slice p1 s.nA q1, .slice p2 s.nS q2, .slice p3 s.nV q3, .int .i64 (s.P 3), .int .i64 (s.P 4), .int .i64 (s.P 5), .int .i64 (s.P 6), .int .i64 (s.P 7), .int .i64 (s.P 8)] 33)) ((u1.setCell ⟨w5.heap.size + 1, 0, none⟩ (.slice l1 s.nA r1)).alloc (.cells #[] 40))) := K1.out.alloc (by have h1 := LB1.out; omega) _
  have HBE1 : Hid (Below w.heap.size w ((u1.setCell ⟨w5.heap.size + 1, 0, none⟩ (.slice l1 s.nA r1)).alloc (.cells #[] 40))) := HBV.out.trans (KE1.out.mono (Nat.le_of_lt LX.out))
  have e1 : ((u1.setCell ⟨w5.heap.size + 1, 0, none⟩ (.slice l1 s.nA r1)).alloc (.cells #[] 40)).cell? ⟨w.heap.size, 1, none⟩ = some (.slice (some ⟨bs, os, none⟩) s.nS c2) := (KE1.out.cell LX.out).trans AX.out.d1
  have hown : ((u1.setCell ⟨w5.heap.size + 1, 0, none⟩ (.slice l1 s.nA r1)).alloc (.cells #[] 40)).ownsRow (w5.heap.size + 2) 40 7 (.slice (some ⟨u1.heap.size, 0, none⟩) 0 0) 0 [] := by
      have h1 := World.ownsRow_made (base := w5.heap.size + 2) (e := 40) (size := 7) (u1.setCell ⟨w5.heap.size + 1, 0, none⟩ (.slice l1 s.nA r1)) #[] 0 LB1.out (Nat.zero_le _) rfl
      rw [SS1.out] at h1
      exact h1
  have hcn := rowS_cells (HI.out.rs.below HBE1.out (Nat.le_refl _))
  have hbase : Hid (w5.heap.size + 2 ≤ ((u1.setCell ⟨w5.heap.size + 1, 0, none⟩ (.slice l1 s.nA r1)).alloc (.cells #[] 40)).heap.size) := by have h1 := LB1.out; have h2 := ((Below.refl (u1.setCell ⟨w5.heap.size + 1, 0, none⟩ (.slice l1 s.nA r1)).heap.size (u1.setCell ⟨w5.heap.size + 1, 0, none⟩ (.slice l1 s.nA r1))).alloc (Nat.le_refl _) (.cells #[] 40)).size; exact Nat.le_trans h1 h2
  have hall := allS_one s.S s.nS
  go_wp2_with (at_builtin; refine wpList_append_own_at _ rfl _ _ 23 rfl (w5.heap.size + 2) 40 i1 (.agg #[.string ⟨#[]⟩, .int .i64 0, .int .i64 0, .int .i64 0, .int .i64 0, .int .i64 0, .int .i64 0]) 7 64 Tryz.underlying23 hi1 hz1 hs1 hb1 rfl (by decide) _ _ _ rfl hown ⟨bs, os, none⟩ s.nS c2 (allS s.S s.nS) rfl ?hl ?hnews ?hone ?h63 ?hbytes ?hbase ?_)
  case hl => exact allS_length _ _
  case hnews => exact hcn
  case hone => exact hall
  case h63 => unfold maxLen; omega
  case hbytes => omega
  case hbase => exact hbase.out
  intro v5 u2 hown5 hg5 _ hat5
  have own5 : u2.ownsRow (w5.heap.size + 2) 40 7 v5 s.nS (allS s.S s.nS) := by simpa using hown5
  clear hown5 hat5 hown hcn hall hbase e1
  obtain ⟨l2, r2, rfl⟩ := own_shape own5
  obtain ⟨gg, rfl⟩ := own_some own5 n2
  have BG : But (fun k => k = u1.heap.size) ((u1.setCell ⟨w5.heap.size + 1, 0, none⟩ (.slice l1 s.nA r1)).alloc (.cells #[] 40)) u2 := (But.of_grown hg5).mono (fun k _ e => (Option.some.inj e).symm)
  have LS : u1.heap.size = (u1.setCell ⟨w5.heap.size + 1, 0, none⟩ (.slice l1 s.nA r1)).heap.size := SS1.out.symm
  have QB2 : Hid (Box9 u2 (w5.heap.size + 1) (upd (setF (some ⟨ba, oa, none⟩) (some ⟨bs, os, none⟩) (some ⟨bv, ov, none⟩) c1 c2 c3 s) 0 (.slice l1 s.nA r1))) := (X1.out.still ((Below.refl _ _).alloc (Nat.le_refl _) _)).kept BG (by have h1 := LB1.out; omega)
  have KU2 : Hid (Below (w5.heap.size + 1) (w5.alloc (.cells #[.slice p1 s.nA q1, .slice p2 s.nS q2, .slice p3 s.nV q3, .int .i64 (s.P 3), .int .i64 (s.P 4), .int .i64 (s.P 5), .int .i64 (s.P 6), .int .i64 (s.P 7), .int .i64 (s.P 8)] 33)) u2) := KE1.out.trans (BG.below (Nat.le_trans (by have h1 := LB1.out; omega) (((Below.refl (u1.setCell ⟨w5.heap.size + 1, 0, none⟩ (.slice l1 s.nA r1)).heap.size (u1.setCell ⟨w5.heap.size + 1, 0, none⟩ (.slice l1 s.nA r1))).alloc (Nat.le_refl _) (.cells #[] 40)).size)) (fun k e => by have h1 := LB1.out; omega))
  have US : But (fun k => k = w5.heap.size + 1) u2 (u2.setCell ⟨w5.heap.size + 1, 1, none⟩ (.slice (some ⟨gg, 0, none⟩) s.nS r2)) := (But.refl _ _).setCell _ _ _ (fun _ => rfl)
  have O1_2 : Hid ((u2.setCell ⟨w5.heap.size + 1, 1, none⟩ (.slice (some ⟨gg, 0, none⟩) s.nS r2)).ownsRow (w5.heap.size + 2) 55 2 (.slice l1 s.nA r1) s.nA (allA s.A s.nA)) := own_kept (own_kept (own_below O1_1.out ((Below.refl _ _).alloc (Nat.le_refl _) _)) BG (fun g hg e => by have h1 := (O1_1.out.lt g hg).2; omega)) US (fun g hg e => by have h1 := (O1_1.out.lt g hg).1; omega)
  have O2_2 : Hid ((u2.setCell ⟨w5.heap.size + 1, 1, none⟩ (.slice (some ⟨gg, 0, none⟩) s.nS r2)).ownsRow (w5.heap.size + 2) 40 7 (.slice (some ⟨gg, 0, none⟩) s.nS r2) s.nS (allS s.S s.nS)) := own_kept own5 US (fun g hg e => by have h1 := (own5.lt g hg).1; omega)
  have LB2 : Hid (w5.heap.size + 2 ≤ (u2.setCell ⟨w5.heap.size + 1, 1, none⟩ (.slice (some ⟨gg, 0, none⟩) s.nS r2)).heap.size) := by have h1 := LB1.out; have h2 := BG.size; have h3 := ((Below.refl (u1.setCell ⟨w5.heap.size + 1, 0, none⟩ (.slice l1 s.nA r1)).heap.size (u1.setCell ⟨w5.heap.size + 1, 0, none⟩ (.slice l1 s.nA r1))).alloc (Nat.le_refl _) (.cells #[] 40)).size; have h4 := US.size; show _ ≤ _; omega
  have K2 : Hid (Below (w5.heap.size + 1) (w5.alloc (.cells #[.slice p1 s.nA q1, .slice p2 s.nS q2, .slice p3 s.nV q3, .int .i64 (s.P 3), .int .i64 (s.P 4), .int .i64 (s.P 5), .int .i64 (s.P 6), .int .i64 (s.P 7), .int .i64 (s.P 8)] 33)) (u2.setCell ⟨w5.heap.size + 1, 1, none⟩ (.slice (some ⟨gg, 0, none⟩) s.nS r2))) := KU2.out.trans (US.below (by have h1 := KU2.out.size; rw [VS.out] at h1; omega) (fun k e => by omega))
  have X2 : Hid (Box9 (u2.setCell ⟨w5.heap.size + 1, 1, none⟩ (.slice (some ⟨gg, 0, none⟩) s.nS r2)) (w5.heap.size + 1) (upd (upd (setF (some ⟨ba, oa, none⟩) (some ⟨bs, os, none⟩) (some ⟨bv, ov, none⟩) c1 c2 c3 s) 0 (.slice l1 s.nA r1)) 1 (.slice (some ⟨gg, 0, none⟩) s.nS r2))) := QB2.out.set (by omega) _
  clear x0' x1' x2' x3' x4' x5' x6' x7' x8' z
  have x0' : u2.cell? ⟨w5.heap.size + 1, 0, none⟩ = some (.slice l1 s.nA r1) := QB2.out.cell 0 (by omega)
  have x1' : u2.cell? ⟨w5.heap.size + 1, 1, none⟩ = some (.slice (some ⟨bs, os, none⟩) s.nS c2) := QB2.out.cell 1 (by omega)
  have x2' : u2.cell? ⟨w5.heap.size + 1, 2, none⟩ = some (.slice (some ⟨bv, ov, none⟩) s.nV c3) := QB2.out.cell 2 (by omega)
  have x3' : u2.cell? ⟨w5.heap.size + 1, 3, none⟩ = some (.int .i64 (s.P 3)) := QB2.out.cell 3 (by omega)
  have x4' : u2.cell? ⟨w5.heap.size + 1, 4, none⟩ = some (.int .i64 (s.P 4)) := QB2.out.cell 4 (by omega)
  have x5' : u2.cell? ⟨w5.heap.size + 1, 5, none⟩ = some (.int .i64 (s.P 5)) := QB2.out.cell 5 (by omega)
  have x6' : u2.cell? ⟨w5.heap.size + 1, 6, none⟩ = some (.int .i64 (s.P 6)) := QB2.out.cell 6 (by omega)
  have x7' : u2.cell? ⟨w5.heap.size + 1, 7, none⟩ = some (.int .i64 (s.P 7)) := QB2.out.cell 7 (by omega)
  have x8' : u2.cell? ⟨w5.heap.size + 1, 8, none⟩ = some (.int .i64 (s.P 8)) := QB2.out.cell 8 (by omega)
  have z : ∀ j, u2.frozen? ⟨w5.heap.size + 1, j, none⟩ = false := QB2.out.fz
  clear own5 hg5 BG US LS QB2 KE1 HBE1 SS1 KU2
  clear O1_1
  clear X1 K1 LB1
  have SS2 : Hid ((u2.setCell ⟨w5.heap.size + 1, 1, none⟩ (.slice (some ⟨gg, 0, none⟩) s.nS r2)).heap.size = u2.heap.size) := by show _ = _; simp
  have KE2 : Hid (Below (w5.heap.size + 1) (w5.alloc (.cells #[.slice p1 s.nA q1, .slice p2 s.nS q2, .slice p3 s.nV q3, .int .i64 (s.P 3), .int .i64 (s.P 4), .int .i64 (s.P 5), .int .i64 (s.P 6), .int .i64 (s.P 7), .int .i64 (s.P 8)] 33)) ((u2.setCell ⟨w5.heap.size + 1, 1, none⟩ (.slice (some ⟨gg, 0, none⟩) s.nS r2)).alloc (.cells #[] 57))) := K2.out.alloc (by have h1 := LB2.out; omega) _
  have HBE2 : Hid (Below w.heap.size w ((u2.setCell ⟨w5.heap.size + 1, 1, none⟩ (.slice (some ⟨gg, 0, none⟩) s.nS r2)).alloc (.cells #[] 57))) := HBV.out.trans (KE2.out.mono (Nat.le_of_lt LX.out))
  have e2 : ((u2.setCell ⟨w5.heap.size + 1, 1, none⟩ (.slice (some ⟨gg, 0, none⟩) s.nS r2)).alloc (.cells #[] 57)).cell? ⟨w.heap.size, 2, none⟩ = some (.slice (some ⟨bv, ov, none⟩) s.nV c3) := (KE2.out.cell LX.out).trans AX.out.d2
  have hown : ((u2.setCell ⟨w5.heap.size + 1, 1, none⟩ (.slice (some ⟨gg, 0, none⟩) s.nS r2)).alloc (.cells #[] 57)).ownsRow (w5.heap.size + 2) 57 5 (.slice (some ⟨u2.heap.size, 0, none⟩) 0 0) 0 [] := by
      have h1 := World.ownsRow_made (base := w5.heap.size + 2) (e := 57) (size := 5) (u2.setCell ⟨w5.heap.size + 1, 1, none⟩ (.slice (some ⟨gg, 0, none⟩) s.nS r2)) #[] 0 LB2.out (Nat.zero_le _) rfl
      rw [SS2.out] at h1
      exact h1
  have hcn := rowV_cells (HI.out.rv.below HBE2.out (Nat.le_refl _))
  have hbase : Hid (w5.heap.size + 2 ≤ ((u2.setCell ⟨w5.heap.size + 1, 1, none⟩ (.slice (some ⟨gg, 0, none⟩) s.nS r2)).alloc (.cells #[] 57)).heap.size) := by have h1 := LB2.out; have h2 := ((Below.refl (u2.setCell ⟨w5.heap.size + 1, 1, none⟩ (.slice (some ⟨gg, 0, none⟩) s.nS r2)).heap.size (u2.setCell ⟨w5.heap.size + 1, 1, none⟩ (.slice (some ⟨gg, 0, none⟩) s.nS r2))).alloc (Nat.le_refl _) (.cells #[] 57)).size; exact Nat.le_trans h1 h2
  have hall := allV_one s.V s.nV
  go_wp2_with (at_builtin; refine wpList_append_own_at _ rfl _ _ 24 rfl (w5.heap.size + 2) 57 i2 (.agg #[.string ⟨#[]⟩, .int .i64 0, .int .i64 0, .int .i64 0, .bool false]) 5 48 Tryz.underlying24 hi2 hz2 hs2 hb2 rfl (by decide) _ _ _ rfl hown ⟨bv, ov, none⟩ s.nV c3 (allV s.V s.nV) rfl ?hl ?hnews ?hone ?h63 ?hbytes ?hbase ?_)
  case hl => exact allV_length _ _
  case hnews => exact hcn
  case hone => exact hall
  case h63 => unfold maxLen; omega
  case hbytes => omega
  case hbase => exact hbase.out
  intro v5 u3 hown5 hg5 _ hat5
  have own5 : u3.ownsRow (w5.heap.size + 2) 57 5 v5 s.nV (allV s.V s.nV) := by simpa using hown5
  clear hown5 hat5 hown hcn hall hbase e2
  obtain ⟨l3, r3, rfl⟩ := own_shape own5
  have BG : But (fun k => k = u2.heap.size) ((u2.setCell ⟨w5.heap.size + 1, 1, none⟩ (.slice (some ⟨gg, 0, none⟩) s.nS r2)).alloc (.cells #[] 57)) u3 := (But.of_grown hg5).mono (fun k _ e => (Option.some.inj e).symm)
  have LS : u2.heap.size = (u2.setCell ⟨w5.heap.size + 1, 1, none⟩ (.slice (some ⟨gg, 0, none⟩) s.nS r2)).heap.size := SS2.out.symm
  have QB3 : Hid (Box9 u3 (w5.heap.size + 1) (upd (upd (setF (some ⟨ba, oa, none⟩) (some ⟨bs, os, none⟩) (some ⟨bv, ov, none⟩) c1 c2 c3 s) 0 (.slice l1 s.nA r1)) 1 (.slice (some ⟨gg, 0, none⟩) s.nS r2))) := (X2.out.still ((Below.refl _ _).alloc (Nat.le_refl _) _)).kept BG (by have h1 := LB2.out; omega)
  have KU3 : Hid (Below (w5.heap.size + 1) (w5.alloc (.cells #[.slice p1 s.nA q1, .slice p2 s.nS q2, .slice p3 s.nV q3, .int .i64 (s.P 3), .int .i64 (s.P 4), .int .i64 (s.P 5), .int .i64 (s.P 6), .int .i64 (s.P 7), .int .i64 (s.P 8)] 33)) u3) := KE2.out.trans (BG.below (Nat.le_trans (by have h1 := LB2.out; omega) (((Below.refl (u2.setCell ⟨w5.heap.size + 1, 1, none⟩ (.slice (some ⟨gg, 0, none⟩) s.nS r2)).heap.size (u2.setCell ⟨w5.heap.size + 1, 1, none⟩ (.slice (some ⟨gg, 0, none⟩) s.nS r2))).alloc (Nat.le_refl _) (.cells #[] 57)).size)) (fun k e => by have h1 := LB2.out; omega))
  have US : But (fun k => k = w5.heap.size + 1) u3 (u3.setCell ⟨w5.heap.size + 1, 2, none⟩ (.slice l3 s.nV r3)) := (But.refl _ _).setCell _ _ _ (fun _ => rfl)
  have O1_3 : Hid ((u3.setCell ⟨w5.heap.size + 1, 2, none⟩ (.slice l3 s.nV r3)).ownsRow (w5.heap.size + 2) 55 2 (.slice l1 s.nA r1) s.nA (allA s.A s.nA)) := own_kept (own_kept (own_below O1_2.out ((Below.refl _ _).alloc (Nat.le_refl _) _)) BG (fun g hg e => by have h1 := (O1_2.out.lt g hg).2; omega)) US (fun g hg e => by have h1 := (O1_2.out.lt g hg).1; omega)
  have O2_3 : Hid ((u3.setCell ⟨w5.heap.size + 1, 2, none⟩ (.slice l3 s.nV r3)).ownsRow (w5.heap.size + 2) 40 7 (.slice (some ⟨gg, 0, none⟩) s.nS r2) s.nS (allS s.S s.nS)) := own_kept (own_kept (own_below O2_2.out ((Below.refl _ _).alloc (Nat.le_refl _) _)) BG (fun g hg e => by have h1 := (O2_2.out.lt g hg).2; omega)) US (fun g hg e => by have h1 := (O2_2.out.lt g hg).1; omega)
  have O3_3 : Hid ((u3.setCell ⟨w5.heap.size + 1, 2, none⟩ (.slice l3 s.nV r3)).ownsRow (w5.heap.size + 2) 57 5 (.slice l3 s.nV r3) s.nV (allV s.V s.nV)) := own_kept own5 US (fun g hg e => by have h1 := (own5.lt g hg).1; omega)
  have LB3 : Hid (w5.heap.size + 2 ≤ (u3.setCell ⟨w5.heap.size + 1, 2, none⟩ (.slice l3 s.nV r3)).heap.size) := by have h1 := LB2.out; have h2 := BG.size; have h3 := ((Below.refl (u2.setCell ⟨w5.heap.size + 1, 1, none⟩ (.slice (some ⟨gg, 0, none⟩) s.nS r2)).heap.size (u2.setCell ⟨w5.heap.size + 1, 1, none⟩ (.slice (some ⟨gg, 0, none⟩) s.nS r2))).alloc (Nat.le_refl _) (.cells #[] 57)).size; have h4 := US.size; show _ ≤ _; omega
  have K3 : Hid (Below (w5.heap.size + 1) (w5.alloc (.cells #[.slice p1 s.nA q1, .slice p2 s.nS q2, .slice p3 s.nV q3, .int .i64 (s.P 3), .int .i64 (s.P 4), .int .i64 (s.P 5), .int .i64 (s.P 6), .int .i64 (s.P 7), .int .i64 (s.P 8)] 33)) (u3.setCell ⟨w5.heap.size + 1, 2, none⟩ (.slice l3 s.nV r3))) := KU3.out.trans (US.below (by have h1 := KU3.out.size; rw [VS.out] at h1; omega) (fun k e => by omega))
  have X3 : Hid (Box9 (u3.setCell ⟨w5.heap.size + 1, 2, none⟩ (.slice l3 s.nV r3)) (w5.heap.size + 1) (upd (upd (upd (setF (some ⟨ba, oa, none⟩) (some ⟨bs, os, none⟩) (some ⟨bv, ov, none⟩) c1 c2 c3 s) 0 (.slice l1 s.nA r1)) 1 (.slice (some ⟨gg, 0, none⟩) s.nS r2)) 2 (.slice l3 s.nV r3))) := QB3.out.set (by omega) _
  clear x0' x1' x2' x3' x4' x5' x6' x7' x8' z
  have x0' : u3.cell? ⟨w5.heap.size + 1, 0, none⟩ = some (.slice l1 s.nA r1) := QB3.out.cell 0 (by omega)
  have x1' : u3.cell? ⟨w5.heap.size + 1, 1, none⟩ = some (.slice (some ⟨gg, 0, none⟩) s.nS r2) := QB3.out.cell 1 (by omega)
  have x2' : u3.cell? ⟨w5.heap.size + 1, 2, none⟩ = some (.slice (some ⟨bv, ov, none⟩) s.nV c3) := QB3.out.cell 2 (by omega)
  have x3' : u3.cell? ⟨w5.heap.size + 1, 3, none⟩ = some (.int .i64 (s.P 3)) := QB3.out.cell 3 (by omega)
  have x4' : u3.cell? ⟨w5.heap.size + 1, 4, none⟩ = some (.int .i64 (s.P 4)) := QB3.out.cell 4 (by omega)
  have x5' : u3.cell? ⟨w5.heap.size + 1, 5, none⟩ = some (.int .i64 (s.P 5)) := QB3.out.cell 5 (by omega)
  have x6' : u3.cell? ⟨w5.heap.size + 1, 6, none⟩ = some (.int .i64 (s.P 6)) := QB3.out.cell 6 (by omega)
  have x7' : u3.cell? ⟨w5.heap.size + 1, 7, none⟩ = some (.int .i64 (s.P 7)) := QB3.out.cell 7 (by omega)
  have x8' : u3.cell? ⟨w5.heap.size + 1, 8, none⟩ = some (.int .i64 (s.P 8)) := QB3.out.cell 8 (by omega)
  have z : ∀ j, u3.frozen? ⟨w5.heap.size + 1, j, none⟩ = false := QB3.out.fz
  clear own5 hg5 BG US LS QB3 KE2 HBE2 SS2 KU3
  clear O1_2 O2_2
  clear X2 K2 LB2
  have SI : SetIn (u3.setCell ⟨w5.heap.size + 1, 2, none⟩ (.slice l3 s.nV r3)) l1 (some ⟨gg, 0, none⟩) l3 r1 r2 r3 s := ⟨rowA_of_own O1_3.out, rowS_of_own O2_3.out, rowV_of_own O3_3.out⟩
  have G5 := F5 SI
  have LG : Hid (gg < (u3.setCell ⟨w5.heap.size + 1, 2, none⟩ (.slice l3 s.nV r3)).heap.size ∧ w5.heap.size + 2 ≤ gg) := ⟨(O2_3.out.lt gg rfl).2, (O2_3.out.lt gg rfl).1⟩
  clear SI F5 O1_3 O3_3
  go_wp2_with fail
  refine G5.mono ?_
  rintro e w10 ⟨pp, f1, f2, f3, g1, g2, g3, j1, j2, j3, rfl, hR, b10⟩
  have KW : Hid (Below (w5.heap.size + 1) (w5.alloc (.cells #[.slice p1 s.nA q1, .slice p2 s.nS q2, .slice p3 s.nV q3, .int .i64 (s.P 3), .int .i64 (s.P 4), .int .i64 (s.P 5), .int .i64 (s.P 6), .int .i64 (s.P 7), .int .i64 (s.P 8)] 33)) w10) := K3.out.trans (b10.mono (by have h1 := LB3.out; omega))
  have c81 : w10.cell? ⟨w5.heap.size + 1, 1, none⟩ = some (.slice (some ⟨gg, 0, none⟩) s.nS r2) := (b10.cell (p := ⟨w5.heap.size + 1, 1, none⟩) (by have h1 := LB3.out; show w5.heap.size + 1 < _; omega)).trans (X3.out.cell 1 (by omega))
  have WI : Hid (Wip w10 w10 gg (s.nS * 7)) := wip_of_own (own_below O2_3.out b10)
  have HR0 : Hid (RulAt (u3.setCell ⟨w5.heap.size + 1, 2, none⟩ (.slice l3 s.nV r3)).heap.size w10 pp f1 f2 f3 g1 g2 g3 j1 j2 j3 s) := hR
  have LC : Hid ((u3.setCell ⟨w5.heap.size + 1, 2, none⟩ (.slice l3 s.nV r3)).heap.size ≤ w10.heap.size) := b10.size
  obtain ⟨CN, HCN⟩ : ∃ n, (u3.setCell ⟨w5.heap.size + 1, 2, none⟩ (.slice l3 s.nV r3)).heap.size = n := ⟨_, rfl⟩
  rw [HCN] at HR0 LG LB3 LC
  clear b10 hR G5 X3 K3 O2_3 HCN x0' x1' x2' x3' x4' x5' x6' x7' x8' z
  go_wp2_with fail
  go_loopw [67] (fun c wr => ∃ k : Nat, c = .int .i64 (k : Int) ∧ k ≤ s.nS ∧ Hid (Wip w10 wr gg (s.nS * 7))) (fun c _ => s.nS - (RowKit.intOf c).toNat)
  case atStart => exact ⟨0, rfl, Nat.zero_le _, WI⟩
  case round =>
    obtain ⟨k, rfl, hk, hW⟩ := hrel
    have c82 : wr.cell? ⟨w5.heap.size + 1, 1, none⟩ = some (.slice (some ⟨gg, 0, none⟩) s.nS r2) := (hW.out.but.cell (World.block_lt_of_cell? _ _ c81) (by have h1 := LG.out.2; show ¬ (w5.heap.size + 1 = gg); omega)).trans c81
    clear c81
    by_cases hlt : k < s.nS
    · have tk : (k : Int) < (s.nS : Int) := by omega
      obtain ⟨y0', s0⟩ := Option.isSome_iff_exists.1 (hW.out.sm (k * 7) (by omega))
      obtain ⟨y1', s1⟩ := Option.isSome_iff_exists.1 (hW.out.sm (k * 7 + 1) (by omega))
      obtain ⟨y2', s2⟩ := Option.isSome_iff_exists.1 (hW.out.sm (k * 7 + 1 + 1) (by omega))
      obtain ⟨y3', s3⟩ := Option.isSome_iff_exists.1 (hW.out.sm (k * 7 + 1 + 1 + 1) (by omega))
      obtain ⟨y4', s4⟩ := Option.isSome_iff_exists.1 (hW.out.sm (k * 7 + 1 + 1 + 1 + 1) (by omega))
      obtain ⟨y5', s5⟩ := Option.isSome_iff_exists.1 (hW.out.sm (k * 7 + 1 + 1 + 1 + 1 + 1) (by omega))
      obtain ⟨y6', s6⟩ := Option.isSome_iff_exists.1 (hW.out.sm (k * 7 + 1 + 1 + 1 + 1 + 1 + 1) (by omega))
      have z := hW.out.fz
      have HW2 : Hid (Wip w10 (wipe wr gg (k * 7)) gg (s.nS * 7)) := hW.out.wiped (k * 7)
      clear hW
      go_wp2_with fail
      go_roundw
      case rel => exact ⟨k + 1, by simp, by omega, HW2⟩
      case measure => simp [RowKit.intOf]; omega
    · have tk : ¬ (k : Int) < (s.nS : Int) := by omega
      have HR : RulAt CN wr pp f1 f2 f3 g1 g2 g3 j1 j2 j3 s := HR0.out.kept hW.out.but (fun i hi e => by have h1 := LG.out.1; omega)
      have KR : Hid (Below (w5.heap.size + 1) (w5.alloc (.cells #[.slice p1 s.nA q1, .slice p2 s.nS q2, .slice p3 s.nV q3, .int .i64 (s.P 3), .int .i64 (s.P 4), .int .i64 (s.P 5), .int .i64 (s.P 6), .int .i64 (s.P 7), .int .i64 (s.P 8)] 33)) wr) := KW.out.trans (hW.out.but.below (by have h1 := KW.out.size; rw [VS.out] at h1; omega) (fun i e => by have h1 := LG.out.2; omega))
      have GA := GF0 HR
      have GB := GF1 HR
      have GC := GF2 HR
      have HRR : Hid (RulAt CN wr pp f1 f2 f3 g1 g2 g3 j1 j2 j3 s) := HR
      have GD := band_in HR i hi TK
      clear HR hW c82 LC WI KW HR0 GF0 GF1 GF2
      have lo0 : Hid (True) := trivial
      go_wp2_with fail
      refine GA.mono ?_
      rintro e w' ⟨rfl, rfl⟩
      clear GA
      go_wp2_with fail
      refine GB.mono ?_
      rintro e w' ⟨rfl, rfl⟩
      clear GB
      go_wp2_with fail
      refine GC.mono ?_
      rintro e w' ⟨rfl, rfl⟩
      clear GC
      go_wp2_with fail
      refine GD.mono ?_
      rintro e w11 ⟨rfl, b11⟩
      have KR1 : Hid (Below (w5.heap.size + 1) (w5.alloc (.cells #[.slice p1 s.nA q1, .slice p2 s.nS q2, .slice p3 s.nV q3, .int .i64 (s.P 3), .int .i64 (s.P 4), .int .i64 (s.P 5), .int .i64 (s.P 6), .int .i64 (s.P 7), .int .i64 (s.P 8)] 33)) w11) := KR.out.trans (b11.mono (by have h1 := KR.out.size; rw [VS.out] at h1; omega))
      have HR1 : Hid (RulAt CN w11 pp f1 f2 f3 g1 g2 g3 j1 j2 j3 s) := HRR.out.still b11
      clear GD b11 KR HRR
      have e1 : w11.cell? ⟨w.heap.size, 1, none⟩ = some (.slice (some ⟨bs, os, none⟩) s.nS c2) := (KR1.out.cell LX.out).trans AX.out.d1
      obtain ⟨qa, qc, eq, qh1, qh2, qh3⟩ := HI.out.rs.below (HBV.out.trans (KR1.out.mono (Nat.le_of_lt LX.out))) (Nat.le_refl _)
      injection eq with eq1 _ eq2
      subst eq1 eq2
      unfold maxLen at qh2
      obtain ⟨sb, so, eqs, y0, y1, y2, y3, y4, y5, y6⟩ := qh3 i hi
      injection eqs with eqs
      injection eqs with eqs1 eqs2
      subst eqs1 eqs2
      clear qh3
      have ti : (i : Int) < (s.nS : Int) := by omega
      have F2B := fun w => band2_any ((s.S i).2.1 3) ((s.S i).2.1 4) ((s.S i).2.1 2) w TK
      obtain ⟨xx, HXX'⟩ : ∃ x, s.S i = x := ⟨_, rfl⟩
      rw [HXX'] at y0 y1 y2 y3 y4 y5 y6 F2B ⊢
      clear HXX' TK
      obtain ⟨xn, xz, xm⟩ := xx
      dsimp only at *
      generalize baL (xz 3) (xz 4) (xz 2) = blo at *
      generalize baH (xz 3) (xz 4) (xz 2) = bhi at *
      generalize baE (xz 3) (xz 4) (xz 2) = ber at *
      clear y0 y1 y5 y6
      go_wp2_with fail
      go_region_held3 (fun w' => w'.cell? ⟨w.heap.size, 1, none⟩ = some (.slice (some ⟨bs, os, none⟩) s.nS c2) ∧ w'.cell? ⟨bs, os + i * 7 + 1 + 1, none⟩ = some (.int .i64 (xz 2)) ∧ w'.cell? ⟨bs, os + i * 7 + 1 + 1 + 1, none⟩ = some (.int .i64 (xz 3)) ∧ w'.cell? ⟨bs, os + i * 7 + 1 + 1 + 1 + 1, none⟩ = some (.int .i64 (xz 4))) (go_keep) ((go_at_call 13; refine (F2B _).mono ?_; rintro e w12 ⟨rfl, b12⟩; have D12 := (Below.refl w11.heap.size w11).drew.trans b12; have g1' := (D12.cell (World.block_lt_of_cell? _ _ e1)).trans e1; have g2' := (D12.cell (World.block_lt_of_cell? _ _ y2)).trans y2; have g3' := (D12.cell (World.block_lt_of_cell? _ _ y3)).trans y3; have g4' := (D12.cell (World.block_lt_of_cell? _ _ y4)).trans y4))
      have KR2 : Hid (Below (w5.heap.size + 1) (w5.alloc (.cells #[.slice p1 s.nA q1, .slice p2 s.nS q2, .slice p3 s.nV q3, .int .i64 (s.P 3), .int .i64 (s.P 4), .int .i64 (s.P 5), .int .i64 (s.P 6), .int .i64 (s.P 7), .int .i64 (s.P 8)] 33)) w12) := KR1.out.trans (D12.mono (by have h1 := KR1.out.size; rw [VS.out] at h1; omega))
      have HR2 : Hid (RulAt CN w12 pp f1 f2 f3 g1 g2 g3 j1 j2 j3 s) := HR1.out.still D12
      clear D12 b12 KR1 HR1 y2 y3 y4 e1 g1' g2' g3' g4' F2B
      have GS := setup_told HR2.out CT.out
      clear HR2
      go_wp2_with fail
      refine GS.mono ?_
      rintro e w13 ⟨n1', n2', n3', o1', o2', o3', rfl, so, b13⟩
      have PT := plain_any so.into (by omega) (by omega) (by omega)
      have KR3 : Hid (Below (w5.heap.size + 1) (w5.alloc (.cells #[.slice p1 s.nA q1, .slice p2 s.nS q2, .slice p3 s.nV q3, .int .i64 (s.P 3), .int .i64 (s.P 4), .int .i64 (s.P 5), .int .i64 (s.P 6), .int .i64 (s.P 7), .int .i64 (s.P 8)] 33)) w13) := KR2.out.trans (b13.mono (by have h1 := KR2.out.size; rw [VS.out] at h1; omega))
      clear GS b13 so KR2
      go_wp2_with fail
      refine PT.mono ?_
      rintro e w14 ⟨u1', u2', u3', v1', v2', v3', rfl, hT, b14⟩
      have KR4 : Hid (Below (w5.heap.size + 1) (w5.alloc (.cells #[.slice p1 s.nA q1, .slice p2 s.nS q2, .slice p3 s.nV q3, .int .i64 (s.P 3), .int .i64 (s.P 4), .int .i64 (s.P 5), .int .i64 (s.P 6), .int .i64 (s.P 7), .int .i64 (s.P 8)] 33)) w14) := KR3.out.trans (b14.mono (by have h1 := KR3.out.size; rw [VS.out] at h1; omega))
      clear PT b14 KR3
      obtain ⟨ua, uc, eu, _, _, uh3⟩ := id hT.rs
      injection eu with eu1 _ eu2
      subst eu1 eu2
      obtain ⟨tb, tq, rfl, tx0, tx1, tx2, tx3, tx4, tx5, tx6⟩ := uh3 0 (by omega)
      clear uh3
      obtain ⟨T, HT'⟩ : ∃ T, T = (w14.alloc (.cells #[.slice u1' s.nA v1', .slice (some ⟨tb, tq, none⟩) s.nS v2', .slice u3' s.nV v3', .int .i64 (s.P 3), .int .i64 (s.P 4), .int .i64 (s.P 5), .int .i64 (s.P 6), .int .i64 (s.P 7), .int .i64 (s.P 8)] 33)) := ⟨_, rfl⟩
      have BT : Hid (Below w14.heap.size w14 T) := by show Below _ _ _; rw [HT']; exact (Below.refl _ _).alloc (Nat.le_refl _) _
      have ST : Hid (SetAt T w14.heap.size u1' (some ⟨tb, tq, none⟩) u3' v1' v2' v3' s) := by show SetAt _ _ _ _ _ _ _ _ _; rw [HT']; exact SetAt.box w14 u1' (some ⟨tb, tq, none⟩) u3' v1' v2' v3' s _
      have HT : Hid (SetIn T u1' (some ⟨tb, tq, none⟩) u3' v1' v2' v3' s) := hT.below BT.out (Nat.le_refl _)
      have KT : Hid (Below (w5.heap.size + 1) (w5.alloc (.cells #[.slice p1 s.nA q1, .slice p2 s.nS q2, .slice p3 s.nV q3, .int .i64 (s.P 3), .int .i64 (s.P 4), .int .i64 (s.P 5), .int .i64 (s.P 6), .int .i64 (s.P 7), .int .i64 (s.P 8)] 33)) T) := KR4.out.trans (BT.out.mono (by have h1 := KR4.out.size; rw [VS.out] at h1; omega))
      have S7 : Hid (SetAt T w5.heap.size p1 p2 p3 q1 q2 q3 s) := B7.out.still KT.out (by omega)
      have HP : Hid (SetIn T p1 p2 p3 q1 q2 q3 s) := (HP5.out.below ((Below.refl _ _).alloc (Nat.le_refl _) _) (Nat.le_refl _)).below KT.out (by rw [VS.out]; omega)
      have q2c := HP.out.rs
      obtain ⟨ya, yc, ey, _, _, yh3⟩ := q2c
      injection ey with ey1 _ ey2
      subst ey1 ey2
      obtain ⟨wb, wo, rfl, wx0, wx1, wx2, wx3, wx4, wx5, wx6⟩ := yh3 0 (by omega)
      clear yh3
      simp only [Nat.zero_mul, Nat.add_zero] at wx0 wx1 wx2 wx3 wx4 wx5 wx6 tx0 tx1 tx2 tx3 tx4 tx5 tx6
      have tt0 := (BT.out.cell (World.block_lt_of_cell? _ _ tx0)).trans tx0
      have tt1 := (BT.out.cell (World.block_lt_of_cell? _ _ tx1)).trans tx1
      have tt2 := (BT.out.cell (World.block_lt_of_cell? _ _ tx2)).trans tx2
      have tt3 := (BT.out.cell (World.block_lt_of_cell? _ _ tx3)).trans tx3
      have tt4 := (BT.out.cell (World.block_lt_of_cell? _ _ tx4)).trans tx4
      have tt5 := (BT.out.cell (World.block_lt_of_cell? _ _ tx5)).trans tx5
      have tt6 := (BT.out.cell (World.block_lt_of_cell? _ _ tx6)).trans tx6
      clear tx0 tx1 tx2 tx3 tx4 tx5 tx6
      obtain ⟨sx, HSX'⟩ : ∃ x, s.S 0 = x := ⟨_, rfl⟩
      have HSX : Hid (s.S 0 = sx) := HSX'
      rw [HSX'] at wx0 wx1 wx2 wx3 wx4 wx5 wx6 tt0 tt1 tt2 tt3 tt4 tt5 tt6
      clear HSX'
      have EQ := fun w => symbol_eq sx w
      have IZ1 := fun w => index_zero tb tq s.nS v2' n2 w
      have IZ2 := fun w => index_zero wb wo s.nS q2 n2 w
      have h0n : 0 < s.nS := n2
      obtain ⟨aa0', aa1', aa2', aa3', aa4', aa5', aa6', aa7', aa8'⟩ := S7.out
      obtain ⟨b0', b1', b2', b3', b4', b5', b6', b7', b8'⟩ := ST.out
      have NA0 : ∀ W, Below T.heap.size T W → Calls Tryz.prog 16 #[.agg #[.slice p1 s.nA q1, .slice (some ⟨wb, wo, none⟩) s.nS q2, .slice p3 s.nV q3, .int .i64 (s.P 3), .int .i64 (s.P 4), .int .i64 (s.P 5), .int .i64 (s.P 6), .int .i64 (s.P 7), .int .i64 (s.P 8)]] W fun e w' => ∃ v, e = .returned v ∧ Row w' v s.nA (fun i => .string (s.A i).1) ∧ Below W.heap.size W w' := fun W hW => namesA_any (HP.out.below hW (Nat.le_refl _)) (by omega)
      have NA1 : ∀ W, Below T.heap.size T W → Calls Tryz.prog 17 #[.agg #[.slice p1 s.nA q1, .slice (some ⟨wb, wo, none⟩) s.nS q2, .slice p3 s.nV q3, .int .i64 (s.P 3), .int .i64 (s.P 4), .int .i64 (s.P 5), .int .i64 (s.P 6), .int .i64 (s.P 7), .int .i64 (s.P 8)]] W fun e w' => ∃ v, e = .returned v ∧ Row w' v s.nS (fun i => .string (s.S i).1) ∧ Below W.heap.size W w' := fun W hW => namesS_any (HP.out.below hW (Nat.le_refl _)) (by omega)
      have NA2 : ∀ W, Below T.heap.size T W → Calls Tryz.prog 18 #[.agg #[.slice p1 s.nA q1, .slice (some ⟨wb, wo, none⟩) s.nS q2, .slice p3 s.nV q3, .int .i64 (s.P 3), .int .i64 (s.P 4), .int .i64 (s.P 5), .int .i64 (s.P 6), .int .i64 (s.P 7), .int .i64 (s.P 8)]] W fun e w' => ∃ v, e = .returned v ∧ Row w' v s.nV (fun i => .string (s.V i).1) ∧ Below W.heap.size W w' := fun W hW => namesV_any (HP.out.below hW (Nat.le_refl _)) (by omega)
      have NR : ∀ W, Below T.heap.size T W → Calls Tryz.prog 7 #[.agg #[.slice u1' s.nA v1', .slice (some ⟨tb, tq, none⟩) s.nS v2', .slice u3' s.nV v3', .int .i64 (s.P 3), .int .i64 (s.P 4), .int .i64 (s.P 5), .int .i64 (s.P 6), .int .i64 (s.P 7), .int .i64 (s.P 8)]] W fun e w' => e = .returned (.bool true) ∧ Below W.heap.size W w' := fun W hW => F4 (HT.out.below hW (Nat.le_refl _))
      have HBT : Hid (Below w.heap.size w T) := HBV.out.trans (KT.out.mono (Nat.le_of_lt LX.out))
      clear F3 F4 KR4 BT S7 ST B7 AX HP5 HI A5 HB5 VS KT hT
      go_wp2_with fail
      rw [← HT']
      clear HT'
      go_region_held3 (fun w' => w'.cell? ⟨w5.heap.size, 0, none⟩ = some (.slice p1 s.nA q1) ∧ w'.cell? ⟨w5.heap.size, 1, none⟩ = some (.slice (some ⟨wb, wo, none⟩) s.nS q2) ∧ w'.cell? ⟨w5.heap.size, 2, none⟩ = some (.slice p3 s.nV q3) ∧ w'.cell? ⟨w5.heap.size, 3, none⟩ = some (.int .i64 (s.P 3)) ∧ w'.cell? ⟨w5.heap.size, 4, none⟩ = some (.int .i64 (s.P 4)) ∧ w'.cell? ⟨w5.heap.size, 5, none⟩ = some (.int .i64 (s.P 5)) ∧ w'.cell? ⟨w5.heap.size, 6, none⟩ = some (.int .i64 (s.P 6)) ∧ w'.cell? ⟨w5.heap.size, 7, none⟩ = some (.int .i64 (s.P 7)) ∧ w'.cell? ⟨w5.heap.size, 8, none⟩ = some (.int .i64 (s.P 8)) ∧ w'.cell? ⟨w14.heap.size, 0, none⟩ = some (.slice u1' s.nA v1') ∧ w'.cell? ⟨w14.heap.size, 1, none⟩ = some (.slice (some ⟨tb, tq, none⟩) s.nS v2') ∧ w'.cell? ⟨w14.heap.size, 2, none⟩ = some (.slice u3' s.nV v3') ∧ w'.cell? ⟨w14.heap.size, 3, none⟩ = some (.int .i64 (s.P 3)) ∧ w'.cell? ⟨w14.heap.size, 4, none⟩ = some (.int .i64 (s.P 4)) ∧ w'.cell? ⟨w14.heap.size, 5, none⟩ = some (.int .i64 (s.P 5)) ∧ w'.cell? ⟨w14.heap.size, 6, none⟩ = some (.int .i64 (s.P 6)) ∧ w'.cell? ⟨w14.heap.size, 7, none⟩ = some (.int .i64 (s.P 7)) ∧ w'.cell? ⟨w14.heap.size, 8, none⟩ = some (.int .i64 (s.P 8)) ∧ w'.cell? ⟨wb, wo, none⟩ = some (.string sx.1) ∧ w'.cell? ⟨wb, wo + 1, none⟩ = some (.int .i64 (sx.2.1 1)) ∧ w'.cell? ⟨wb, wo + 1 + 1, none⟩ = some (.int .i64 (sx.2.1 2)) ∧ w'.cell? ⟨wb, wo + 1 + 1 + 1, none⟩ = some (.int .i64 (sx.2.1 3)) ∧ w'.cell? ⟨wb, wo + 1 + 1 + 1 + 1, none⟩ = some (.int .i64 (sx.2.1 4)) ∧ w'.cell? ⟨wb, wo + 1 + 1 + 1 + 1 + 1, none⟩ = some (.int .i64 (sx.2.1 5)) ∧ w'.cell? ⟨wb, wo + 1 + 1 + 1 + 1 + 1 + 1, none⟩ = some (.int .i64 (sx.2.1 6)) ∧ w'.cell? ⟨tb, tq, none⟩ = some (.string sx.1) ∧ w'.cell? ⟨tb, tq + 1, none⟩ = some (.int .i64 (sx.2.1 1)) ∧ w'.cell? ⟨tb, tq + 1 + 1, none⟩ = some (.int .i64 (sx.2.1 2)) ∧ w'.cell? ⟨tb, tq + 1 + 1 + 1, none⟩ = some (.int .i64 (sx.2.1 3)) ∧ w'.cell? ⟨tb, tq + 1 + 1 + 1 + 1, none⟩ = some (.int .i64 (sx.2.1 4)) ∧ w'.cell? ⟨tb, tq + 1 + 1 + 1 + 1 + 1, none⟩ = some (.int .i64 (sx.2.1 5)) ∧ w'.cell? ⟨tb, tq + 1 + 1 + 1 + 1 + 1 + 1, none⟩ = some (.int .i64 (sx.2.1 6))) (go_keep) (first
            | (go_at_call 16; refine (NA0 _ (below_more (Below.refl T.heap.size T) 1)).mono ?_; rintro e x1 ⟨vv1, rfl, ro1, bb1⟩; have DD1 : Below T.heap.size T x1 := ((Below.refl _ T).drew.trans bb1); have c1_0 := (DD1.cell (World.block_lt_of_cell? _ _ aa0')).trans aa0'; have c1_1 := (DD1.cell (World.block_lt_of_cell? _ _ aa1')).trans aa1'; have c1_2 := (DD1.cell (World.block_lt_of_cell? _ _ aa2')).trans aa2'; have c1_3 := (DD1.cell (World.block_lt_of_cell? _ _ aa3')).trans aa3'; have c1_4 := (DD1.cell (World.block_lt_of_cell? _ _ aa4')).trans aa4'; have c1_5 := (DD1.cell (World.block_lt_of_cell? _ _ aa5')).trans aa5'; have c1_6 := (DD1.cell (World.block_lt_of_cell? _ _ aa6')).trans aa6'; have c1_7 := (DD1.cell (World.block_lt_of_cell? _ _ aa7')).trans aa7'; have c1_8 := (DD1.cell (World.block_lt_of_cell? _ _ aa8')).trans aa8'; have c1_9 := (DD1.cell (World.block_lt_of_cell? _ _ b0')).trans b0'; have c1_10 := (DD1.cell (World.block_lt_of_cell? _ _ b1')).trans b1'; have c1_11 := (DD1.cell (World.block_lt_of_cell? _ _ b2')).trans b2'; have c1_12 := (DD1.cell (World.block_lt_of_cell? _ _ b3')).trans b3'; have c1_13 := (DD1.cell (World.block_lt_of_cell? _ _ b4')).trans b4'; have c1_14 := (DD1.cell (World.block_lt_of_cell? _ _ b5')).trans b5'; have c1_15 := (DD1.cell (World.block_lt_of_cell? _ _ b6')).trans b6'; have c1_16 := (DD1.cell (World.block_lt_of_cell? _ _ b7')).trans b7'; have c1_17 := (DD1.cell (World.block_lt_of_cell? _ _ b8')).trans b8'; have c1_18 := (DD1.cell (World.block_lt_of_cell? _ _ wx0)).trans wx0; have c1_19 := (DD1.cell (World.block_lt_of_cell? _ _ wx1)).trans wx1; have c1_20 := (DD1.cell (World.block_lt_of_cell? _ _ wx2)).trans wx2; have c1_21 := (DD1.cell (World.block_lt_of_cell? _ _ wx3)).trans wx3; have c1_22 := (DD1.cell (World.block_lt_of_cell? _ _ wx4)).trans wx4; have c1_23 := (DD1.cell (World.block_lt_of_cell? _ _ wx5)).trans wx5; have c1_24 := (DD1.cell (World.block_lt_of_cell? _ _ wx6)).trans wx6; have c1_25 := (DD1.cell (World.block_lt_of_cell? _ _ tt0)).trans tt0; have c1_26 := (DD1.cell (World.block_lt_of_cell? _ _ tt1)).trans tt1; have c1_27 := (DD1.cell (World.block_lt_of_cell? _ _ tt2)).trans tt2; have c1_28 := (DD1.cell (World.block_lt_of_cell? _ _ tt3)).trans tt3; have c1_29 := (DD1.cell (World.block_lt_of_cell? _ _ tt4)).trans tt4; have c1_30 := (DD1.cell (World.block_lt_of_cell? _ _ tt5)).trans tt5; have c1_31 := (DD1.cell (World.block_lt_of_cell? _ _ tt6)).trans tt6; have FR0 := FN0 x1 vv1 ro1; obtain ⟨_, _, rfl, _⟩ := ro1; clear bb1)
            | (go_at_call_of 15 (Value.int IntKind.i64 z0); refine FR0.mono ?_; rintro e y0' ⟨rfl, rfl⟩)
            | (go_at_call 17; refine (NA1 _ (DD1)).mono ?_; rintro e x3 ⟨vv3, rfl, ro3, bb3⟩; have DD3 : Below T.heap.size T x3 := (DD1.trans (bb3.mono DD1.size)); have c3_0 := (DD3.cell (World.block_lt_of_cell? _ _ aa0')).trans aa0'; have c3_1 := (DD3.cell (World.block_lt_of_cell? _ _ aa1')).trans aa1'; have c3_2 := (DD3.cell (World.block_lt_of_cell? _ _ aa2')).trans aa2'; have c3_3 := (DD3.cell (World.block_lt_of_cell? _ _ aa3')).trans aa3'; have c3_4 := (DD3.cell (World.block_lt_of_cell? _ _ aa4')).trans aa4'; have c3_5 := (DD3.cell (World.block_lt_of_cell? _ _ aa5')).trans aa5'; have c3_6 := (DD3.cell (World.block_lt_of_cell? _ _ aa6')).trans aa6'; have c3_7 := (DD3.cell (World.block_lt_of_cell? _ _ aa7')).trans aa7'; have c3_8 := (DD3.cell (World.block_lt_of_cell? _ _ aa8')).trans aa8'; have c3_9 := (DD3.cell (World.block_lt_of_cell? _ _ b0')).trans b0'; have c3_10 := (DD3.cell (World.block_lt_of_cell? _ _ b1')).trans b1'; have c3_11 := (DD3.cell (World.block_lt_of_cell? _ _ b2')).trans b2'; have c3_12 := (DD3.cell (World.block_lt_of_cell? _ _ b3')).trans b3'; have c3_13 := (DD3.cell (World.block_lt_of_cell? _ _ b4')).trans b4'; have c3_14 := (DD3.cell (World.block_lt_of_cell? _ _ b5')).trans b5'; have c3_15 := (DD3.cell (World.block_lt_of_cell? _ _ b6')).trans b6'; have c3_16 := (DD3.cell (World.block_lt_of_cell? _ _ b7')).trans b7'; have c3_17 := (DD3.cell (World.block_lt_of_cell? _ _ b8')).trans b8'; have c3_18 := (DD3.cell (World.block_lt_of_cell? _ _ wx0)).trans wx0; have c3_19 := (DD3.cell (World.block_lt_of_cell? _ _ wx1)).trans wx1; have c3_20 := (DD3.cell (World.block_lt_of_cell? _ _ wx2)).trans wx2; have c3_21 := (DD3.cell (World.block_lt_of_cell? _ _ wx3)).trans wx3; have c3_22 := (DD3.cell (World.block_lt_of_cell? _ _ wx4)).trans wx4; have c3_23 := (DD3.cell (World.block_lt_of_cell? _ _ wx5)).trans wx5; have c3_24 := (DD3.cell (World.block_lt_of_cell? _ _ wx6)).trans wx6; have c3_25 := (DD3.cell (World.block_lt_of_cell? _ _ tt0)).trans tt0; have c3_26 := (DD3.cell (World.block_lt_of_cell? _ _ tt1)).trans tt1; have c3_27 := (DD3.cell (World.block_lt_of_cell? _ _ tt2)).trans tt2; have c3_28 := (DD3.cell (World.block_lt_of_cell? _ _ tt3)).trans tt3; have c3_29 := (DD3.cell (World.block_lt_of_cell? _ _ tt4)).trans tt4; have c3_30 := (DD3.cell (World.block_lt_of_cell? _ _ tt5)).trans tt5; have c3_31 := (DD3.cell (World.block_lt_of_cell? _ _ tt6)).trans tt6; have FR1 := FN1 x3 vv3 ro3; obtain ⟨_, _, rfl, _⟩ := ro3; clear bb3)
            | (go_at_call_of 15 (Value.int IntKind.i64 z1); refine FR1.mono ?_; rintro e y1' ⟨rfl, rfl⟩)
            | (go_at_call 18; refine (NA2 _ (DD3)).mono ?_; rintro e x5 ⟨vv5, rfl, ro5, bb5⟩; have DD5 : Below T.heap.size T x5 := (DD3.trans (bb5.mono DD3.size)); have c5_0 := (DD5.cell (World.block_lt_of_cell? _ _ aa0')).trans aa0'; have c5_1 := (DD5.cell (World.block_lt_of_cell? _ _ aa1')).trans aa1'; have c5_2 := (DD5.cell (World.block_lt_of_cell? _ _ aa2')).trans aa2'; have c5_3 := (DD5.cell (World.block_lt_of_cell? _ _ aa3')).trans aa3'; have c5_4 := (DD5.cell (World.block_lt_of_cell? _ _ aa4')).trans aa4'; have c5_5 := (DD5.cell (World.block_lt_of_cell? _ _ aa5')).trans aa5'; have c5_6 := (DD5.cell (World.block_lt_of_cell? _ _ aa6')).trans aa6'; have c5_7 := (DD5.cell (World.block_lt_of_cell? _ _ aa7')).trans aa7'; have c5_8 := (DD5.cell (World.block_lt_of_cell? _ _ aa8')).trans aa8'; have c5_9 := (DD5.cell (World.block_lt_of_cell? _ _ b0')).trans b0'; have c5_10 := (DD5.cell (World.block_lt_of_cell? _ _ b1')).trans b1'; have c5_11 := (DD5.cell (World.block_lt_of_cell? _ _ b2')).trans b2'; have c5_12 := (DD5.cell (World.block_lt_of_cell? _ _ b3')).trans b3'; have c5_13 := (DD5.cell (World.block_lt_of_cell? _ _ b4')).trans b4'; have c5_14 := (DD5.cell (World.block_lt_of_cell? _ _ b5')).trans b5'; have c5_15 := (DD5.cell (World.block_lt_of_cell? _ _ b6')).trans b6'; have c5_16 := (DD5.cell (World.block_lt_of_cell? _ _ b7')).trans b7'; have c5_17 := (DD5.cell (World.block_lt_of_cell? _ _ b8')).trans b8'; have c5_18 := (DD5.cell (World.block_lt_of_cell? _ _ wx0)).trans wx0; have c5_19 := (DD5.cell (World.block_lt_of_cell? _ _ wx1)).trans wx1; have c5_20 := (DD5.cell (World.block_lt_of_cell? _ _ wx2)).trans wx2; have c5_21 := (DD5.cell (World.block_lt_of_cell? _ _ wx3)).trans wx3; have c5_22 := (DD5.cell (World.block_lt_of_cell? _ _ wx4)).trans wx4; have c5_23 := (DD5.cell (World.block_lt_of_cell? _ _ wx5)).trans wx5; have c5_24 := (DD5.cell (World.block_lt_of_cell? _ _ wx6)).trans wx6; have c5_25 := (DD5.cell (World.block_lt_of_cell? _ _ tt0)).trans tt0; have c5_26 := (DD5.cell (World.block_lt_of_cell? _ _ tt1)).trans tt1; have c5_27 := (DD5.cell (World.block_lt_of_cell? _ _ tt2)).trans tt2; have c5_28 := (DD5.cell (World.block_lt_of_cell? _ _ tt3)).trans tt3; have c5_29 := (DD5.cell (World.block_lt_of_cell? _ _ tt4)).trans tt4; have c5_30 := (DD5.cell (World.block_lt_of_cell? _ _ tt5)).trans tt5; have c5_31 := (DD5.cell (World.block_lt_of_cell? _ _ tt6)).trans tt6; have FR2 := FN2 x5 vv5 ro5; obtain ⟨_, _, rfl, _⟩ := ro5; clear bb5)
            | (go_at_call_of 15 (Value.int IntKind.i64 z2); refine FR2.mono ?_; rintro e y2' ⟨rfl, rfl⟩)
            | (go_at_call 7; refine (NR _ DD5).mono ?_; rintro e x7 ⟨rfl, bb7⟩; have DD7 : Below T.heap.size T x7 := DD5.trans (bb7.mono DD5.size); have c7_0 := (DD7.cell (World.block_lt_of_cell? _ _ aa0')).trans aa0'; have c7_1 := (DD7.cell (World.block_lt_of_cell? _ _ aa1')).trans aa1'; have c7_2 := (DD7.cell (World.block_lt_of_cell? _ _ aa2')).trans aa2'; have c7_3 := (DD7.cell (World.block_lt_of_cell? _ _ aa3')).trans aa3'; have c7_4 := (DD7.cell (World.block_lt_of_cell? _ _ aa4')).trans aa4'; have c7_5 := (DD7.cell (World.block_lt_of_cell? _ _ aa5')).trans aa5'; have c7_6 := (DD7.cell (World.block_lt_of_cell? _ _ aa6')).trans aa6'; have c7_7 := (DD7.cell (World.block_lt_of_cell? _ _ aa7')).trans aa7'; have c7_8 := (DD7.cell (World.block_lt_of_cell? _ _ aa8')).trans aa8'; have c7_9 := (DD7.cell (World.block_lt_of_cell? _ _ b0')).trans b0'; have c7_10 := (DD7.cell (World.block_lt_of_cell? _ _ b1')).trans b1'; have c7_11 := (DD7.cell (World.block_lt_of_cell? _ _ b2')).trans b2'; have c7_12 := (DD7.cell (World.block_lt_of_cell? _ _ b3')).trans b3'; have c7_13 := (DD7.cell (World.block_lt_of_cell? _ _ b4')).trans b4'; have c7_14 := (DD7.cell (World.block_lt_of_cell? _ _ b5')).trans b5'; have c7_15 := (DD7.cell (World.block_lt_of_cell? _ _ b6')).trans b6'; have c7_16 := (DD7.cell (World.block_lt_of_cell? _ _ b7')).trans b7'; have c7_17 := (DD7.cell (World.block_lt_of_cell? _ _ b8')).trans b8'; have c7_18 := (DD7.cell (World.block_lt_of_cell? _ _ wx0)).trans wx0; have c7_19 := (DD7.cell (World.block_lt_of_cell? _ _ wx1)).trans wx1; have c7_20 := (DD7.cell (World.block_lt_of_cell? _ _ wx2)).trans wx2; have c7_21 := (DD7.cell (World.block_lt_of_cell? _ _ wx3)).trans wx3; have c7_22 := (DD7.cell (World.block_lt_of_cell? _ _ wx4)).trans wx4; have c7_23 := (DD7.cell (World.block_lt_of_cell? _ _ wx5)).trans wx5; have c7_24 := (DD7.cell (World.block_lt_of_cell? _ _ wx6)).trans wx6; have c7_25 := (DD7.cell (World.block_lt_of_cell? _ _ tt0)).trans tt0; have c7_26 := (DD7.cell (World.block_lt_of_cell? _ _ tt1)).trans tt1; have c7_27 := (DD7.cell (World.block_lt_of_cell? _ _ tt2)).trans tt2; have c7_28 := (DD7.cell (World.block_lt_of_cell? _ _ tt3)).trans tt3; have c7_29 := (DD7.cell (World.block_lt_of_cell? _ _ tt4)).trans tt4; have c7_30 := (DD7.cell (World.block_lt_of_cell? _ _ tt5)).trans tt5; have c7_31 := (DD7.cell (World.block_lt_of_cell? _ _ tt6)).trans tt6; clear bb7))
      all_goals
      go_wp2_with fail
      go_ret
      exact ⟨by first | rfl | simp, HBT.out.trans (DD7.mono HBT.out.size)⟩
end Go.Proofs.YtfphjhmhiaepiaaGreat
