/-
  The short ways of RulesFinds: a setup that is too great, a name that is too long, a setup that is not right.
-/
import Derived.Test.YtfphjhmhiaepiaaGreatKL
import Derived.Test.YtfphjhmhiaepiaaGreatKO
import Derived.Test.YtfphjhmhiaepiaaGreatKN
namespace Go.Proofs.YtfphjhmhiaepiaaGreat
open Go.ChangeShapes Go.WideShapes Go.ChangeAt Go.RowKit Go.Lib RU SM

set_option maxRecDepth 100000 in
set_option maxHeartbeats 16000000 in
theorem finds_great (w : World) (a1 a2 a3 : Option Addr) (c1 c2 c3 : Nat) (s : Stp) (h : SetIn w a1 a2 a3 c1 c2 c3 s) (t : ByteArray) (d : Int) (hf : fewB s = false) :
    Calls Tryz.prog 3 #[.agg #[.slice a1 s.nA c1, .slice a2 s.nS c2, .slice a3 s.nV c3, .int .i64 (s.P 3), .int .i64 (s.P 4), .int .i64 (s.P 5), .int .i64 (s.P 6), .int .i64 (s.P 7), .int .i64 (s.P 8)], .string t, .int .i64 d] w fun e w' => e = .returned (.bool true) ∧ Below w.heap.size w w' := by
  have HB0 : Hid (Below w.heap.size w (w.alloc (.cells #[.slice a1 s.nA c1, .slice a2 s.nS c2, .slice a3 s.nV c3, .int .i64 (s.P 3), .int .i64 (s.P 4), .int .i64 (s.P 5), .int .i64 (s.P 6), .int .i64 (s.P 7), .int .i64 (s.P 8)] 26))) := (Below.refl _ _).alloc (Nat.le_refl _) _
  have A0 : Hid (SetAt (w.alloc (.cells #[.slice a1 s.nA c1, .slice a2 s.nS c2, .slice a3 s.nV c3, .int .i64 (s.P 3), .int .i64 (s.P 4), .int .i64 (s.P 5), .int .i64 (s.P 6), .int .i64 (s.P 7), .int .i64 (s.P 8)] 26)) w.heap.size a1 a2 a3 c1 c2 c3 s) := SetAt.box w a1 a2 a3 c1 c2 c3 s _
  have F1 := fun w => awake15_any w
  have F2 : ∀ W, Below w.heap.size w W → Calls Tryz.prog 5 #[.agg #[.slice a1 s.nA c1, .slice a2 s.nS c2, .slice a3 s.nV c3, .int .i64 (s.P 3), .int .i64 (s.P 4), .int .i64 (s.P 5), .int .i64 (s.P 6), .int .i64 (s.P 7), .int .i64 (s.P 8)]] W fun e w' => e = .returned (.bool (fewB s)) ∧ Below W.heap.size W w' := fun W hW => few15_any (h.below hW (Nat.le_refl _))
  rw [hf] at F2
  clear h hf
  go_enter Tryz.func3, Tryz.ntmps3
  go_wp2_with fail
  refine (F1 _).mono ?_
  rintro e w1 ⟨rfl, b1⟩
  have HB1 : Hid (Below w.heap.size w w1) := HB0.out.trans (b1.mono HB0.out.size)
  have A1 : Hid (SetAt w1 w.heap.size a1 a2 a3 c1 c2 c3 s) := A0.out.still b1 A0.out.lt
  obtain ⟨d0, d1, d2, d3, d4, d5, d6, d7, d8⟩ := A1.out
  clear b1
  go_wp2_with fail
  refine (F2 _ HB1.out).mono ?_
  rintro e w2 ⟨rfl, b2⟩
  have HB2 : Hid (Below w.heap.size w w2) := HB1.out.trans (b2.mono HB1.out.size)
  have A2 : Hid (SetAt w2 w.heap.size a1 a2 a3 c1 c2 c3 s) := A1.out.still b2 A1.out.lt
  clear d0 d1 d2 d3 d4 d5 d6 d7 d8
  obtain ⟨d0, d1, d2, d3, d4, d5, d6, d7, d8⟩ := A2.out
  clear b2
  go_wp2_with fail
  go_ret
  exact ⟨rfl, HB2.out⟩
set_option maxRecDepth 100000 in
set_option maxHeartbeats 16000000 in
theorem finds_long (w : World) (a1 a2 a3 : Option Addr) (c1 c2 c3 : Nat) (s : Stp) (h : SetIn w a1 a2 a3 c1 c2 c3 s) (t : ByteArray) (d : Int) (hf : fewB s = true) (ht : 200 < t.size) :
    Calls Tryz.prog 3 #[.agg #[.slice a1 s.nA c1, .slice a2 s.nS c2, .slice a3 s.nV c3, .int .i64 (s.P 3), .int .i64 (s.P 4), .int .i64 (s.P 5), .int .i64 (s.P 6), .int .i64 (s.P 7), .int .i64 (s.P 8)], .string t, .int .i64 d] w fun e w' => e = .returned (.bool true) ∧ Below w.heap.size w w' := by
  have HB0 : Hid (Below w.heap.size w (w.alloc (.cells #[.slice a1 s.nA c1, .slice a2 s.nS c2, .slice a3 s.nV c3, .int .i64 (s.P 3), .int .i64 (s.P 4), .int .i64 (s.P 5), .int .i64 (s.P 6), .int .i64 (s.P 7), .int .i64 (s.P 8)] 26))) := (Below.refl _ _).alloc (Nat.le_refl _) _
  have A0 : Hid (SetAt (w.alloc (.cells #[.slice a1 s.nA c1, .slice a2 s.nS c2, .slice a3 s.nV c3, .int .i64 (s.P 3), .int .i64 (s.P 4), .int .i64 (s.P 5), .int .i64 (s.P 6), .int .i64 (s.P 7), .int .i64 (s.P 8)] 26)) w.heap.size a1 a2 a3 c1 c2 c3 s) := SetAt.box w a1 a2 a3 c1 c2 c3 s _
  have F1 := fun w => awake15_any w
  have F2 : ∀ W, Below w.heap.size w W → Calls Tryz.prog 5 #[.agg #[.slice a1 s.nA c1, .slice a2 s.nS c2, .slice a3 s.nV c3, .int .i64 (s.P 3), .int .i64 (s.P 4), .int .i64 (s.P 5), .int .i64 (s.P 6), .int .i64 (s.P 7), .int .i64 (s.P 8)]] W fun e w' => e = .returned (.bool (fewB s)) ∧ Below W.heap.size W w' := fun W hW => few15_any (h.below hW (Nat.le_refl _))
  rw [hf] at F2
  have t1 : (200 : Int) < (t.size : Int) := by omega
  clear h hf ht
  go_enter Tryz.func3, Tryz.ntmps3
  go_wp2_with fail
  refine (F1 _).mono ?_
  rintro e w1 ⟨rfl, b1⟩
  have HB1 : Hid (Below w.heap.size w w1) := HB0.out.trans (b1.mono HB0.out.size)
  have A1 : Hid (SetAt w1 w.heap.size a1 a2 a3 c1 c2 c3 s) := A0.out.still b1 A0.out.lt
  obtain ⟨d0, d1, d2, d3, d4, d5, d6, d7, d8⟩ := A1.out
  clear b1
  go_wp2_with fail
  refine (F2 _ HB1.out).mono ?_
  rintro e w2 ⟨rfl, b2⟩
  have HB2 : Hid (Below w.heap.size w w2) := HB1.out.trans (b2.mono HB1.out.size)
  have A2 : Hid (SetAt w2 w.heap.size a1 a2 a3 c1 c2 c3 s) := A1.out.still b2 A1.out.lt
  clear d0 d1 d2 d3 d4 d5 d6 d7 d8
  obtain ⟨d0, d1, d2, d3, d4, d5, d6, d7, d8⟩ := A2.out
  clear b2
  go_wp2_with fail
  go_ret
  exact ⟨rfl, HB2.out⟩
set_option maxRecDepth 100000 in
set_option maxHeartbeats 16000000 in
theorem finds_wrong (w : World) (a1 a2 a3 : Option Addr) (c1 c2 c3 : Nat) (s : Stp) (h : SetIn w a1 a2 a3 c1 c2 c3 s) (t : ByteArray) (d : Int) (hf : fewB s = true) (ht : t.size ≤ 200) (hr : rightB s = false) :
    Calls Tryz.prog 3 #[.agg #[.slice a1 s.nA c1, .slice a2 s.nS c2, .slice a3 s.nV c3, .int .i64 (s.P 3), .int .i64 (s.P 4), .int .i64 (s.P 5), .int .i64 (s.P 6), .int .i64 (s.P 7), .int .i64 (s.P 8)], .string t, .int .i64 d] w fun e w' => e = .returned (.bool true) ∧ Below w.heap.size w w' := by
  have HB0 : Hid (Below w.heap.size w (w.alloc (.cells #[.slice a1 s.nA c1, .slice a2 s.nS c2, .slice a3 s.nV c3, .int .i64 (s.P 3), .int .i64 (s.P 4), .int .i64 (s.P 5), .int .i64 (s.P 6), .int .i64 (s.P 7), .int .i64 (s.P 8)] 26))) := (Below.refl _ _).alloc (Nat.le_refl _) _
  have A0 : Hid (SetAt (w.alloc (.cells #[.slice a1 s.nA c1, .slice a2 s.nS c2, .slice a3 s.nV c3, .int .i64 (s.P 3), .int .i64 (s.P 4), .int .i64 (s.P 5), .int .i64 (s.P 6), .int .i64 (s.P 7), .int .i64 (s.P 8)] 26)) w.heap.size a1 a2 a3 c1 c2 c3 s) := SetAt.box w a1 a2 a3 c1 c2 c3 s _
  have F1 := fun w => awake15_any w
  have F2 : ∀ W, Below w.heap.size w W → Calls Tryz.prog 5 #[.agg #[.slice a1 s.nA c1, .slice a2 s.nS c2, .slice a3 s.nV c3, .int .i64 (s.P 3), .int .i64 (s.P 4), .int .i64 (s.P 5), .int .i64 (s.P 6), .int .i64 (s.P 7), .int .i64 (s.P 8)]] W fun e w' => e = .returned (.bool (fewB s)) ∧ Below W.heap.size W w' := fun W hW => few15_any (h.below hW (Nat.le_refl _))
  obtain ⟨⟨k1, k2, k3⟩, q1, q2, q3⟩ := few_get hf
  have few' : Few s := ⟨by omega, by omega, by omega, fun i hi => Nat.le_trans (short_get q1 hi) (by omega), fun i hi => Nat.le_trans (short_get q2 hi) (by omega), fun i hi => Nat.le_trans (short_get q3 hi) (by omega)⟩
  have szs : Szs s := ⟨fun i hi => Nat.le_trans (short_get q1 hi) (by omega), fun i hi => Nat.le_trans (short_get q2 hi) (by omega), fun i hi => Nat.le_trans (short_get q3 hi) (by omega)⟩
  rw [hf] at F2
  have F3 : ∀ W, Below w.heap.size w W → Calls Tryz.prog 6 #[.agg #[.slice a1 s.nA c1, .slice a2 s.nS c2, .slice a3 s.nV c3, .int .i64 (s.P 3), .int .i64 (s.P 4), .int .i64 (s.P 5), .int .i64 (s.P 6), .int .i64 (s.P 7), .int .i64 (s.P 8)]] W fun e w' => ∃ x1 x2 x3 y1 y2 y3, e = .returned (.agg #[.slice x1 s.nA y1, .slice x2 s.nS y2, .slice x3 s.nV y3, .int .i64 (s.P 3), .int .i64 (s.P 4), .int .i64 (s.P 5), .int .i64 (s.P 6), .int .i64 (s.P 7), .int .i64 (s.P 8)]) ∧ SetIn w' x1 x2 x3 y1 y2 y3 s ∧ Below W.heap.size W w' := fun W hW => plain_any (h.below hW (Nat.le_refl _)) (by omega) (by omega) (by omega)
  have F4 : ∀ {W : World} {x1 x2 x3 : Option Addr} {y1 y2 y3 : Nat}, SetIn W x1 x2 x3 y1 y2 y3 s → Calls Tryz.prog 7 #[.agg #[.slice x1 s.nA y1, .slice x2 s.nS y2, .slice x3 s.nV y3, .int .i64 (s.P 3), .int .i64 (s.P 4), .int .i64 (s.P 5), .int .i64 (s.P 6), .int .i64 (s.P 7), .int .i64 (s.P 8)]] W fun e w' => e = .returned (.bool false) ∧ Below W.heap.size W w' := fun hI => by
      have := rightR_any hI few'
      rwa [hr] at this
  have t1 : ¬ (200 : Int) < (t.size : Int) := by omega
  have t2 : (t.size : Int) ≤ 200 := by omega
  clear h hf ht few' szs hr k1 k2 k3 q1 q2 q3
  go_enter Tryz.func3, Tryz.ntmps3
  go_wp2_with fail
  refine (F1 _).mono ?_
  rintro e w1 ⟨rfl, b1⟩
  have HB1 : Hid (Below w.heap.size w w1) := HB0.out.trans (b1.mono HB0.out.size)
  have A1 : Hid (SetAt w1 w.heap.size a1 a2 a3 c1 c2 c3 s) := A0.out.still b1 A0.out.lt
  obtain ⟨d0, d1, d2, d3, d4, d5, d6, d7, d8⟩ := A1.out
  clear b1
  go_wp2_with fail
  refine (F2 _ HB1.out).mono ?_
  rintro e w2 ⟨rfl, b2⟩
  have HB2 : Hid (Below w.heap.size w w2) := HB1.out.trans (b2.mono HB1.out.size)
  have A2 : Hid (SetAt w2 w.heap.size a1 a2 a3 c1 c2 c3 s) := A1.out.still b2 A1.out.lt
  clear d0 d1 d2 d3 d4 d5 d6 d7 d8
  obtain ⟨d0, d1, d2, d3, d4, d5, d6, d7, d8⟩ := A2.out
  clear b2
  go_wp2_with fail
  refine (F3 _ HB2.out).mono ?_
  rintro e w3 ⟨x1, x2, x3, y1, y2, y3, rfl, hI, b3⟩
  have G4 := F4 hI
  have HB3 : Hid (Below w.heap.size w w3) := HB2.out.trans (b3.mono HB2.out.size)
  have A3 : Hid (SetAt w3 w.heap.size a1 a2 a3 c1 c2 c3 s) := A2.out.still b3 A2.out.lt
  clear d0 d1 d2 d3 d4 d5 d6 d7 d8
  obtain ⟨d0, d1, d2, d3, d4, d5, d6, d7, d8⟩ := A3.out
  clear b3 hI F4
  go_wp2_with fail
  refine G4.mono ?_
  rintro e w4 ⟨rfl, b4⟩
  have HB4 : Hid (Below w.heap.size w w4) := HB3.out.trans (b4.mono HB3.out.size)
  have A4 : Hid (SetAt w4 w.heap.size a1 a2 a3 c1 c2 c3 s) := A3.out.still b4 A3.out.lt
  clear d0 d1 d2 d3 d4 d5 d6 d7 d8
  obtain ⟨d0, d1, d2, d3, d4, d5, d6, d7, d8⟩ := A4.out
  clear b4 G4
  go_wp2_with fail
  go_ret
  exact ⟨rfl, HB4.out⟩
theorem own_some {w : World} {base : Nat} {e : TypeId} {size : Nat} {a : Option Addr} {n c : Nat} {xs : List Value} (h : w.ownsRow base e size (.slice a n c) n xs) (hn : 1 ≤ n) : ∃ g, a = some ⟨g, 0, none⟩ := by
  rcases h.2 with ⟨e1, e2⟩ | ⟨g, cap, cur, e1, _⟩
  · omega
  · injection e1 with e1
    exact ⟨g, e1⟩
theorem sym_tick {s : Stp} (h : rightB s = true) {i : Nat} (hi : i < s.nS) : (s.S i).2.1 2 ≤ 1099511627776 := by
  unfold rightB at h
  simp only [Bool.and_eq_true] at h
  have := allB_get h.2.2.1 hi
  unfold symB at this
  simp only [Bool.and_eq_true] at this
  exact (withB_get this.2.2.1).2
end Go.Proofs.YtfphjhmhiaepiaaGreat
