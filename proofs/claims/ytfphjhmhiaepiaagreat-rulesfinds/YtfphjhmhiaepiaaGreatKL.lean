/-
  What rules tell: Account, Symbol, Venue, Band and Setup; of rules that are none nothing.
-/
import Derived.Laws.Cover3
import Derived.Test.YtfphjhmhiaepiaaGreatKK
namespace Go.Proofs.YtfphjhmhiaepiaaGreat.RU
open Go.ChangeShapes Go.WideShapes Go.ChangeAt Go.RowKit Go.Lib SM

/-- Rules that New did not make: nil, or a block of nothing. -/
def NoRul (w : World) (v : Value) : Prop := v = .pointer none ∨ ∃ p, v = .pointer (some ⟨p, 0, none⟩) ∧ w.cell? ⟨p, 0, none⟩ = some (.slice none 0 0) ∧ w.cell? ⟨p, 1, none⟩ = some (.slice none 0 0) ∧ w.cell? ⟨p, 2, none⟩ = some (.slice none 0 0) ∧ w.cell? ⟨p, 3, none⟩ = some (.int .i64 0) ∧ w.cell? ⟨p, 4, none⟩ = some (.int .i64 0) ∧ w.cell? ⟨p, 5, none⟩ = some (.int .i64 0) ∧ w.cell? ⟨p, 6, none⟩ = some (.int .i64 0) ∧ w.cell? ⟨p, 7, none⟩ = some (.int .i64 0) ∧ w.cell? ⟨p, 8, none⟩ = some (.int .i64 0) ∧ w.cell? ⟨p, 9, none⟩ = some (.map none) ∧ w.cell? ⟨p, 10, none⟩ = some (.map none) ∧ w.cell? ⟨p, 11, none⟩ = some (.map none)
theorem NoRul.still {w w' : World} {v : Value} (h : NoRul w v) (k : Below w.heap.size w w') : NoRul w' v := by
  rcases h with h | ⟨p, h, q0, q1, q2, q3, q4, q5, q6, q7, q8, q9, q10, q11⟩
  · exact .inl h
  · have lt := World.block_lt_of_cell? _ _ q0
    exact .inr ⟨p, h, (k.cell (p := ⟨p, 0, none⟩) lt).trans q0, (k.cell (p := ⟨p, 1, none⟩) lt).trans q1, (k.cell (p := ⟨p, 2, none⟩) lt).trans q2, (k.cell (p := ⟨p, 3, none⟩) lt).trans q3, (k.cell (p := ⟨p, 4, none⟩) lt).trans q4, (k.cell (p := ⟨p, 5, none⟩) lt).trans q5, (k.cell (p := ⟨p, 6, none⟩) lt).trans q6, (k.cell (p := ⟨p, 7, none⟩) lt).trans q7, (k.cell (p := ⟨p, 8, none⟩) lt).trans q8, (k.cell (p := ⟨p, 9, none⟩) lt).trans q9, (k.cell (p := ⟨p, 10, none⟩) lt).trans q10, (k.cell (p := ⟨p, 11, none⟩) lt).trans q11⟩
set_option maxHeartbeats 1000000 in
theorem account_none {w : World} {v : Value} (h : NoRul w v) (name : ByteArray) (hs : name.size ≤ maxLen) :
    Calls Tryz.prog 9 #[v, .string name] w fun e w' => e = .returned (.tuple #[.int .i64 0, .bool false]) ∧ w' = w := by
  rcases h with rfl | ⟨p, rfl, q0, q1, q2, q3, q4, q5, q6, q7, q8, q9, q10, q11⟩
  · go_enter Tryz.func9, Tryz.ntmps9
    go_wp2
    go_ret2
    exact ⟨rfl, rfl⟩
  · have L := look_none name hs
    go_enter Tryz.func9, Tryz.ntmps9
    go_wp2
    go_ret2
    exact ⟨rfl, rfl⟩
set_option maxHeartbeats 1000000 in
theorem account_found {B : Nat} {w : World} {p : Nat} {x1 x2 x3 : Option Addr} {y1 y2 y3 m1 m2 m3 : Nat} {s : Stp} (h : RulAt B w p x1 x2 x3 y1 y2 y3 m1 m2 m3 s) (name : ByteArray) (hs : name.size ≤ maxLen) :
    Calls Tryz.prog 9 #[.pointer (some ⟨p, 0, none⟩), .string name] w fun e w' => e = .returned (.tuple #[.int .i64 (numV (lastOf (fun i => (s.A i).1) s.nA name)), .bool (lastOf (fun i => (s.A i).1) s.nA name).isSome]) ∧ w' = w := by
  have L := h.ma.look_ok name hs
  have c := h.e9
  generalize lastOf (fun i => (s.A i).1) s.nA name = o at *
  generalize numV o = z at *
  generalize o.isSome = b at *
  clear h
  go_enter Tryz.func9, Tryz.ntmps9
  go_wp2
  go_ret2
  exact ⟨rfl, rfl⟩
set_option maxHeartbeats 1000000 in
theorem symbol_none {w : World} {v : Value} (h : NoRul w v) (name : ByteArray) (hs : name.size ≤ maxLen) :
    Calls Tryz.prog 10 #[v, .string name] w fun e w' => e = .returned (.tuple #[.int .i64 0, .bool false]) ∧ w' = w := by
  rcases h with rfl | ⟨p, rfl, q0, q1, q2, q3, q4, q5, q6, q7, q8, q9, q10, q11⟩
  · go_enter Tryz.func10, Tryz.ntmps10
    go_wp2
    go_ret2
    exact ⟨rfl, rfl⟩
  · have L := look_none name hs
    go_enter Tryz.func10, Tryz.ntmps10
    go_wp2
    go_ret2
    exact ⟨rfl, rfl⟩
set_option maxHeartbeats 1000000 in
theorem symbol_found {B : Nat} {w : World} {p : Nat} {x1 x2 x3 : Option Addr} {y1 y2 y3 m1 m2 m3 : Nat} {s : Stp} (h : RulAt B w p x1 x2 x3 y1 y2 y3 m1 m2 m3 s) (name : ByteArray) (hs : name.size ≤ maxLen) :
    Calls Tryz.prog 10 #[.pointer (some ⟨p, 0, none⟩), .string name] w fun e w' => e = .returned (.tuple #[.int .i64 (numV (lastOf (fun i => (s.S i).1) s.nS name)), .bool (lastOf (fun i => (s.S i).1) s.nS name).isSome]) ∧ w' = w := by
  have L := h.ms.look_ok name hs
  have c := h.e10
  generalize lastOf (fun i => (s.S i).1) s.nS name = o at *
  generalize numV o = z at *
  generalize o.isSome = b at *
  clear h
  go_enter Tryz.func10, Tryz.ntmps10
  go_wp2
  go_ret2
  exact ⟨rfl, rfl⟩
set_option maxHeartbeats 1000000 in
theorem venue_none {w : World} {v : Value} (h : NoRul w v) (name : ByteArray) (hs : name.size ≤ maxLen) :
    Calls Tryz.prog 11 #[v, .string name] w fun e w' => e = .returned (.tuple #[.int .i64 0, .bool false]) ∧ w' = w := by
  rcases h with rfl | ⟨p, rfl, q0, q1, q2, q3, q4, q5, q6, q7, q8, q9, q10, q11⟩
  · go_enter Tryz.func11, Tryz.ntmps11
    go_wp2
    go_ret2
    exact ⟨rfl, rfl⟩
  · have L := look_none name hs
    go_enter Tryz.func11, Tryz.ntmps11
    go_wp2
    go_ret2
    exact ⟨rfl, rfl⟩
set_option maxHeartbeats 1000000 in
theorem venue_found {B : Nat} {w : World} {p : Nat} {x1 x2 x3 : Option Addr} {y1 y2 y3 m1 m2 m3 : Nat} {s : Stp} (h : RulAt B w p x1 x2 x3 y1 y2 y3 m1 m2 m3 s) (name : ByteArray) (hs : name.size ≤ maxLen) :
    Calls Tryz.prog 11 #[.pointer (some ⟨p, 0, none⟩), .string name] w fun e w' => e = .returned (.tuple #[.int .i64 (numV (lastOf (fun i => (s.V i).1) s.nV name)), .bool (lastOf (fun i => (s.V i).1) s.nV name).isSome]) ∧ w' = w := by
  have L := h.mv.look_ok name hs
  have c := h.e11
  generalize lastOf (fun i => (s.V i).1) s.nV name = o at *
  generalize numV o = z at *
  generalize o.isSome = b at *
  clear h
  go_enter Tryz.func11, Tryz.ntmps11
  go_wp2
  go_ret2
  exact ⟨rfl, rfl⟩
set_option maxHeartbeats 1000000 in
theorem band_none {w : World} {v : Value} (h : NoRul w v) (i : Int) :
    Calls Tryz.prog 12 #[v, .int .i64 i] w fun e w' => e = .returned (.tuple #[.int .i64 0, .int .i64 0]) ∧ w' = w := by
  rcases h with rfl | ⟨p, rfl, q0, q1, q2, q3, q4, q5, q6, q7, q8, q9, q10, q11⟩
  · go_enter Tryz.func12, Tryz.ntmps12
    go_wp2
    go_ret2
    exact ⟨rfl, rfl⟩
  · by_cases k : i < 0
    · go_enter Tryz.func12, Tryz.ntmps12
      go_wp2
      go_ret2
      exact ⟨rfl, rfl⟩
    · have k2 : 0 ≤ i := by omega
      go_enter Tryz.func12, Tryz.ntmps12
      go_wp2
      go_ret2
      exact ⟨rfl, rfl⟩
set_option maxHeartbeats 1000000 in
theorem band_out {B : Nat} {w : World} {p : Nat} {x1 x2 x3 : Option Addr} {y1 y2 y3 m1 m2 m3 : Nat} {s : Stp} (h : RulAt B w p x1 x2 x3 y1 y2 y3 m1 m2 m3 s) (i : Int) (hi : i < 0 ∨ (s.nS : Int) ≤ i) :
    Calls Tryz.prog 12 #[.pointer (some ⟨p, 0, none⟩), .int .i64 i] w fun e w' => e = .returned (.tuple #[.int .i64 0, .int .i64 0]) ∧ w' = w := by
  have c := h.at9.d1
  clear h
  by_cases k : i < 0
  · go_enter Tryz.func12, Tryz.ntmps12
    go_wp2
    go_ret2
    exact ⟨rfl, rfl⟩
  · have k2 : (s.nS : Int) ≤ i := by omega
    go_enter Tryz.func12, Tryz.ntmps12
    go_wp2
    go_ret2
    exact ⟨rfl, rfl⟩
set_option maxHeartbeats 1000000 in
theorem band_in {B : Nat} {w : World} {p : Nat} {x1 x2 x3 : Option Addr} {y1 y2 y3 m1 m2 m3 : Nat} {s : Stp} (h : RulAt B w p x1 x2 x3 y1 y2 y3 m1 m2 m3 s) (i : Nat) (hi : i < s.nS) (t2 : (s.S i).2.1 2 ≤ 9223372036854775807) :
    Calls Tryz.prog 12 #[.pointer (some ⟨p, 0, none⟩), .int .i64 (i : Int)] w fun e w' => e = .returned (.tuple #[.int .i64 (baL ((s.S i).2.1 3) ((s.S i).2.1 4) ((s.S i).2.1 2)), .int .i64 (baH ((s.S i).2.1 3) ((s.S i).2.1 4) ((s.S i).2.1 2))]) ∧ Below w.heap.size w w' := by
  have c := h.at9.d1
  obtain ⟨a, cap, e, k1, k2, k3⟩ := h.own.into.rs
  injection e with e1 _ e2
  subst e1 e2
  obtain ⟨b, off, rfl, c0, c1, c2, c3, c4, c5, c6⟩ := k3 i hi
  have t : (i : Int) < (s.nS : Int) := by omega
  have F := fun w => band_sym (s.S i) w t2
  clear h k3
  unfold maxLen at k2
  generalize s.S i = x at *
  obtain ⟨nm, z, m⟩ := x
  dsimp only at *
  generalize baL (z 3) (z 4) (z 2) = lo at *
  generalize baH (z 3) (z 4) (z 2) = hi' at *
  generalize baE (z 3) (z 4) (z 2) = er at *
  go_enter Tryz.func12, Tryz.ntmps12
  go_wp2_with fail
  refine (F _).mono ?_
  rintro e w1 ⟨rfl, hb⟩
  go_wp2_with fail
  go_ret2
  exact ⟨rfl, hb⟩
/-- Nothing, in nine cells. -/
def zeroF (j : Nat) : Value := if j < 3 then .slice none 0 0 else .int .i64 0
theorem box9_zero (w : World) (t : TypeId) : Box9 (w.alloc (.cells #[.slice none 0 0, .slice none 0 0, .slice none 0 0, .int .i64 0, .int .i64 0, .int .i64 0, .int .i64 0, .int .i64 0, .int .i64 0] t)) w.heap.size zeroF := by
  refine ⟨fun j hj => ?_, fun j => by simp⟩
  rcases (show j = 0 ∨ j = 1 ∨ j = 2 ∨ j = 3 ∨ j = 4 ∨ j = 5 ∨ j = 6 ∨ j = 7 ∨ j = 8 by omega) with rfl | rfl | rfl | rfl | rfl | rfl | rfl | rfl | rfl <;> simp [zeroF]
set_option maxRecDepth 100000 in
set_option maxHeartbeats 4000000 in
theorem copied_zero (w : World) :
    Calls Tryz.prog 24 #[.agg #[.slice none 0 0, .slice none 0 0, .slice none 0 0, .int .i64 0, .int .i64 0, .int .i64 0, .int .i64 0, .int .i64 0, .int .i64 0]] w fun e w' => e = .returned (.agg #[.slice none 0 0, .slice none 0 0, .slice none 0 0, .int .i64 0, .int .i64 0, .int .i64 0, .int .i64 0, .int .i64 0, .int .i64 0]) ∧ Below w.heap.size w w' := by
  have F1 := cloneA_nil
  have F2 := cloneS_nil
  have F3 := cloneV_nil
  go_enter Tryz.func24, Tryz.ntmps24
  go_wp2_with fail
  refine (F1 _).mono ?_
  rintro e w1 ⟨rfl, hw1⟩
  have X1 : Hid (Box9 w1 w.heap.size zeroF) := by show Box9 _ _ _; rw [hw1]; exact (box9_zero w _).still ((Below.refl _ _).alloc (Nat.le_refl _) _)
  have Y1 : Hid (Box9 w1 (w.heap.size + 1) zeroF) := by show Box9 _ _ _; rw [hw1]; have h := box9_zero (w.alloc (.cells #[.slice none 0 0, .slice none 0 0, .slice none 0 0, .int .i64 0, .int .i64 0, .int .i64 0, .int .i64 0, .int .i64 0, .int .i64 0] 26)) 26; rw [World.size_alloc] at h; exact h
  have HB1 : Hid (Below w.heap.size w w1) := by show Below _ _ _; rw [hw1]; exact ((Below.refl _ _).alloc (Nat.le_refl _) _).alloc (by simp) _
  clear hw1
  have d0 : w1.cell? ⟨w.heap.size, 0, none⟩ = some (.slice none 0 0) := X1.out.cell 0 (by omega)
  have d1 : w1.cell? ⟨w.heap.size, 1, none⟩ = some (.slice none 0 0) := X1.out.cell 1 (by omega)
  have d2 : w1.cell? ⟨w.heap.size, 2, none⟩ = some (.slice none 0 0) := X1.out.cell 2 (by omega)
  have d3 : w1.cell? ⟨w.heap.size, 3, none⟩ = some (.int .i64 0) := X1.out.cell 3 (by omega)
  have d4 : w1.cell? ⟨w.heap.size, 4, none⟩ = some (.int .i64 0) := X1.out.cell 4 (by omega)
  have d5 : w1.cell? ⟨w.heap.size, 5, none⟩ = some (.int .i64 0) := X1.out.cell 5 (by omega)
  have d6 : w1.cell? ⟨w.heap.size, 6, none⟩ = some (.int .i64 0) := X1.out.cell 6 (by omega)
  have d7 : w1.cell? ⟨w.heap.size, 7, none⟩ = some (.int .i64 0) := X1.out.cell 7 (by omega)
  have d8 : w1.cell? ⟨w.heap.size, 8, none⟩ = some (.int .i64 0) := X1.out.cell 8 (by omega)
  have z0 : ∀ j, w1.frozen? ⟨w.heap.size, j, none⟩ = false := X1.out.fz
  have N1 : Hid (Box9 (w1.setCell ⟨w.heap.size, 0, none⟩ (.slice none 0 0)) w.heap.size (upd zeroF 0 (.slice none 0 0))) := X1.out.set (by omega) _
  have M1 : Hid (Box9 (w1.setCell ⟨w.heap.size, 0, none⟩ (.slice none 0 0)) (w.heap.size + 1) zeroF) := Y1.out.kept (S := fun k => k = w.heap.size) ((But.refl _ _).setCell _ _ _ (fun _ => rfl)) (by omega)
  have E1 : Hid (Below w.heap.size w (w1.setCell ⟨w.heap.size, 0, none⟩ (.slice none 0 0))) := HB1.out.setCell (Nat.le_refl _) _
  go_wp2_with fail
  refine (F2 _).mono ?_
  rintro e w2 ⟨rfl, hw2⟩
  have X2 : Hid (Box9 w2 w.heap.size zeroF) := by
    show Box9 _ _ _
    rw [hw2]
    have := N1.out
    rwa [show upd zeroF 0 (.slice none 0 0) = zeroF from funext fun j => by by_cases e : j = 0 <;> simp [upd, zeroF, e]] at this
  have Y2 : Hid (Box9 w2 (w.heap.size + 1) zeroF) := by show Box9 _ _ _; rw [hw2]; exact M1.out
  have HB2 : Hid (Below w.heap.size w w2) := by show Below _ _ _; rw [hw2]; exact E1.out
  clear hw2 N1 M1 E1
  clear d0 d1 d2 d3 d4 d5 d6 d7 d8 z0
  have d0 : w2.cell? ⟨w.heap.size, 0, none⟩ = some (.slice none 0 0) := X2.out.cell 0 (by omega)
  have d1 : w2.cell? ⟨w.heap.size, 1, none⟩ = some (.slice none 0 0) := X2.out.cell 1 (by omega)
  have d2 : w2.cell? ⟨w.heap.size, 2, none⟩ = some (.slice none 0 0) := X2.out.cell 2 (by omega)
  have d3 : w2.cell? ⟨w.heap.size, 3, none⟩ = some (.int .i64 0) := X2.out.cell 3 (by omega)
  have d4 : w2.cell? ⟨w.heap.size, 4, none⟩ = some (.int .i64 0) := X2.out.cell 4 (by omega)
  have d5 : w2.cell? ⟨w.heap.size, 5, none⟩ = some (.int .i64 0) := X2.out.cell 5 (by omega)
  have d6 : w2.cell? ⟨w.heap.size, 6, none⟩ = some (.int .i64 0) := X2.out.cell 6 (by omega)
  have d7 : w2.cell? ⟨w.heap.size, 7, none⟩ = some (.int .i64 0) := X2.out.cell 7 (by omega)
  have d8 : w2.cell? ⟨w.heap.size, 8, none⟩ = some (.int .i64 0) := X2.out.cell 8 (by omega)
  have z0 : ∀ j, w2.frozen? ⟨w.heap.size, j, none⟩ = false := X2.out.fz
  have N2 : Hid (Box9 (w2.setCell ⟨w.heap.size, 1, none⟩ (.slice none 0 0)) w.heap.size (upd zeroF 1 (.slice none 0 0))) := X2.out.set (by omega) _
  have M2 : Hid (Box9 (w2.setCell ⟨w.heap.size, 1, none⟩ (.slice none 0 0)) (w.heap.size + 1) zeroF) := Y2.out.kept (S := fun k => k = w.heap.size) ((But.refl _ _).setCell _ _ _ (fun _ => rfl)) (by omega)
  have E2 : Hid (Below w.heap.size w (w2.setCell ⟨w.heap.size, 1, none⟩ (.slice none 0 0))) := HB2.out.setCell (Nat.le_refl _) _
  go_wp2_with fail
  refine (F3 _).mono ?_
  rintro e w3 ⟨rfl, hw3⟩
  have X3 : Hid (Box9 w3 w.heap.size zeroF) := by
    show Box9 _ _ _
    rw [hw3]
    have := N2.out
    rwa [show upd zeroF 1 (.slice none 0 0) = zeroF from funext fun j => by by_cases e : j = 1 <;> simp [upd, zeroF, e]] at this
  have Y3 : Hid (Box9 w3 (w.heap.size + 1) zeroF) := by show Box9 _ _ _; rw [hw3]; exact M2.out
  have HB3 : Hid (Below w.heap.size w w3) := by show Below _ _ _; rw [hw3]; exact E2.out
  clear hw3 N2 M2 E2
  clear d0 d1 d2 d3 d4 d5 d6 d7 d8 z0
  have d0 : w3.cell? ⟨w.heap.size, 0, none⟩ = some (.slice none 0 0) := X3.out.cell 0 (by omega)
  have d1 : w3.cell? ⟨w.heap.size, 1, none⟩ = some (.slice none 0 0) := X3.out.cell 1 (by omega)
  have d2 : w3.cell? ⟨w.heap.size, 2, none⟩ = some (.slice none 0 0) := X3.out.cell 2 (by omega)
  have d3 : w3.cell? ⟨w.heap.size, 3, none⟩ = some (.int .i64 0) := X3.out.cell 3 (by omega)
  have d4 : w3.cell? ⟨w.heap.size, 4, none⟩ = some (.int .i64 0) := X3.out.cell 4 (by omega)
  have d5 : w3.cell? ⟨w.heap.size, 5, none⟩ = some (.int .i64 0) := X3.out.cell 5 (by omega)
  have d6 : w3.cell? ⟨w.heap.size, 6, none⟩ = some (.int .i64 0) := X3.out.cell 6 (by omega)
  have d7 : w3.cell? ⟨w.heap.size, 7, none⟩ = some (.int .i64 0) := X3.out.cell 7 (by omega)
  have d8 : w3.cell? ⟨w.heap.size, 8, none⟩ = some (.int .i64 0) := X3.out.cell 8 (by omega)
  have z0 : ∀ j, w3.frozen? ⟨w.heap.size, j, none⟩ = false := X3.out.fz
  have N3 : Hid (Box9 (w3.setCell ⟨w.heap.size, 2, none⟩ (.slice none 0 0)) w.heap.size (upd zeroF 2 (.slice none 0 0))) := X3.out.set (by omega) _
  have M3 : Hid (Box9 (w3.setCell ⟨w.heap.size, 2, none⟩ (.slice none 0 0)) (w.heap.size + 1) zeroF) := Y3.out.kept (S := fun k => k = w.heap.size) ((But.refl _ _).setCell _ _ _ (fun _ => rfl)) (by omega)
  have E3 : Hid (Below w.heap.size w (w3.setCell ⟨w.heap.size, 2, none⟩ (.slice none 0 0))) := HB3.out.setCell (Nat.le_refl _) _
  have P : Hid (Box9 (put9 (w3.setCell ⟨w.heap.size, 2, none⟩ (.slice none 0 0)) (w.heap.size + 1) zeroF) (w.heap.size + 1) zeroF) := put9_at M3.out _
  have PB : Hid (But (fun j => j = w.heap.size + 1) (w3.setCell ⟨w.heap.size, 2, none⟩ (.slice none 0 0)) (put9 (w3.setCell ⟨w.heap.size, 2, none⟩ (.slice none 0 0)) (w.heap.size + 1) zeroF)) := put9_but _ _ _
  have r0 : w3.cell? ⟨w.heap.size + 1, 0, none⟩ = some (.slice none 0 0) := Y3.out.cell 0 (by omega)
  have r1 : w3.cell? ⟨w.heap.size + 1, 1, none⟩ = some (.slice none 0 0) := Y3.out.cell 1 (by omega)
  have r2 : w3.cell? ⟨w.heap.size + 1, 2, none⟩ = some (.slice none 0 0) := Y3.out.cell 2 (by omega)
  have r3 : w3.cell? ⟨w.heap.size + 1, 3, none⟩ = some (.int .i64 0) := Y3.out.cell 3 (by omega)
  have r4 : w3.cell? ⟨w.heap.size + 1, 4, none⟩ = some (.int .i64 0) := Y3.out.cell 4 (by omega)
  have r5 : w3.cell? ⟨w.heap.size + 1, 5, none⟩ = some (.int .i64 0) := Y3.out.cell 5 (by omega)
  have r6 : w3.cell? ⟨w.heap.size + 1, 6, none⟩ = some (.int .i64 0) := Y3.out.cell 6 (by omega)
  have r7 : w3.cell? ⟨w.heap.size + 1, 7, none⟩ = some (.int .i64 0) := Y3.out.cell 7 (by omega)
  have r8 : w3.cell? ⟨w.heap.size + 1, 8, none⟩ = some (.int .i64 0) := Y3.out.cell 8 (by omega)
  have z1 : ∀ j, w3.frozen? ⟨w.heap.size + 1, j, none⟩ = false := Y3.out.fz
  have zz : zeroF 0 = .slice none 0 0 ∧ zeroF 1 = .slice none 0 0 ∧ zeroF 2 = .slice none 0 0 ∧ zeroF 3 = .int .i64 0 ∧ zeroF 4 = .int .i64 0 ∧ zeroF 5 = .int .i64 0 ∧ zeroF 6 = .int .i64 0 ∧ zeroF 7 = .int .i64 0 ∧ zeroF 8 = .int .i64 0 := ⟨rfl, rfl, rfl, rfl, rfl, rfl, rfl, rfl, rfl⟩
  obtain ⟨zz0, zz1, zz2, zz3, zz4, zz5, zz6, zz7, zz8⟩ := zz
  unfold put9 at P PB
  rw [zz0, zz1, zz2, zz3, zz4, zz5, zz6, zz7, zz8] at P PB
  clear zz0 zz1 zz2 zz3 zz4 zz5 zz6 zz7 zz8
  go_wp2_with fail
  generalize hV : World.setCell _ ⟨w.heap.size + 1, 8, none⟩ _ = V
  rw [hV] at P PB
  have BV : Below w.heap.size w V := E3.out.trans (PB.out.below E3.out.size (fun i e => by omega))
  have p0 : V.cell? ⟨w.heap.size + 1, 0, none⟩ = some (.slice none 0 0) := P.out.cell 0 (by omega)
  have p1 : V.cell? ⟨w.heap.size + 1, 1, none⟩ = some (.slice none 0 0) := P.out.cell 1 (by omega)
  have p2 : V.cell? ⟨w.heap.size + 1, 2, none⟩ = some (.slice none 0 0) := P.out.cell 2 (by omega)
  have p3 : V.cell? ⟨w.heap.size + 1, 3, none⟩ = some (.int .i64 0) := P.out.cell 3 (by omega)
  have p4 : V.cell? ⟨w.heap.size + 1, 4, none⟩ = some (.int .i64 0) := P.out.cell 4 (by omega)
  have p5 : V.cell? ⟨w.heap.size + 1, 5, none⟩ = some (.int .i64 0) := P.out.cell 5 (by omega)
  have p6 : V.cell? ⟨w.heap.size + 1, 6, none⟩ = some (.int .i64 0) := P.out.cell 6 (by omega)
  have p7 : V.cell? ⟨w.heap.size + 1, 7, none⟩ = some (.int .i64 0) := P.out.cell 7 (by omega)
  have p8 : V.cell? ⟨w.heap.size + 1, 8, none⟩ = some (.int .i64 0) := P.out.cell 8 (by omega)
  refine bodyPost_ret (v := .agg #[.slice none 0 0, .slice none 0 0, .slice none 0 0, .int .i64 0, .int .i64 0, .int .i64 0, .int .i64 0, .int .i64 0, .int .i64 0]) (by simp [results, Tryz.results24, go_sem, p0, p1, p2, p3, p4, p5, p6, p7, p8]) rfl ?_
  exact ⟨rfl, BV⟩
set_option maxRecDepth 100000 in
set_option maxHeartbeats 4000000 in
theorem setup_none {w : World} {v : Value} (h : NoRul w v) :
    Calls Tryz.prog 14 #[v] w fun e w' => e = .returned (.agg #[.slice none 0 0, .slice none 0 0, .slice none 0 0, .int .i64 0, .int .i64 0, .int .i64 0, .int .i64 0, .int .i64 0, .int .i64 0]) ∧ Below w.heap.size w w' := by
  have Y0 : Hid (Box9 (w.alloc (.cells #[.slice none 0 0, .slice none 0 0, .slice none 0 0, .int .i64 0, .int .i64 0, .int .i64 0, .int .i64 0, .int .i64 0, .int .i64 0] 26)) w.heap.size zeroF) := box9_zero w _
  have HB0 : Hid (Below w.heap.size w (w.alloc (.cells #[.slice none 0 0, .slice none 0 0, .slice none 0 0, .int .i64 0, .int .i64 0, .int .i64 0, .int .i64 0, .int .i64 0, .int .i64 0] 26))) := (Below.refl _ _).alloc (Nat.le_refl _) _
  rcases h with rfl | ⟨p, rfl, q0, q1, q2, q3, q4, q5, q6, q7, q8, q9, q10, q11⟩
  · go_enter Tryz.func14, Tryz.ntmps14
    go_wp2_with fail
    refine bodyPost_ret (v := .agg #[.slice none 0 0, .slice none 0 0, .slice none 0 0, .int .i64 0, .int .i64 0, .int .i64 0, .int .i64 0, .int .i64 0, .int .i64 0]) (by simp [results, Tryz.results14, go_sem]) rfl ?_
    exact ⟨rfl, (Below.refl _ _).alloc (Nat.le_refl _) _⟩
  · have n0 : p ≠ w.heap.size := Nat.ne_of_lt (World.block_lt_of_cell? _ _ q0)
    have F := copied_zero
    have lt : p < w.heap.size := World.block_lt_of_cell? _ _ q0
    have g0 := (HB0.out.cell (p := ⟨p, 0, none⟩) lt).trans q0
    have g1 := (HB0.out.cell (p := ⟨p, 1, none⟩) lt).trans q1
    have g2 := (HB0.out.cell (p := ⟨p, 2, none⟩) lt).trans q2
    have g3 := (HB0.out.cell (p := ⟨p, 3, none⟩) lt).trans q3
    have g4 := (HB0.out.cell (p := ⟨p, 4, none⟩) lt).trans q4
    have g5 := (HB0.out.cell (p := ⟨p, 5, none⟩) lt).trans q5
    have g6 := (HB0.out.cell (p := ⟨p, 6, none⟩) lt).trans q6
    have g7 := (HB0.out.cell (p := ⟨p, 7, none⟩) lt).trans q7
    have g8 := (HB0.out.cell (p := ⟨p, 8, none⟩) lt).trans q8
    clear lt
    go_enter Tryz.func14, Tryz.ntmps14
    go_wp2_with fail
    refine (F _).mono ?_
    rintro e w1 ⟨rfl, hb⟩
    have Y1 : Hid (Box9 w1 w.heap.size zeroF) := Y0.out.still hb
    have HB1 : Hid (Below w.heap.size w w1) := HB0.out.trans (hb.mono HB0.out.size)
    clear hb Y0 HB0
    have r0 : w1.cell? ⟨w.heap.size, 0, none⟩ = some (.slice none 0 0) := Y1.out.cell 0 (by omega)
    have r1 : w1.cell? ⟨w.heap.size, 1, none⟩ = some (.slice none 0 0) := Y1.out.cell 1 (by omega)
    have r2 : w1.cell? ⟨w.heap.size, 2, none⟩ = some (.slice none 0 0) := Y1.out.cell 2 (by omega)
    have r3 : w1.cell? ⟨w.heap.size, 3, none⟩ = some (.int .i64 0) := Y1.out.cell 3 (by omega)
    have r4 : w1.cell? ⟨w.heap.size, 4, none⟩ = some (.int .i64 0) := Y1.out.cell 4 (by omega)
    have r5 : w1.cell? ⟨w.heap.size, 5, none⟩ = some (.int .i64 0) := Y1.out.cell 5 (by omega)
    have r6 : w1.cell? ⟨w.heap.size, 6, none⟩ = some (.int .i64 0) := Y1.out.cell 6 (by omega)
    have r7 : w1.cell? ⟨w.heap.size, 7, none⟩ = some (.int .i64 0) := Y1.out.cell 7 (by omega)
    have r8 : w1.cell? ⟨w.heap.size, 8, none⟩ = some (.int .i64 0) := Y1.out.cell 8 (by omega)
    have z1 : ∀ j, w1.frozen? ⟨w.heap.size, j, none⟩ = false := Y1.out.fz
    have P : Hid (Box9 (put9 w1 w.heap.size zeroF) w.heap.size zeroF) := put9_at Y1.out _
    have PB : Hid (But (fun j => j = w.heap.size) w1 (put9 w1 w.heap.size zeroF)) := put9_but _ _ _
    have zz : zeroF 0 = .slice none 0 0 ∧ zeroF 1 = .slice none 0 0 ∧ zeroF 2 = .slice none 0 0 ∧ zeroF 3 = .int .i64 0 ∧ zeroF 4 = .int .i64 0 ∧ zeroF 5 = .int .i64 0 ∧ zeroF 6 = .int .i64 0 ∧ zeroF 7 = .int .i64 0 ∧ zeroF 8 = .int .i64 0 := ⟨rfl, rfl, rfl, rfl, rfl, rfl, rfl, rfl, rfl⟩
    obtain ⟨zz0, zz1, zz2, zz3, zz4, zz5, zz6, zz7, zz8⟩ := zz
    unfold put9 at P PB
    rw [zz0, zz1, zz2, zz3, zz4, zz5, zz6, zz7, zz8] at P PB
    clear zz0 zz1 zz2 zz3 zz4 zz5 zz6 zz7 zz8
    go_wp2_with fail
    generalize hV : World.setCell _ ⟨w.heap.size, 8, none⟩ _ = V
    rw [hV] at P PB
    have BV : Below w.heap.size w V := HB1.out.trans (PB.out.below HB1.out.size (fun i e => by omega))
    have p0 : V.cell? ⟨w.heap.size, 0, none⟩ = some (.slice none 0 0) := P.out.cell 0 (by omega)
    have p1 : V.cell? ⟨w.heap.size, 1, none⟩ = some (.slice none 0 0) := P.out.cell 1 (by omega)
    have p2 : V.cell? ⟨w.heap.size, 2, none⟩ = some (.slice none 0 0) := P.out.cell 2 (by omega)
    have p3 : V.cell? ⟨w.heap.size, 3, none⟩ = some (.int .i64 0) := P.out.cell 3 (by omega)
    have p4 : V.cell? ⟨w.heap.size, 4, none⟩ = some (.int .i64 0) := P.out.cell 4 (by omega)
    have p5 : V.cell? ⟨w.heap.size, 5, none⟩ = some (.int .i64 0) := P.out.cell 5 (by omega)
    have p6 : V.cell? ⟨w.heap.size, 6, none⟩ = some (.int .i64 0) := P.out.cell 6 (by omega)
    have p7 : V.cell? ⟨w.heap.size, 7, none⟩ = some (.int .i64 0) := P.out.cell 7 (by omega)
    have p8 : V.cell? ⟨w.heap.size, 8, none⟩ = some (.int .i64 0) := P.out.cell 8 (by omega)
    refine bodyPost_ret (v := .agg #[.slice none 0 0, .slice none 0 0, .slice none 0 0, .int .i64 0, .int .i64 0, .int .i64 0, .int .i64 0, .int .i64 0, .int .i64 0]) (by simp [results, Tryz.results14, go_sem, p0, p1, p2, p3, p4, p5, p6, p7, p8]) rfl ?_
    exact ⟨rfl, BV⟩
set_option maxRecDepth 100000 in
set_option maxHeartbeats 4000000 in
theorem setup_told {B : Nat} {w : World} {p : Nat} {x1 x2 x3 : Option Addr} {y1 y2 y3 m1 m2 m3 : Nat} {s : Stp} (h : RulAt B w p x1 x2 x3 y1 y2 y3 m1 m2 m3 s) (hc : Cnt s) :
    Calls Tryz.prog 14 #[.pointer (some ⟨p, 0, none⟩)] w fun e w' => ∃ x1 x2 x3 y1 y2 y3, e = .returned (.agg #[.slice x1 s.nA y1, .slice x2 s.nS y2, .slice x3 s.nV y3, .int .i64 (s.P 3), .int .i64 (s.P 4), .int .i64 (s.P 5), .int .i64 (s.P 6), .int .i64 (s.P 7), .int .i64 (s.P 8)]) ∧ SetOwn w' w.heap.size x1 x2 x3 y1 y2 y3 s ∧ Below w.heap.size w w' := by
  have Y0 : Hid (Box9 (w.alloc (.cells #[.slice none 0 0, .slice none 0 0, .slice none 0 0, .int .i64 0, .int .i64 0, .int .i64 0, .int .i64 0, .int .i64 0, .int .i64 0] 26)) w.heap.size zeroF) := box9_zero w _
  have HB0 : Hid (Below w.heap.size w (w.alloc (.cells #[.slice none 0 0, .slice none 0 0, .slice none 0 0, .int .i64 0, .int .i64 0, .int .i64 0, .int .i64 0, .int .i64 0, .int .i64 0] 26))) := (Below.refl _ _).alloc (Nat.le_refl _) _
  have F := copied_any (h.own.into.below HB0.out (Nat.le_refl _)) hc
  obtain ⟨d0, d1, d2, d3, d4, d5, d6, d7, d8⟩ := h.at9
  have g0 := (HB0.out.cell (p := ⟨p, 0, none⟩) h.at9.lt).trans d0
  have g1 := (HB0.out.cell (p := ⟨p, 1, none⟩) h.at9.lt).trans d1
  have g2 := (HB0.out.cell (p := ⟨p, 2, none⟩) h.at9.lt).trans d2
  have g3 := (HB0.out.cell (p := ⟨p, 3, none⟩) h.at9.lt).trans d3
  have g4 := (HB0.out.cell (p := ⟨p, 4, none⟩) h.at9.lt).trans d4
  have g5 := (HB0.out.cell (p := ⟨p, 5, none⟩) h.at9.lt).trans d5
  have g6 := (HB0.out.cell (p := ⟨p, 6, none⟩) h.at9.lt).trans d6
  have g7 := (HB0.out.cell (p := ⟨p, 7, none⟩) h.at9.lt).trans d7
  have g8 := (HB0.out.cell (p := ⟨p, 8, none⟩) h.at9.lt).trans d8
  clear h hc
  go_enter Tryz.func14, Tryz.ntmps14
  go_wp2_with fail
  refine F.mono ?_
  rintro e w1 ⟨u1, u2, u3, v1, v2, v3, rfl, so, hb⟩
  have Y1 : Hid (Box9 w1 w.heap.size zeroF) := Y0.out.still hb
  have HB1 : Hid (Below w.heap.size w w1) := HB0.out.trans (hb.mono HB0.out.size)
  have SO : Hid (SetOwn w1 (w.heap.size + 1) u1 u2 u3 v1 v2 v3 s) := so.lower (by simp)
  clear hb Y0 HB0 so F d0 g0 d1 g1 d2 g2 d3 g3 d4 g4 d5 g5 d6 g6 d7 g7 d8 g8
  have r0 : w1.cell? ⟨w.heap.size, 0, none⟩ = some (.slice none 0 0) := Y1.out.cell 0 (by omega)
  have r1 : w1.cell? ⟨w.heap.size, 1, none⟩ = some (.slice none 0 0) := Y1.out.cell 1 (by omega)
  have r2 : w1.cell? ⟨w.heap.size, 2, none⟩ = some (.slice none 0 0) := Y1.out.cell 2 (by omega)
  have r3 : w1.cell? ⟨w.heap.size, 3, none⟩ = some (.int .i64 0) := Y1.out.cell 3 (by omega)
  have r4 : w1.cell? ⟨w.heap.size, 4, none⟩ = some (.int .i64 0) := Y1.out.cell 4 (by omega)
  have r5 : w1.cell? ⟨w.heap.size, 5, none⟩ = some (.int .i64 0) := Y1.out.cell 5 (by omega)
  have r6 : w1.cell? ⟨w.heap.size, 6, none⟩ = some (.int .i64 0) := Y1.out.cell 6 (by omega)
  have r7 : w1.cell? ⟨w.heap.size, 7, none⟩ = some (.int .i64 0) := Y1.out.cell 7 (by omega)
  have r8 : w1.cell? ⟨w.heap.size, 8, none⟩ = some (.int .i64 0) := Y1.out.cell 8 (by omega)
  have z1 : ∀ j, w1.frozen? ⟨w.heap.size, j, none⟩ = false := Y1.out.fz
  have P : Hid (Box9 (put9 w1 w.heap.size (setF u1 u2 u3 v1 v2 v3 s)) w.heap.size (setF u1 u2 u3 v1 v2 v3 s)) := put9_at Y1.out _
  have PB : Hid (But (fun j => j = w.heap.size) w1 (put9 w1 w.heap.size (setF u1 u2 u3 v1 v2 v3 s))) := put9_but _ _ _
  unfold put9 at P PB
  simp only [setF] at P PB
  go_wp2_with fail
  generalize hV : World.setCell _ ⟨w.heap.size, 8, none⟩ _ = V
  rw [hV] at P PB
  have BV : Below w.heap.size w V := HB1.out.trans (PB.out.below HB1.out.size (fun i e => by omega))
  have p0 : V.cell? ⟨w.heap.size, 0, none⟩ = some (.slice u1 s.nA v1) := P.out.cell 0 (by omega)
  have p1 : V.cell? ⟨w.heap.size, 1, none⟩ = some (.slice u2 s.nS v2) := P.out.cell 1 (by omega)
  have p2 : V.cell? ⟨w.heap.size, 2, none⟩ = some (.slice u3 s.nV v3) := P.out.cell 2 (by omega)
  have p3 : V.cell? ⟨w.heap.size, 3, none⟩ = some (.int .i64 (s.P 3)) := P.out.cell 3 (by omega)
  have p4 : V.cell? ⟨w.heap.size, 4, none⟩ = some (.int .i64 (s.P 4)) := P.out.cell 4 (by omega)
  have p5 : V.cell? ⟨w.heap.size, 5, none⟩ = some (.int .i64 (s.P 5)) := P.out.cell 5 (by omega)
  have p6 : V.cell? ⟨w.heap.size, 6, none⟩ = some (.int .i64 (s.P 6)) := P.out.cell 6 (by omega)
  have p7 : V.cell? ⟨w.heap.size, 7, none⟩ = some (.int .i64 (s.P 7)) := P.out.cell 7 (by omega)
  have p8 : V.cell? ⟨w.heap.size, 8, none⟩ = some (.int .i64 (s.P 8)) := P.out.cell 8 (by omega)
  refine bodyPost_ret (v := .agg #[.slice u1 s.nA v1, .slice u2 s.nS v2, .slice u3 s.nV v3, .int .i64 (s.P 3), .int .i64 (s.P 4), .int .i64 (s.P 5), .int .i64 (s.P 6), .int .i64 (s.P 7), .int .i64 (s.P 8)]) (by simp [results, Tryz.results14, go_sem, p0, p1, p2, p3, p4, p5, p6, p7, p8]) rfl ?_
  exact ⟨u1, u2, u3, v1, v2, v3, rfl, (SO.out.kept PB.out (fun i hi => by omega)).lower (by omega), BV⟩
end Go.Proofs.YtfphjhmhiaepiaaGreat.RU
/-
  The statements' Simple and awake of layer 15.
-/
namespace Go.Proofs.YtfphjhmhiaepiaaGreat.RU
open Go.ChangeShapes Go.WideShapes Go.ChangeAt Go.RowKit Go.Lib SM

/-- The numbers of a thing, from place 1 on. -/
def nums (l : List Int) (j : Nat) : Int := l.getD (j - 1) 0
/-- The setup that Simple makes. -/
def simpleS : Stp := { nA := 1, nS := 1, nV := 1, A := fun _ => (⟨#[65]⟩, nums [1000000], false), S := fun _ => (⟨#[88]⟩, nums [10, 5, 1000, 100, 1000, 1000000], false), V := fun _ => (⟨#[86]⟩, nums [10, 0, 100], true), P := fun j => [2, 8, 50, 5, 4, 4].getD (j - 3) 0 }
/-- The setup of nothing. -/
def zeroS : Stp := { nA := 0, nS := 0, nV := 0, A := fun _ => (⟨#[]⟩, fun _ => 0, false), S := fun _ => (⟨#[]⟩, fun _ => 0, false), V := fun _ => (⟨#[]⟩, fun _ => 0, false), P := fun _ => 0 }
theorem simple_names : vldB ⟨#[65]⟩ = true ∧ vldB ⟨#[88]⟩ = true ∧ vldB ⟨#[86]⟩ = true := ⟨by decide, by decide, by decide⟩
theorem fresh_one {N : Nat → ByteArray} (h : vldB (N 0) = true) : ∀ i, i < 1 → freshB N i = true := by
  intro i hi
  obtain rfl : i = 0 := by omega
  unfold freshB
  rw [h]
  rfl
theorem simple_right : rightB simpleS = true := by
  obtain ⟨h1, h2, h3⟩ := simple_names
  have k1 : namesB (fun i => (simpleS.A i).1) simpleS.nA 16 = true := names_good rfl (fresh_one h1)
  have k2 : namesB (fun i => (simpleS.S i).1) simpleS.nS 16 = true := names_good rfl (fresh_one h2)
  have k3 : namesB (fun i => (simpleS.V i).1) simpleS.nV 8 = true := names_good rfl (fresh_one h3)
  unfold rightB nmsB
  rw [k1, k2, k3]
  decide
theorem zero_right : rightB zeroS = false := by
  unfold rightB nmsB
  rw [show namesB (fun i => (zeroS.A i).1) zeroS.nA 16 = false from names_count rfl]
  rfl
theorem zero_in (w : World) : SetIn w none none none 0 0 0 zeroS := ⟨RowA.none w _, RowS.none w _, RowV.none w _⟩
theorem simple_szs : Szs simpleS := ⟨fun i _ => by show (1 : Nat) ≤ _; omega, fun i _ => by show (1 : Nat) ≤ _; omega, fun i _ => by show (1 : Nat) ≤ _; omega⟩
set_option maxRecDepth 100000 in
set_option maxHeartbeats 4000000 in
theorem simple_any (w : World) :
    Calls Tryz.prog 19 #[] w fun e w' => ∃ a1 a2 a3 c1 c2 c3, e = .returned (.agg #[.slice a1 1 c1, .slice a2 1 c2, .slice a3 1 c3, .int .i64 2, .int .i64 8, .int .i64 50, .int .i64 5, .int .i64 4, .int .i64 4]) ∧ SetIn w' a1 a2 a3 c1 c2 c3 simpleS ∧ Below w.heap.size w w' := by
  go_enter Tryz.func19, Tryz.ntmps19
  go_wp2
  refine bodyPost_ret (v := .agg #[.slice (some ⟨w.heap.size + 1, 0, none⟩) 1 1, .slice (some ⟨w.heap.size + 1 + 1, 0, none⟩) 1 1, .slice (some ⟨w.heap.size + 1 + 1 + 1, 0, none⟩) 1 1, .int .i64 2, .int .i64 8, .int .i64 50, .int .i64 5, .int .i64 4, .int .i64 4]) (by simp [results, Tryz.results19, go_sem]) rfl ?_
  refine ⟨_, _, _, _, _, _, rfl, ⟨?_, ?_, ?_⟩, ?_⟩
  · refine ⟨_, _, rfl, Nat.le_refl _, by unfold maxLen; decide, fun i hi => ⟨_, _, rfl, ?_⟩⟩
    obtain rfl : i = 0 := by have : i < 1 := hi; omega
    refine ⟨?_, ?_⟩ <;> rw [World.cell?_alloc_past _ _ _ (by simp), World.cell?_alloc_past _ _ _ (by simp), World.cell?_alloc_at _ _ _ _ (by simp)] <;> rfl
  · refine ⟨_, _, rfl, Nat.le_refl _, by unfold maxLen; decide, fun i hi => ⟨_, _, rfl, ?_⟩⟩
    obtain rfl : i = 0 := by have : i < 1 := hi; omega
    refine ⟨?_, ?_, ?_, ?_, ?_, ?_, ?_⟩ <;> rw [World.cell?_alloc_past _ _ _ (by simp), World.cell?_alloc_at _ _ _ _ (by simp)] <;> rfl
  · refine ⟨_, _, rfl, Nat.le_refl _, by unfold maxLen; decide, fun i hi => ⟨_, _, rfl, ?_⟩⟩
    obtain rfl : i = 0 := by have : i < 1 := hi; omega
    refine ⟨?_, ?_, ?_, ?_, ?_⟩ <;> rw [World.cell?_alloc_at _ _ _ _ (by simp)] <;> rfl
  · exact ((((Below.refl _ _).alloc (Nat.le_refl _) _).alloc (by simp) _).alloc (by simp; omega) _).alloc (by simp; omega) _
set_option maxRecDepth 100000 in
set_option maxHeartbeats 4000000 in
theorem awake15_any (w : World) : Calls Tryz.prog 4 #[] w fun e w' => e = .returned (.bool true) ∧ Below w.heap.size w w' := by
  have F1 := simple_any w
  have F2 : ∀ {W : World} {a1 a2 a3 : Option Addr} {c1 c2 c3 : Nat}, SetIn W a1 a2 a3 c1 c2 c3 simpleS → Calls Tryz.prog 8 #[.agg #[.slice a1 1 c1, .slice a2 1 c2, .slice a3 1 c3, .int .i64 2, .int .i64 8, .int .i64 50, .int .i64 5, .int .i64 4, .int .i64 4]] W fun e w' => ∃ p x1 x2 x3 y1 y2 y3 m1 m2 m3, e = .returned (.tuple #[.pointer (some ⟨p, 0, none⟩), .int .i64 0]) ∧ RulAt W.heap.size w' p x1 x2 x3 y1 y2 y3 m1 m2 m3 simpleS ∧ Below W.heap.size W w' := fun h => new_good h simple_right simple_szs
  have F3 : ∀ {B p : Nat} {W : World} {x1 x2 x3 : Option Addr} {y1 y2 y3 m1 m2 m3 : Nat}, RulAt B W p x1 x2 x3 y1 y2 y3 m1 m2 m3 simpleS → Calls Tryz.prog 12 #[.pointer (some ⟨p, 0, none⟩), .int .i64 0] W fun e w' => e = .returned (.tuple #[.int .i64 990, .int .i64 1010]) ∧ Below W.heap.size W w' := fun h => band_in h 0 (by show 0 < 1; omega) (by decide)
  have F4 : ∀ W : World, Calls Tryz.prog 20 #[.agg #[.slice none 0 0, .slice none 0 0, .slice none 0 0, .int .i64 0, .int .i64 0, .int .i64 0, .int .i64 0, .int .i64 0, .int .i64 0]] W fun e w' => e = .returned (.int .i64 150) ∧ Below W.heap.size W w' := fun W => by
    have := check_any (zero_in W)
    rw [zero_right] at this
    exact this
  go_enter Tryz.func4, Tryz.ntmps4
  go_wp2_with fail
  refine F1.mono ?_
  rintro e w1 ⟨a1, a2, a3, c1, c2, c3, rfl, hI, b1⟩
  have G2 := F2 hI
  have HB1 : Hid (Below w.heap.size w w1) := b1
  clear F1 F2 hI b1
  go_wp2_with fail
  refine G2.mono ?_
  rintro e w2 ⟨p, x1, x2, x3, y1, y2, y3, m1, m2, m3, rfl, hR, b2⟩
  have G3 := F3 hR
  have HB2 : Hid (Below w.heap.size w w2) := HB1.out.trans (b2.mono HB1.out.size)
  clear G2 F3 hR b2
  go_wp2_with fail
  refine G3.mono ?_
  rintro e w3 ⟨rfl, b3⟩
  have HB3 : Hid (Below w.heap.size w w3) := HB2.out.trans (b3.mono HB2.out.size)
  clear G3 b3
  go_wp2_with fail
  refine (F4 _).mono ?_
  rintro e w4 ⟨rfl, b4⟩
  go_wp2_with fail
  go_ret
  exact ⟨rfl, HB3.out.trans (b4.mono HB3.out.size)⟩
end Go.Proofs.YtfphjhmhiaepiaaGreat.RU
