/-
  Contracts of slicer's algorithm, with, out.
-/
import Derived.Test.YtdacfnodihannaaGreatSlBook
import Derived.Test.YtdacfnodihannaaGreatPaPace
import Derived.Test.YtdacfnodihannaaGreatFlStep
import Derived.Test.YtdacfnodihannaaGreatBeStep
namespace Go.Proofs.YtdacfnodihannaaGreat.SL
open Go.ChangeShapes Go.WideShapes Go.ChangeAt Go.RowKit Go.Lib

theorem cur_len {z : List Int} (h : curB z = true) : 1 ≤ z.length ∧ z.length ≤ 64 := by
  unfold curB at h
  simp only [Bool.and_eq_true, decide_eq_true_eq] at h
  exact ⟨h.1, h.2.1⟩
theorem clone_in {w : World} {v : Value} {z : List Int} (h : Row w v z.length fun i => .int .i64 (z.getD i 0)) (h1 : 1 ≤ z.length) (h2 : z.length ≤ 1000000) (w1 : World) (b : Below w.heap.size w w1) :
    Calls Tryz.prog 40 #[v] w1 fun e w' => ∃ v', e = .returned v' ∧ w'.ownsRow w.heap.size 3 1 v' z.length (valsZ z) ∧ Below w.heap.size w w' ∧ Below w1.heap.size w1 w' ∧ w'.ownsRow w1.heap.size 3 1 v' z.length (valsZ z) :=
  (cloneI_any (h.below b) h1 h2).mono fun _ _ ⟨v', e, o, k⟩ => ⟨v', e, own_less o b.size, b.trans (k.mono b.size), k, o⟩
set_option maxHeartbeats 4000000 in
theorem algorithm_any (x : Sl) (G : Good x) (a : Option Addr) (n cap : Nat) (w : World) (hr : x.al = 2 → n = x.z.length ∧ Row w (.slice a n cap) x.z.length fun i => .int .i64 (x.z.getD i 0)) :
    Calls Tryz.prog 21 #[oV x (.slice a n cap)] w fun e w' => ∃ v, e = .returned (alV x v) ∧ (x.al = 2 → w'.ownsRow w.heap.size 3 1 v x.z.length (valsZ x.z)) ∧ Below w.heap.size w w' := by
  by_cases a2 : x.al = 2
  · obtain ⟨rfl, h⟩ := hr a2
    have c := cur_len (G.z2 a2)
    have F := clone_in h c.1 (by omega)
    have ha : ∀ v, alV x v = .iface 65 (.agg #[v]) := fun v => by unfold alV; rw [if_pos a2]
    have g2 : (x.al == 2) = true := beq_iff_eq.2 a2
    simp only [ha]
    clear hr h G c
    go_enter Tryz.func21, Tryz.ntmps21
    go_wp2_with fail
    refine (F _ ((Below.refl _ w).alloc (Nat.le_refl _) _)).mono ?_
    rintro e w1 ⟨v, rfl, ho, hb, _, _⟩
    obtain ⟨a', c', rfl⟩ := own_shape ho
    have R : Hid ((x.al = 2 → w1.ownsRow w.heap.size 3 1 (.slice a' x.z.length c') x.z.length (valsZ x.z)) ∧ Below w.heap.size w w1) := ⟨fun _ => ho, hb⟩
    clear ho hb
    go_wp2_with fail
    go_ret
    exact ⟨_, rfl, R.out⟩
  have g2 : (x.al == 2) = false := beq_false_of_ne a2
  by_cases a3 : x.al = 3
  · have ha : ∀ v, alV x v = .iface 67 (.agg #[.int .i64 x.ra]) := fun v => by unfold alV; rw [if_neg a2, if_pos a3]
    have g3 : (x.al == 3) = true := beq_iff_eq.2 a3
    simp only [ha]
    clear hr G
    go_enter Tryz.func21, Tryz.ntmps21
    go_wp2_with fail
    go_ret
    exact ⟨.slice none 0 0, rfl, fun e => absurd e a2, (Below.refl _ w).alloc (Nat.le_refl _) _⟩
  have g3 : (x.al == 3) = false := beq_false_of_ne a3
  by_cases a4 : x.al = 4
  · have ha : ∀ v, alV x v = .iface 69 (.agg #[.int .i64 x.sh]) := fun v => by unfold alV; rw [if_neg a2, if_neg a3, if_pos a4]
    have g4 : (x.al == 4) = true := beq_iff_eq.2 a4
    simp only [ha]
    clear hr G
    go_enter Tryz.func21, Tryz.ntmps21
    go_wp2_with fail
    go_ret
    exact ⟨.slice none 0 0, rfl, fun e => absurd e a2, (Below.refl _ w).alloc (Nat.le_refl _) _⟩
  have g4 : (x.al == 4) = false := beq_false_of_ne a4
  have ha : ∀ v, alV x v = .iface 71 (.agg #[]) := fun v => by unfold alV; rw [if_neg a2, if_neg a3, if_neg a4]
  simp only [ha]
  clear hr G
  go_enter Tryz.func21, Tryz.ntmps21
  go_wp2_with fail
  go_ret
  exact ⟨.slice none 0 0, rfl, fun e => absurd e a2, (Below.refl _ w).alloc (Nat.le_refl _) _⟩
theorem as_along_partOf (a : Option Addr) (n c : Nat) (w : World) : (Instr.typeAssert (.iface 65 (.agg #[.slice a n c])) 20 67 true).run Tryz.prog w = .ok (.tuple #[.agg #[.int .i64 0], .bool false]) w := by kernel_rfl
theorem as_along_along (a : Option Addr) (n c : Nat) (w : World) : (Instr.typeAssert (.iface 65 (.agg #[.slice a n c])) 20 65 true).run Tryz.prog w = .ok (.tuple #[.agg #[.slice a n c], .bool true]) w := by kernel_rfl
theorem as_along_iceberg (a : Option Addr) (n c : Nat) (w : World) : (Instr.typeAssert (.iface 65 (.agg #[.slice a n c])) 20 69 true).run Tryz.prog w = .ok (.tuple #[.agg #[.int .i64 0], .bool false]) w := by kernel_rfl
theorem as_partOf_partOf (n : Int) (w : World) : (Instr.typeAssert (.iface 67 (.agg #[.int .i64 n])) 20 67 true).run Tryz.prog w = .ok (.tuple #[.agg #[.int .i64 n], .bool true]) w := by kernel_rfl
theorem as_partOf_along (n : Int) (w : World) : (Instr.typeAssert (.iface 67 (.agg #[.int .i64 n])) 20 65 true).run Tryz.prog w = .ok (.tuple #[.agg #[.slice none 0 0], .bool false]) w := by kernel_rfl
theorem as_partOf_iceberg (n : Int) (w : World) : (Instr.typeAssert (.iface 67 (.agg #[.int .i64 n])) 20 69 true).run Tryz.prog w = .ok (.tuple #[.agg #[.int .i64 0], .bool false]) w := by kernel_rfl
theorem as_iceberg_partOf (n : Int) (w : World) : (Instr.typeAssert (.iface 69 (.agg #[.int .i64 n])) 20 67 true).run Tryz.prog w = .ok (.tuple #[.agg #[.int .i64 0], .bool false]) w := by kernel_rfl
theorem as_iceberg_along (n : Int) (w : World) : (Instr.typeAssert (.iface 69 (.agg #[.int .i64 n])) 20 65 true).run Tryz.prog w = .ok (.tuple #[.agg #[.slice none 0 0], .bool false]) w := by kernel_rfl
theorem as_iceberg_iceberg (n : Int) (w : World) : (Instr.typeAssert (.iface 69 (.agg #[.int .i64 n])) 20 69 true).run Tryz.prog w = .ok (.tuple #[.agg #[.int .i64 n], .bool true]) w := by kernel_rfl
theorem as_evenly_partOf  (w : World) : (Instr.typeAssert (.iface 71 (.agg #[])) 20 67 true).run Tryz.prog w = .ok (.tuple #[.agg #[.int .i64 0], .bool false]) w := by kernel_rfl
theorem as_evenly_along  (w : World) : (Instr.typeAssert (.iface 71 (.agg #[])) 20 65 true).run Tryz.prog w = .ok (.tuple #[.agg #[.slice none 0 0], .bool false]) w := by kernel_rfl
theorem as_evenly_iceberg  (w : World) : (Instr.typeAssert (.iface 71 (.agg #[])) 20 69 true).run Tryz.prog w = .ok (.tuple #[.agg #[.int .i64 0], .bool false]) w := by kernel_rfl
/-- An order's cells. -/
def oF (x : Sl) (v : Value) : Nat → Value
  | 0 => .int .i64 x.k
  | 1 => .string x.i
  | 2 => .string x.t
  | 3 => .string x.c
  | 4 => .string x.s
  | 5 => .int .i64 x.sd
  | 6 => .int .i64 x.q
  | 7 => .int .i64 x.p
  | 8 => .int .i64 x.al
  | 9 => .int .i64 x.st
  | 10 => .int .i64 x.en
  | 11 => .int .i64 x.ra
  | 12 => .int .i64 x.sh
  | _ => v
/-- Block b holds the fourteen values that f tells, and may be written. -/
structure Box (w : World) (b : Nat) (f : Nat → Value) : Prop where
  cell : ∀ j, j < 14 → w.cell? ⟨b, j, none⟩ = some (f j)
  fz : ∀ j, w.frozen? ⟨b, j, none⟩ = false
  lt : b < w.heap.size
theorem Box.kept {w w' : World} {b : Nat} {f : Nat → Value} {S : Nat → Prop} (h : Box w b f) (x : But S w w') (hS : ¬ S b) : Box w' b f :=
  ⟨fun j hj => (x.cell h.lt hS).trans (h.cell j hj), fun j => (x.frozen h.lt hS).trans (h.fz j), Nat.lt_of_lt_of_le h.lt x.size⟩
theorem Box.below {w w' : World} {b : Nat} {f : Nat → Value} (h : Box w b f) (x : Below w.heap.size w w') : Box w' b f := h.kept (S := fun _ => False) (But.of_below x) id
theorem Box.set {w : World} {b : Nat} {f : Nat → Value} (h : Box w b f) {i : Nat} (hi : i < 14) (v : Value) : Box (w.setCell ⟨b, i, none⟩ v) b (upd f i v) := by
  refine ⟨fun j hj => ?_, fun j => by rw [World.frozen?_setCell]; exact h.fz j, by simpa using h.lt⟩
  by_cases e : j = i
  · subst e
    rw [upd_same]
    exact World.cell?_setCell_same _ _ _ (h.cell j hj)
  · rw [upd_other _ _ e, World.cell?_setCell_other _ _ _ _ (by simp only [ne_eq, Addr.mk.injEq]; omega)]
    exact h.cell j hj
theorem Box.same {w : World} {b : Nat} {f g : Nat → Value} (h : Box w b f) (e : ∀ j, j < 14 → f j = g j) : Box w b g :=
  ⟨fun j hj => by rw [← e j hj]; exact h.cell j hj, h.fz, h.lt⟩
/-- The fourteen values written. -/
def put14 (w : World) (b : Nat) (g : Nat → Value) : World := (((((((((((((w.setCell ⟨b, 0, none⟩ (g 0)).setCell ⟨b, 1, none⟩ (g 1)).setCell ⟨b, 2, none⟩ (g 2)).setCell ⟨b, 3, none⟩ (g 3)).setCell ⟨b, 4, none⟩ (g 4)).setCell ⟨b, 5, none⟩ (g 5)).setCell ⟨b, 6, none⟩ (g 6)).setCell ⟨b, 7, none⟩ (g 7)).setCell ⟨b, 8, none⟩ (g 8)).setCell ⟨b, 9, none⟩ (g 9)).setCell ⟨b, 10, none⟩ (g 10)).setCell ⟨b, 11, none⟩ (g 11)).setCell ⟨b, 12, none⟩ (g 12)).setCell ⟨b, 13, none⟩ (g 13)
theorem Box.put {w : World} {b : Nat} {f : Nat → Value} (h : Box w b f) (g : Nat → Value) : Box (put14 w b g) b g ∧ But (fun k => k = b) w (put14 w b g) := by
  refine ⟨Box.same (((((((((((((((h.set (i := 0) (by omega) (g 0)).set (i := 1) (by omega) (g 1)).set (i := 2) (by omega) (g 2)).set (i := 3) (by omega) (g 3)).set (i := 4) (by omega) (g 4)).set (i := 5) (by omega) (g 5)).set (i := 6) (by omega) (g 6)).set (i := 7) (by omega) (g 7)).set (i := 8) (by omega) (g 8)).set (i := 9) (by omega) (g 9)).set (i := 10) (by omega) (g 10)).set (i := 11) (by omega) (g 11)).set (i := 12) (by omega) (g 12)).set (i := 13) (by omega) (g 13))) (fun j hj => ?_), ((((((((((((((But.refl (fun k => k = b) w).setCell _ _ _ (fun _ => rfl)).setCell _ _ _ (fun _ => rfl)).setCell _ _ _ (fun _ => rfl)).setCell _ _ _ (fun _ => rfl)).setCell _ _ _ (fun _ => rfl)).setCell _ _ _ (fun _ => rfl)).setCell _ _ _ (fun _ => rfl)).setCell _ _ _ (fun _ => rfl)).setCell _ _ _ (fun _ => rfl)).setCell _ _ _ (fun _ => rfl)).setCell _ _ _ (fun _ => rfl)).setCell _ _ _ (fun _ => rfl)).setCell _ _ _ (fun _ => rfl)).setCell _ _ _ (fun _ => rfl)⟩
  rcases (show j = 0 ∨ j = 1 ∨ j = 2 ∨ j = 3 ∨ j = 4 ∨ j = 5 ∨ j = 6 ∨ j = 7 ∨ j = 8 ∨ j = 9 ∨ j = 10 ∨ j = 11 ∨ j = 12 ∨ j = 13 by omega) with rfl | rfl | rfl | rfl | rfl | rfl | rfl | rfl | rfl | rfl | rfl | rfl | rfl | rfl <;> simp [upd]
theorem box_new (w : World) (x : Sl) (v : Value) (T : TypeId) : Box (w.alloc (.cells #[.int .i64 x.k, .string x.i, .string x.t, .string x.c, .string x.s, .int .i64 x.sd, .int .i64 x.q, .int .i64 x.p, .int .i64 x.al, .int .i64 x.st, .int .i64 x.en, .int .i64 x.ra, .int .i64 x.sh, v] T)) w.heap.size (oF x v) := by
  refine ⟨fun j hj => ?_, fun j => by simp, by simp⟩
  rcases (show j = 0 ∨ j = 1 ∨ j = 2 ∨ j = 3 ∨ j = 4 ∨ j = 5 ∨ j = 6 ∨ j = 7 ∨ j = 8 ∨ j = 9 ∨ j = 10 ∨ j = 11 ∨ j = 12 ∨ j = 13 by omega) with rfl | rfl | rfl | rfl | rfl | rfl | rfl | rfl | rfl | rfl | rfl | rfl | rfl | rfl <;> simp [oF]
/-- The order that is none. -/
def none14 : Nat → Value
  | 0 | 5 | 6 | 7 | 8 | 9 | 10 | 11 | 12 => .int .i64 0
  | 1 | 2 | 3 | 4 => .string ⟨#[]⟩
  | _ => .slice none 0 0
theorem box_none (w : World) (T : TypeId) : Box (w.alloc (.cells #[.int .i64 0, .string ⟨#[]⟩, .string ⟨#[]⟩, .string ⟨#[]⟩, .string ⟨#[]⟩, .int .i64 0, .int .i64 0, .int .i64 0, .int .i64 0, .int .i64 0, .int .i64 0, .int .i64 0, .int .i64 0, .slice none 0 0] T)) w.heap.size none14 := by
  refine ⟨fun j hj => ?_, fun j => by simp, by simp⟩
  rcases (show j = 0 ∨ j = 1 ∨ j = 2 ∨ j = 3 ∨ j = 4 ∨ j = 5 ∨ j = 6 ∨ j = 7 ∨ j = 8 ∨ j = 9 ∨ j = 10 ∨ j = 11 ∨ j = 12 ∨ j = 13 by omega) with rfl | rfl | rfl | rfl | rfl | rfl | rfl | rfl | rfl | rfl | rfl | rfl | rfl | rfl <;> simp [none14]
set_option maxRecDepth 100000 in
set_option maxHeartbeats 8000000 in
theorem with_along (k : Int) (i t c s : ByteArray) (sd q p st en : Int) (z : List Int) (v : Value) (w : World) (h : Row w v z.length fun i => .int .i64 (z.getD i 0)) (h1 : 1 ≤ z.length) (h2 : z.length ≤ 1000000) :
    Calls Tryz.prog 33 #[.agg #[.int .i64 k, .string i, .string t, .string c, .string s, .int .i64 sd, .int .i64 q, .int .i64 p, .int .i64 2, .int .i64 st, .int .i64 en, .int .i64 0, .int .i64 0, .slice none 0 0], .iface 65 (.agg #[v])] w fun e w' => ∃ a cap, e = .returned (.agg #[.int .i64 k, .string i, .string t, .string c, .string s, .int .i64 sd, .int .i64 q, .int .i64 p, .int .i64 2, .int .i64 st, .int .i64 en, .int .i64 0, .int .i64 0, .slice a z.length cap]) ∧ w'.ownsRow w.heap.size 3 1 (.slice a z.length cap) z.length (valsZ z) ∧ Below w.heap.size w w' := by
  have F := clone_in h h1 h2
  have X0 : ∀ cv T, Hid (Box (w.alloc (.cells #[.int .i64 k, .string i, .string t, .string c, .string s, .int .i64 sd, .int .i64 q, .int .i64 p, .int .i64 2, .int .i64 st, .int .i64 en, .int .i64 0, .int .i64 0, cv] T)) w.heap.size (oF ⟨k, i, t, c, s, sd, q, p, 2, st, en, 0, 0, z, 0⟩ (cv))) := fun cv T => box_new w ⟨k, i, t, c, s, sd, q, p, 2, st, en, 0, 0, z, 0⟩ cv T
  obtain ⟨a, cap, rfl, _⟩ := id h
  have A0 := as_along_partOf a z.length cap
  have A1 := as_along_along a z.length cap
  have A2 := as_along_iceberg a z.length cap
  clear h
  go_enter Tryz.func33, Tryz.ntmps33
  go_wp2_with fail
  refine (F _ ((((Below.refl _ w).alloc (Nat.le_refl _) _).alloc (by simp) _).alloc (by simp; omega) _)).mono ?_
  rintro e w1 ⟨v, rfl, ho, hb, k1, hk⟩
  obtain ⟨a', c', rfl⟩ := own_shape ho
  have Q1 : Hid (Box w1 w.heap.size (oF ⟨k, i, t, c, s, sd, q, p, 2, st, en, 0, 0, z, 0⟩ (.slice none 0 0))) := (((X0 _ _).out.below ((Below.refl _ _).alloc (Nat.le_refl _) _)).below ((Below.refl _ _).alloc (Nat.le_refl _) _)).below k1
  have Y1 : Hid (Box w1 (w.heap.size + 1) none14) := by
    have b := box_none (w.alloc (.cells #[.int .i64 k, .string i, .string t, .string c, .string s, .int .i64 sd, .int .i64 q, .int .i64 p, .int .i64 2, .int .i64 st, .int .i64 en, .int .i64 0, .int .i64 0, .slice none 0 0] 24)) 24
    rw [World.size_alloc] at b
    exact (b.below ((Below.refl _ _).alloc (Nat.le_refl _) _)).below k1
  have s1 : w.heap.size + 3 ≤ w1.heap.size := by have := k1.size; simp only [World.size_alloc] at this; omega
  have gb : ∀ g, Value.ownBlock (.slice a' z.length c') = some g → w.heap.size + 3 ≤ g := fun g hg => by have := (hk.lt g hg).1; simp only [World.size_alloc] at this; omega
  have d0 : w1.cell? ⟨w.heap.size, 0, none⟩ = some (.int .i64 k) := Q1.out.cell 0 (by omega)
  have d1 : w1.cell? ⟨w.heap.size, 1, none⟩ = some (.string i) := Q1.out.cell 1 (by omega)
  have d2 : w1.cell? ⟨w.heap.size, 2, none⟩ = some (.string t) := Q1.out.cell 2 (by omega)
  have d3 : w1.cell? ⟨w.heap.size, 3, none⟩ = some (.string c) := Q1.out.cell 3 (by omega)
  have d4 : w1.cell? ⟨w.heap.size, 4, none⟩ = some (.string s) := Q1.out.cell 4 (by omega)
  have d5 : w1.cell? ⟨w.heap.size, 5, none⟩ = some (.int .i64 sd) := Q1.out.cell 5 (by omega)
  have d6 : w1.cell? ⟨w.heap.size, 6, none⟩ = some (.int .i64 q) := Q1.out.cell 6 (by omega)
  have d7 : w1.cell? ⟨w.heap.size, 7, none⟩ = some (.int .i64 p) := Q1.out.cell 7 (by omega)
  have d8 : w1.cell? ⟨w.heap.size, 8, none⟩ = some (.int .i64 2) := Q1.out.cell 8 (by omega)
  have d9 : w1.cell? ⟨w.heap.size, 9, none⟩ = some (.int .i64 st) := Q1.out.cell 9 (by omega)
  have d10 : w1.cell? ⟨w.heap.size, 10, none⟩ = some (.int .i64 en) := Q1.out.cell 10 (by omega)
  have d11 : w1.cell? ⟨w.heap.size, 11, none⟩ = some (.int .i64 0) := Q1.out.cell 11 (by omega)
  have d12 : w1.cell? ⟨w.heap.size, 12, none⟩ = some (.int .i64 0) := Q1.out.cell 12 (by omega)
  have d13 : w1.cell? ⟨w.heap.size, 13, none⟩ = some (.slice none 0 0) := Q1.out.cell 13 (by omega)
  have z0 : w1.frozen? ⟨w.heap.size, 13, none⟩ = false := Q1.out.fz 13
  have U1 : Hid (But (fun k => k = w.heap.size) w1 (w1.setCell ⟨w.heap.size, 13, none⟩ (.slice a' z.length c'))) := (But.refl _ _).setCell _ _ _ (fun _ => rfl)
  have YY : Hid (Box (w1.setCell ⟨w.heap.size, 13, none⟩ (.slice a' z.length c')) (w.heap.size + 1) none14) := Y1.out.kept U1.out (by omega)
  have PP : Hid (Box (put14 (w1.setCell ⟨w.heap.size, 13, none⟩ (.slice a' z.length c')) (w.heap.size + 1) (oF ⟨k, i, t, c, s, sd, q, p, 2, st, en, 0, 0, z, 0⟩ (.slice a' z.length c'))) (w.heap.size + 1) (oF ⟨k, i, t, c, s, sd, q, p, 2, st, en, 0, 0, z, 0⟩ (.slice a' z.length c')) ∧ But (fun k => k = w.heap.size + 1) (w1.setCell ⟨w.heap.size, 13, none⟩ (.slice a' z.length c')) (put14 (w1.setCell ⟨w.heap.size, 13, none⟩ (.slice a' z.length c')) (w.heap.size + 1) (oF ⟨k, i, t, c, s, sd, q, p, 2, st, en, 0, 0, z, 0⟩ (.slice a' z.length c')))) := YY.out.put _
  have HB : Hid (Below w.heap.size w (w1.setCell ⟨w.heap.size, 13, none⟩ (.slice a' z.length c'))) := hb.trans (U1.out.below (by omega) (fun i e => by omega))
  have R1 : Hid ((w1.setCell ⟨w.heap.size, 13, none⟩ (.slice a' z.length c')).ownsRow w.heap.size 3 1 (.slice a' z.length c') z.length (valsZ z)) := own_kept ho U1.out (fun g hg e => by have := gb g hg; omega)
  have r0 : w1.cell? ⟨w.heap.size + 1, 0, none⟩ = some (.int .i64 0) := Y1.out.cell 0 (by omega)
  have r1 : w1.cell? ⟨w.heap.size + 1, 1, none⟩ = some (.string ⟨#[]⟩) := Y1.out.cell 1 (by omega)
  have r2 : w1.cell? ⟨w.heap.size + 1, 2, none⟩ = some (.string ⟨#[]⟩) := Y1.out.cell 2 (by omega)
  have r3 : w1.cell? ⟨w.heap.size + 1, 3, none⟩ = some (.string ⟨#[]⟩) := Y1.out.cell 3 (by omega)
  have r4 : w1.cell? ⟨w.heap.size + 1, 4, none⟩ = some (.string ⟨#[]⟩) := Y1.out.cell 4 (by omega)
  have r5 : w1.cell? ⟨w.heap.size + 1, 5, none⟩ = some (.int .i64 0) := Y1.out.cell 5 (by omega)
  have r6 : w1.cell? ⟨w.heap.size + 1, 6, none⟩ = some (.int .i64 0) := Y1.out.cell 6 (by omega)
  have r7 : w1.cell? ⟨w.heap.size + 1, 7, none⟩ = some (.int .i64 0) := Y1.out.cell 7 (by omega)
  have r8 : w1.cell? ⟨w.heap.size + 1, 8, none⟩ = some (.int .i64 0) := Y1.out.cell 8 (by omega)
  have r9 : w1.cell? ⟨w.heap.size + 1, 9, none⟩ = some (.int .i64 0) := Y1.out.cell 9 (by omega)
  have r10 : w1.cell? ⟨w.heap.size + 1, 10, none⟩ = some (.int .i64 0) := Y1.out.cell 10 (by omega)
  have r11 : w1.cell? ⟨w.heap.size + 1, 11, none⟩ = some (.int .i64 0) := Y1.out.cell 11 (by omega)
  have r12 : w1.cell? ⟨w.heap.size + 1, 12, none⟩ = some (.int .i64 0) := Y1.out.cell 12 (by omega)
  have r13 : w1.cell? ⟨w.heap.size + 1, 13, none⟩ = some (.slice none 0 0) := Y1.out.cell 13 (by omega)
  have z1 : ∀ j, w1.frozen? ⟨w.heap.size + 1, j, none⟩ = false := Y1.out.fz
  unfold put14 at PP
  simp only [oF] at PP
  clear X0 F hb ho k1 Q1 Y1 U1 YY
  go_wp2_with fail
  generalize hV : World.setCell _ ⟨w.heap.size + 1, 13, none⟩ _ = V
  rw [hV] at PP
  have BV : Below w.heap.size w V := HB.out.trans (PP.out.2.below HB.out.size (fun i e => by omega))
  have p0 : V.cell? ⟨w.heap.size + 1, 0, none⟩ = some (.int .i64 k) := PP.out.1.cell 0 (by omega)
  have p1 : V.cell? ⟨w.heap.size + 1, 1, none⟩ = some (.string i) := PP.out.1.cell 1 (by omega)
  have p2 : V.cell? ⟨w.heap.size + 1, 2, none⟩ = some (.string t) := PP.out.1.cell 2 (by omega)
  have p3 : V.cell? ⟨w.heap.size + 1, 3, none⟩ = some (.string c) := PP.out.1.cell 3 (by omega)
  have p4 : V.cell? ⟨w.heap.size + 1, 4, none⟩ = some (.string s) := PP.out.1.cell 4 (by omega)
  have p5 : V.cell? ⟨w.heap.size + 1, 5, none⟩ = some (.int .i64 sd) := PP.out.1.cell 5 (by omega)
  have p6 : V.cell? ⟨w.heap.size + 1, 6, none⟩ = some (.int .i64 q) := PP.out.1.cell 6 (by omega)
  have p7 : V.cell? ⟨w.heap.size + 1, 7, none⟩ = some (.int .i64 p) := PP.out.1.cell 7 (by omega)
  have p8 : V.cell? ⟨w.heap.size + 1, 8, none⟩ = some (.int .i64 2) := PP.out.1.cell 8 (by omega)
  have p9 : V.cell? ⟨w.heap.size + 1, 9, none⟩ = some (.int .i64 st) := PP.out.1.cell 9 (by omega)
  have p10 : V.cell? ⟨w.heap.size + 1, 10, none⟩ = some (.int .i64 en) := PP.out.1.cell 10 (by omega)
  have p11 : V.cell? ⟨w.heap.size + 1, 11, none⟩ = some (.int .i64 0) := PP.out.1.cell 11 (by omega)
  have p12 : V.cell? ⟨w.heap.size + 1, 12, none⟩ = some (.int .i64 0) := PP.out.1.cell 12 (by omega)
  have p13 : V.cell? ⟨w.heap.size + 1, 13, none⟩ = some (.slice a' z.length c') := PP.out.1.cell 13 (by omega)
  refine bodyPost_ret (v := .agg #[.int .i64 k, .string i, .string t, .string c, .string s, .int .i64 sd, .int .i64 q, .int .i64 p, .int .i64 2, .int .i64 st, .int .i64 en, .int .i64 0, .int .i64 0, .slice a' z.length c']) (by simp [results, Tryz.results33, go_sem, p0, p1, p2, p3, p4, p5, p6, p7, p8, p9, p10, p11, p12, p13]) rfl ⟨a', c', rfl, ?_, BV⟩
  exact own_kept R1.out PP.out.2 (fun g hg e => by have := gb g hg; omega)
set_option maxRecDepth 100000 in
set_option maxHeartbeats 8000000 in
theorem with_any (x : Sl) (G : Good x) (v : Value) (w : World) (hr : x.al = 2 → Row w v x.z.length fun i => .int .i64 (x.z.getD i 0)) :
    Calls Tryz.prog 33 #[bV x, alV x v] w fun e w' => ∃ a cap, e = .returned (oV x (.slice a x.z.length cap)) ∧ w'.ownsRow w.heap.size 3 1 (.slice a x.z.length cap) x.z.length (valsZ x.z) ∧ Below w.heap.size w w' := by
  by_cases a2 : x.al = 2
  · obtain ⟨a, cap, rfl, _⟩ := id (hr a2)
    have ha : alV x (.slice a x.z.length cap) = .iface 65 (.agg #[.slice a x.z.length cap]) := by unfold alV; rw [if_pos a2]
    have c := cur_len (G.z2 a2)
    have F := clone_in (hr a2) c.1 (by omega)
    have r0 := G.r0 (by omega)
    have h0 := G.h0 (by omega)
    have hb : bV x = Value.agg #[.int .i64 x.k, .string x.i, .string x.t, .string x.c, .string x.s, .int .i64 x.sd, .int .i64 x.q, .int .i64 x.p, .int .i64 2, .int .i64 x.st, .int .i64 x.en, .int .i64 0, .int .i64 0, .slice none 0 0] := by show Value.agg #[.int .i64 x.k, .string x.i, .string x.t, .string x.c, .string x.s, .int .i64 x.sd, .int .i64 x.q, .int .i64 x.p, .int .i64 x.al, .int .i64 x.st, .int .i64 x.en, .int .i64 0, .int .i64 0, .slice none 0 0] = _; rw [a2]
    have ho : ∀ v, oV x v = Value.agg #[.int .i64 x.k, .string x.i, .string x.t, .string x.c, .string x.s, .int .i64 x.sd, .int .i64 x.q, .int .i64 x.p, .int .i64 2, .int .i64 x.st, .int .i64 x.en, .int .i64 0, .int .i64 0, v] := fun v => by show Value.agg #[.int .i64 x.k, .string x.i, .string x.t, .string x.c, .string x.s, .int .i64 x.sd, .int .i64 x.q, .int .i64 x.p, .int .i64 x.al, .int .i64 x.st, .int .i64 x.en, .int .i64 x.ra, .int .i64 x.sh, v] = _; rw [a2, r0, h0]
    rw [ha, hb]
    simp only [ho]
    exact with_along x.k x.i x.t x.c x.s x.sd x.q x.p x.st x.en x.z (.slice a x.z.length cap) w (hr a2) c.1 (by omega)
  have hz : x.z = [] := G.z0 a2
  have hrow : ∀ (w' : World) (B : Nat), w'.ownsRow B 3 1 (.slice none x.z.length 0) x.z.length (valsZ x.z) := fun w' B => by
    rw [hz]
    exact ⟨rfl, .inl ⟨rfl, rfl⟩⟩
  by_cases a3 : x.al = 3
  · skip
    have ha : alV x v = .iface 67 (.agg #[.int .i64 x.ra]) := by unfold alV; rw [if_neg a2, if_pos a3]
    have h0 := G.h0 (by omega)
    have hb : bV x = Value.agg #[.int .i64 x.k, .string x.i, .string x.t, .string x.c, .string x.s, .int .i64 x.sd, .int .i64 x.q, .int .i64 x.p, .int .i64 3, .int .i64 x.st, .int .i64 x.en, .int .i64 0, .int .i64 0, .slice none 0 0] := by show Value.agg #[.int .i64 x.k, .string x.i, .string x.t, .string x.c, .string x.s, .int .i64 x.sd, .int .i64 x.q, .int .i64 x.p, .int .i64 x.al, .int .i64 x.st, .int .i64 x.en, .int .i64 0, .int .i64 0, .slice none 0 0] = _; rw [a3]
    have hv : Value.agg #[.int .i64 x.k, .string x.i, .string x.t, .string x.c, .string x.s, .int .i64 x.sd, .int .i64 x.q, .int .i64 x.p, .int .i64 3, .int .i64 x.st, .int .i64 x.en, .int .i64 x.ra, .int .i64 0, .slice none 0 0] = oV x (.slice none x.z.length 0) := by show _ = Value.agg #[.int .i64 x.k, .string x.i, .string x.t, .string x.c, .string x.s, .int .i64 x.sd, .int .i64 x.q, .int .i64 x.p, .int .i64 x.al, .int .i64 x.st, .int .i64 x.en, .int .i64 x.ra, .int .i64 x.sh, .slice none x.z.length 0]; rw [a3, h0, hz]; rfl
    have A0 := as_partOf_partOf x.ra
    have A1 := as_partOf_along x.ra
    have A2 := as_partOf_iceberg x.ra
    rw [ha, hb]
    clear hr G ha hb
    go_enter Tryz.func33, Tryz.ntmps33
    go_wp2_with fail
    refine bodyPost_ret (v := Value.agg #[.int .i64 x.k, .string x.i, .string x.t, .string x.c, .string x.s, .int .i64 x.sd, .int .i64 x.q, .int .i64 x.p, .int .i64 3, .int .i64 x.st, .int .i64 x.en, .int .i64 x.ra, .int .i64 0, .slice none 0 0]) (by simp [results, Tryz.results33, go_sem]) rfl ⟨none, 0, by rw [hv], hrow _ _, ?_⟩
    exact (((Below.refl _ w).alloc (Nat.le_refl _) _).alloc (by simp) _).alloc (by simp; omega) _
  by_cases a4 : x.al = 4
  · skip
    have ha : alV x v = .iface 69 (.agg #[.int .i64 x.sh]) := by unfold alV; rw [if_neg a2, if_neg a3, if_pos a4]
    have r0 := G.r0 (by omega)
    have hb : bV x = Value.agg #[.int .i64 x.k, .string x.i, .string x.t, .string x.c, .string x.s, .int .i64 x.sd, .int .i64 x.q, .int .i64 x.p, .int .i64 4, .int .i64 x.st, .int .i64 x.en, .int .i64 0, .int .i64 0, .slice none 0 0] := by show Value.agg #[.int .i64 x.k, .string x.i, .string x.t, .string x.c, .string x.s, .int .i64 x.sd, .int .i64 x.q, .int .i64 x.p, .int .i64 x.al, .int .i64 x.st, .int .i64 x.en, .int .i64 0, .int .i64 0, .slice none 0 0] = _; rw [a4]
    have hv : Value.agg #[.int .i64 x.k, .string x.i, .string x.t, .string x.c, .string x.s, .int .i64 x.sd, .int .i64 x.q, .int .i64 x.p, .int .i64 4, .int .i64 x.st, .int .i64 x.en, .int .i64 0, .int .i64 x.sh, .slice none 0 0] = oV x (.slice none x.z.length 0) := by show _ = Value.agg #[.int .i64 x.k, .string x.i, .string x.t, .string x.c, .string x.s, .int .i64 x.sd, .int .i64 x.q, .int .i64 x.p, .int .i64 x.al, .int .i64 x.st, .int .i64 x.en, .int .i64 x.ra, .int .i64 x.sh, .slice none x.z.length 0]; rw [a4, r0, hz]; rfl
    have A0 := as_iceberg_partOf x.sh
    have A1 := as_iceberg_along x.sh
    have A2 := as_iceberg_iceberg x.sh
    rw [ha, hb]
    clear hr G ha hb
    go_enter Tryz.func33, Tryz.ntmps33
    go_wp2_with fail
    refine bodyPost_ret (v := Value.agg #[.int .i64 x.k, .string x.i, .string x.t, .string x.c, .string x.s, .int .i64 x.sd, .int .i64 x.q, .int .i64 x.p, .int .i64 4, .int .i64 x.st, .int .i64 x.en, .int .i64 0, .int .i64 x.sh, .slice none 0 0]) (by simp [results, Tryz.results33, go_sem]) rfl ⟨none, 0, by rw [hv], hrow _ _, ?_⟩
    exact (((Below.refl _ w).alloc (Nat.le_refl _) _).alloc (by simp) _).alloc (by simp; omega) _
  have a1 : x.al = 1 := by rcases G.al with h | h | h | h <;> omega
  have ha : alV x v = .iface 71 (.agg #[]) := by unfold alV; rw [if_neg a2, if_neg a3, if_neg a4]
  have r0 := G.r0 (by omega)
  have h0 := G.h0 (by omega)
  have hb : bV x = Value.agg #[.int .i64 x.k, .string x.i, .string x.t, .string x.c, .string x.s, .int .i64 x.sd, .int .i64 x.q, .int .i64 x.p, .int .i64 1, .int .i64 x.st, .int .i64 x.en, .int .i64 0, .int .i64 0, .slice none 0 0] := by show Value.agg #[.int .i64 x.k, .string x.i, .string x.t, .string x.c, .string x.s, .int .i64 x.sd, .int .i64 x.q, .int .i64 x.p, .int .i64 x.al, .int .i64 x.st, .int .i64 x.en, .int .i64 0, .int .i64 0, .slice none 0 0] = _; rw [a1]
  have hv : Value.agg #[.int .i64 x.k, .string x.i, .string x.t, .string x.c, .string x.s, .int .i64 x.sd, .int .i64 x.q, .int .i64 x.p, .int .i64 1, .int .i64 x.st, .int .i64 x.en, .int .i64 0, .int .i64 0, .slice none 0 0] = oV x (.slice none x.z.length 0) := by show _ = Value.agg #[.int .i64 x.k, .string x.i, .string x.t, .string x.c, .string x.s, .int .i64 x.sd, .int .i64 x.q, .int .i64 x.p, .int .i64 x.al, .int .i64 x.st, .int .i64 x.en, .int .i64 x.ra, .int .i64 x.sh, .slice none x.z.length 0]; rw [a1, r0, h0, hz]; rfl
  have A0 := as_evenly_partOf
  have A1 := as_evenly_along
  have A2 := as_evenly_iceberg
  rw [ha, hb]
  clear hr G ha hb
  go_enter Tryz.func33, Tryz.ntmps33
  go_wp2_with fail
  refine bodyPost_ret (v := Value.agg #[.int .i64 x.k, .string x.i, .string x.t, .string x.c, .string x.s, .int .i64 x.sd, .int .i64 x.q, .int .i64 x.p, .int .i64 1, .int .i64 x.st, .int .i64 x.en, .int .i64 0, .int .i64 0, .slice none 0 0]) (by simp [results, Tryz.results33, go_sem]) rfl ⟨none, 0, by rw [hv], hrow _ _, ?_⟩
  exact ((Below.refl _ w).alloc (Nat.le_refl _) _).alloc (by simp) _
end Go.Proofs.YtdacfnodihannaaGreat.SL
