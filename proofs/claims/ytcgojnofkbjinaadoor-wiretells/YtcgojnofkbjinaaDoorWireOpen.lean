/-
  The contract of wire's Open.
-/
import Derived.Test.YtcgojnofkbjinaaDoorWireCatch
namespace Go.Proofs.YtcgojnofkbjinaaDoor
open Go.ChangeShapes Go.WideShapes Go.ChangeAt Go.RowKit Go.Lib

/-- The world in which the cursor sets out: three results, a cursor. -/
abbrev setOut (w : World) (s : ByteArray) : World := (((w.alloc (.cells #[.string ⟨#[]⟩] 9)).alloc (.cells #[.int .i64 0] 3)).alloc (.cells #[.int .i64 0] 26)).alloc (.cells #[.string s, .int .i64 0] 49)
theorem setOut_below (w : World) (s : ByteArray) : Below w.heap.size w (setOut w s) :=
  ((((Below.refl w.heap.size w).alloc (Nat.le_refl _) _).alloc (by simp) _).alloc (by simp; omega) _).alloc (by simp; omega) _
theorem setOut_cur (w : World) (s : ByteArray) : Cur (setOut w s) (w.heap.size + 3) s 0 := by
  refine ⟨?_, ?_, ?_⟩ <;> simp [go_sem]
/-- The three results lie there, and may be written. -/
structure Thr (w : World) (n : Nat) (a : ByteArray) (k : Nat) (e : Nat) : Prop where
  c0 : w.cell? ⟨n, 0, none⟩ = some (.string a)
  c1 : w.cell? ⟨n + 1, 0, none⟩ = some (.int .i64 (k : Int))
  c2 : w.cell? ⟨n + 2, 0, none⟩ = some (.int .i64 (e : Int))
  f0 : w.frozen? ⟨n, 0, none⟩ = false
  f1 : w.frozen? ⟨n + 1, 0, none⟩ = false
  f2 : w.frozen? ⟨n + 2, 0, none⟩ = false
theorem setOut_three (w : World) (s : ByteArray) : Thr (setOut w s) w.heap.size ⟨#[]⟩ 0 0 := by
  refine ⟨?_, ?_, ?_, ?_, ?_, ?_⟩ <;> simp [go_sem]
theorem setOut_size (w : World) (s : ByteArray) : (setOut w s).heap.size = w.heap.size + 4 := by simp
theorem Thr.but {w w' : World} {n k e b : Nat} {a : ByteArray} (h : Thr w n a k e) (hb : But (fun j => j = b) w w') (hn : n + 3 ≤ b) : Thr w' n a k e := by
  have l0 : n < w.heap.size := World.block_lt_of_cell? _ _ h.c0
  have l1 : n + 1 < w.heap.size := World.block_lt_of_cell? _ _ h.c1
  have l2 : n + 2 < w.heap.size := World.block_lt_of_cell? _ _ h.c2
  exact ⟨by rw [hb.cell l0 (by omega)]; exact h.c0, by rw [hb.cell l1 (by omega)]; exact h.c1, by rw [hb.cell l2 (by omega)]; exact h.c2, by rw [hb.frozen l0 (by omega)]; exact h.f0, by rw [hb.frozen l1 (by omega)]; exact h.f1, by rw [hb.frozen l2 (by omega)]; exact h.f2⟩
set_option maxRecDepth 1000000 in
set_option maxHeartbeats 4000000 in
theorem open_bad (s : ByteArray) (w : World) (hs : s.size ≤ 100000) (h0 : (openE s.data.toList).2.2 ≠ 0) :
    Calls Tryd.prog 8 #[.string s] w fun e w' => e = .returned (.tuple #[.string ⟨#[]⟩, .int .i64 0, .int .i64 ((openE s.data.toList).2.2 : Int)]) ∧ Below w.heap.size w w' := by
  have hmf : ∀ (fn : Fn) (first cap : Array Value) (w : World), (Instr.makeFunc fn first cap).run Tryd.prog w = .ok (.func fn first cap) w := fun _ _ _ _ => rfl
  have F : ∀ b w, Cur w b s 0 → Calls Tryd.prog 16 #[.pointer (some ⟨b, 0, none⟩)] w fun e w' => But (fun j => j = b) w w' ∧ e = gaveUp (openE s.data.toList).2.2 := fun b w hc => (message_any b s w hc hs).mono (by
    rintro e w' ⟨x, ⟨y, _⟩ | ⟨_, y⟩⟩
    · exact absurd y h0
    · exact ⟨x, y⟩)
  generalize (openE s.data.toList).2.2 = E at *
  go_enter_defers Tryd.func8, Tryd.ntmps8
  go_wp2_with fail
  refine (F (w.heap.size + 3) (setOut w s) (setOut_cur w s)).mono ?_
  rintro e w1 ⟨hb1, rfl⟩
  have T1 := (setOut_three w s).but hb1 (by omega)
  have B1 := (setOut_below w s).trans (hb1.below (by rw [setOut_size]; omega) (n := w.heap.size) (fun i hi => by omega))
  refine leaves_cons (f := 15) (args := #[.pointer (some ⟨w.heap.size, 0, none⟩), .pointer (some ⟨w.heap.size + 1, 0, none⟩), .pointer (some ⟨w.heap.size + 2, 0, none⟩)]) (by simp) (by simp [go_sem]) ?_
  refine (catch_gave w.heap.size (w.heap.size + 1) (w.heap.size + 2) E _ _ _ w1 T1.c0 T1.c1 T1.c2 T1.f0 T1.f1 T1.f2 (by omega) (by omega) (by omega)).mono ?_
  rintro e u' w2 ⟨rfl, rfl, c0, c1, c2, hb2⟩
  have B2 := B1.trans (hb2.below (n := w.heap.size) (Nat.le_of_lt (World.block_lt_of_cell? _ _ T1.c0)) (fun i hi => by omega))
  simp [Leaves, settle, results, Tryd.results8, go_sem, c0, c1, c2]
  exact B2
set_option maxRecDepth 1000000 in
set_option maxHeartbeats 4000000 in
theorem open_good (s : ByteArray) (w : World) (hs : s.size ≤ 100000) (h0 : (openE s.data.toList).2.2 = 0) :
    Calls Tryd.prog 8 #[.string s] w fun e w' => e = .returned (.tuple #[.string (mk (openE s.data.toList).1), .int .i64 ((openE s.data.toList).2.1 : Int), .int .i64 0]) ∧ Below w.heap.size w w' := by
  have hmf : ∀ (fn : Fn) (first cap : Array Value) (w : World), (Instr.makeFunc fn first cap).run Tryd.prog w = .ok (.func fn first cap) w := fun _ _ _ _ => rfl
  have F : ∀ b w, Cur w b s 0 → Calls Tryd.prog 16 #[.pointer (some ⟨b, 0, none⟩)] w fun e w' => But (fun j => j = b) w w' ∧ e = .returned (.string (mk (openE s.data.toList).1)) ∧ Cur w' b s (openE s.data.toList).2.1 := fun b w hc => (message_any b s w hc hs).mono (by
    rintro e w' ⟨x, ⟨_, y, z⟩ | ⟨y, _⟩⟩
    · exact ⟨x, y, z⟩
    · exact absurd h0 y)
  generalize mk (openE s.data.toList).1 = D at *
  generalize (openE s.data.toList).2.1 = A at *
  clear h0
  go_enter_defers Tryd.func8, Tryd.ntmps8
  go_wp2_with fail
  refine (F (w.heap.size + 3) (setOut w s) (setOut_cur w s)).mono ?_
  rintro e w1 ⟨hb1, rfl, hc1⟩
  have T1 := (setOut_three w s).but hb1 (by omega)
  have B1 := (setOut_below w s).trans (hb1.below (by rw [setOut_size]; omega) (n := w.heap.size) (fun i hi => by omega))
  obtain ⟨c0, c1, c2, f0, f1, f2⟩ := T1
  have c3 := hc1.place
  go_wp2_with fail
  go_region
  go_wp2_with fail
  have n0 : ∀ a b : Nat, a ≠ b → (⟨a, 0, none⟩ : Addr) ≠ ⟨b, 0, none⟩ := fun a b h e => h (by injection e)
  have q1 : ((w1.setCell ⟨w.heap.size, 0, none⟩ (.string D)).setCell ⟨w.heap.size, 0, none⟩ (.string D)).cell? ⟨w.heap.size + 1, 0, none⟩ = some (.int .i64 (0 : Nat)) := by
    rw [World.cell?_setCell_other _ _ _ _ (n0 _ _ (by omega)), World.cell?_setCell_other _ _ _ _ (n0 _ _ (by omega))]; exact c1
  have q2 : (((w1.setCell ⟨w.heap.size, 0, none⟩ (.string D)).setCell ⟨w.heap.size, 0, none⟩ (.string D)).setCell ⟨w.heap.size + 1, 0, none⟩ (.int .i64 (A : Int))).cell? ⟨w.heap.size + 2, 0, none⟩ = some (.int .i64 (0 : Nat)) := by
    rw [World.cell?_setCell_other _ _ _ _ (n0 _ _ (by omega)), World.cell?_setCell_other _ _ _ _ (n0 _ _ (by omega)), World.cell?_setCell_other _ _ _ _ (n0 _ _ (by omega))]; exact c2
  have r0 : ((((w1.setCell ⟨w.heap.size, 0, none⟩ (.string D)).setCell ⟨w.heap.size, 0, none⟩ (.string D)).setCell ⟨w.heap.size + 1, 0, none⟩ (.int .i64 (A : Int))).setCell ⟨w.heap.size + 1 + 1, 0, none⟩ (.int .i64 0)).drew.cell? ⟨w.heap.size, 0, none⟩ = some (.string D) := by
    show ((((w1.setCell ⟨w.heap.size, 0, none⟩ (.string D)).setCell ⟨w.heap.size, 0, none⟩ (.string D)).setCell ⟨w.heap.size + 1, 0, none⟩ (.int .i64 (A : Int))).setCell ⟨w.heap.size + 1 + 1, 0, none⟩ (.int .i64 0)).cell? ⟨w.heap.size, 0, none⟩ = _
    rw [World.cell?_setCell_other _ _ _ _ (n0 _ _ (by omega)), World.cell?_setCell_other _ _ _ _ (n0 _ _ (by omega))]
    exact World.cell?_setCell_same _ _ _ (World.cell?_setCell_same _ _ _ c0)
  have r1 : ((((w1.setCell ⟨w.heap.size, 0, none⟩ (.string D)).setCell ⟨w.heap.size, 0, none⟩ (.string D)).setCell ⟨w.heap.size + 1, 0, none⟩ (.int .i64 (A : Int))).setCell ⟨w.heap.size + 1 + 1, 0, none⟩ (.int .i64 0)).drew.cell? ⟨w.heap.size + 1, 0, none⟩ = some (.int .i64 (A : Int)) := by
    show ((((w1.setCell ⟨w.heap.size, 0, none⟩ (.string D)).setCell ⟨w.heap.size, 0, none⟩ (.string D)).setCell ⟨w.heap.size + 1, 0, none⟩ (.int .i64 (A : Int))).setCell ⟨w.heap.size + 1 + 1, 0, none⟩ (.int .i64 0)).cell? ⟨w.heap.size + 1, 0, none⟩ = _
    rw [World.cell?_setCell_other _ _ _ _ (n0 _ _ (by omega))]
    exact World.cell?_setCell_same _ _ _ q1
  have r2 : ((((w1.setCell ⟨w.heap.size, 0, none⟩ (.string D)).setCell ⟨w.heap.size, 0, none⟩ (.string D)).setCell ⟨w.heap.size + 1, 0, none⟩ (.int .i64 (A : Int))).setCell ⟨w.heap.size + 1 + 1, 0, none⟩ (.int .i64 0)).drew.cell? ⟨w.heap.size + 2, 0, none⟩ = some (.int .i64 0) :=
    World.cell?_setCell_same _ _ _ q2
  have BW : Below w.heap.size w ((((w1.setCell ⟨w.heap.size, 0, none⟩ (.string D)).setCell ⟨w.heap.size, 0, none⟩ (.string D)).setCell ⟨w.heap.size + 1, 0, none⟩ (.int .i64 (A : Int))).setCell ⟨w.heap.size + 1 + 1, 0, none⟩ (.int .i64 0)).drew :=
    B1.trans ((((((But.refl (fun j => w.heap.size ≤ j) w1).setCell w.heap.size 0 _ (fun _ => Nat.le_refl _)).setCell w.heap.size 0 _ (fun _ => Nat.le_refl _)).setCell (w.heap.size + 1) 0 _ (fun _ => by omega)).setCell (w.heap.size + 1 + 1) 0 _ (fun _ => by omega)).drew.below (n := w.heap.size) B1.size (fun _ h => h))
  clear q1 q2 n0 c0 c1 c2 c3 f0 f1 f2 hb1 hc1 B1 F
  generalize ((((w1.setCell ⟨w.heap.size, 0, none⟩ (.string D)).setCell ⟨w.heap.size, 0, none⟩ (.string D)).setCell ⟨w.heap.size + 1, 0, none⟩ (.int .i64 (A : Int))).setCell ⟨w.heap.size + 1 + 1, 0, none⟩ (.int .i64 0)).drew = W at *
  refine leaves_cons (f := 15) (args := #[.pointer (some ⟨w.heap.size, 0, none⟩), .pointer (some ⟨w.heap.size + 1, 0, none⟩), .pointer (some ⟨w.heap.size + 2, 0, none⟩)]) (by simp) (by simp [go_sem]) ?_
  refine (catch_idle ⟨w.heap.size, 0, none⟩ ⟨w.heap.size + 1, 0, none⟩ ⟨w.heap.size + 2, 0, none⟩ W).mono ?_
  rintro e u' w2 ⟨rfl, rfl, rfl⟩
  simp [Leaves, settle, results, Tryd.results8, go_sem, r0, r1, r2]
  exact BW
/-- Open by the plain mathematics. -/
theorem open_any (s : ByteArray) (w : World) (hs : s.size ≤ 100000) :
    Calls Tryd.prog 8 #[.string s] w fun e w' => e = .returned (.tuple #[.string (mk (openE s.data.toList).1), .int .i64 ((openE s.data.toList).2.1 : Int), .int .i64 ((openE s.data.toList).2.2 : Int)]) ∧ Below w.heap.size w w' := by
  by_cases h : (openE s.data.toList).2.2 = 0
  · rw [h]
    exact open_good s w hs h
  · obtain ⟨h1, h2⟩ := open_none h
    rw [h1, h2]
    exact open_bad s w hs h
end Go.Proofs.YtcgojnofkbjinaaDoor
