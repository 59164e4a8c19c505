/-
  Contracts of ring's All and its function value, at int, for every loop body that keeps all cells but its own.
-/
import Derived.Test.YtdikjfajbjedcaaRingMoveI
import Derived.Test.YtdikjfajbjedcaaLists
import Derived.RangeFuncNested
import Derived.RangeFuncBound
import Derived.RangeFuncCalls
import Derived.RangeFuncLeaves
import Derived.Shelf.Abstract
import Derived.Shelf.RegionOpen
import Derived.OwnWalkIn
import Derived.TacticsInMore
import Derived.LoopNIn
import Derived.LoopIn
namespace Go.Proofs.Ytdikjfajbjedcaa
open Go.ChangeShapes Go.WideShapes Go.ChangeAt Go.RowKit Go.Shelf

attribute [local go_sem] Oper.semAt_some

/-- All blocks of cells but those of S are as they were. -/
structure Cells (S : Nat → Prop) (W W' : World) : Prop where
  size : W.heap.size ≤ W'.heap.size
  block : ∀ k o, W.heap[k]? = some o → o.isCells = true → ¬ S k → W'.heap[k]? = some o
theorem Cells.trans {S : Nat → Prop} {A B C : World} (h : Cells S A B) (k : Cells S B C) : Cells S A C :=
  ⟨Nat.le_trans h.size k.size, fun i o ho hc hS => k.block i o (h.block i o ho hc hS) hc hS⟩
theorem Cells.book {S : Nat → Prop} (W : World) (l : Nat) (o o' : Obj) (h : W.heap[l]? = some o) (hc : o.isCells = false) : Cells S W (W.putObj l o') := by
  have g := grownBy_putObj' W l o'
  refine ⟨g.size, fun k q hq hqc _ => ?_⟩
  rw [g.block k (Array.getElem?_eq_some_iff.1 hq).1 (fun e => ?_)]
  · exact hq
  · injection e with e
    subst e
    rw [h] at hq
    injection hq with hq
    subst hq
    rw [hc] at hqc
    cases hqc
theorem Cells.setCell {S : Nat → Prop} (W : World) (b : Nat) (v : Value) (hb : S b) : Cells S W (W.setCell ⟨b, 0, none⟩ v) := by
  have g := grownBy_setCell' W b v
  refine ⟨g.size, fun k q hq _ hS => ?_⟩
  rw [g.block k (Array.getElem?_eq_some_iff.1 hq).1 (fun e => hS (by injection e with e; subst e; exact hb))]
  exact hq
theorem cells_of_cell {W : World} {b j : Nat} {v : Value} (h : W.cell? ⟨b, j, none⟩ = some v) : ∃ o, W.heap[b]? = some o ∧ o.isCells = true := by
  unfold World.cell? at h
  dsimp only at h
  split at h
  · rename_i c t m e
    exact ⟨_, e, rfl⟩
  · cases h

theorem all_any (r : Option Addr) (w : World) :
    Calls Try.prog 25 #[.pointer r] w fun e w' => e = .returned (.func (.func 31) #[] #[.pointer (some ⟨w.heap.size, 0, none⟩)]) ∧ w' = w.alloc (.cells #[.pointer r] 24) := by
  go_enter Try.func25, Try.ntmps25
  go_wp2
  go_ret
  exact ⟨rfl, rfl⟩

set_option maxHeartbeats 1000000 in
theorem layN {w : World} {r : Value} (h : RI.NoRng w r) (l : Value) : Calls Try.prog 30 #[r, l] w fun e w' => (∃ v, e = .returned v) ∧ w' = w := by
  have F1 := RI.lenN h
  go_enter Try.func30, Try.ntmps30
  go_wp2_with fail
  refine F1.mono ?_
  rintro e w1 ⟨rfl, rfl⟩
  clear F1
  go_wp2_with fail
  go_loopw [7] (fun i wr => i = .int .i64 0 ∧ wr = w1) (fun _ _ => 0)
  case atStart => exact ⟨rfl, rfl⟩
  case round =>
    obtain ⟨rfl, rfl⟩ := hrel
    go_wp2_with fail
    go_end0
    exact ⟨⟨_, rfl⟩, rfl⟩

/-- What a range over All takes of the ring: n things, told by g. -/
def Told (w : World) (r : Value) (n : Nat) (g : Nat → Int) : Prop := (∃ p S C f room, r = .pointer (some ⟨p, 0, none⟩) ∧ RI.Rng w p S C f room n g) ∨ (RI.NoRng w r ∧ n = 0)
theorem Told.le {w : World} {r : Value} {n : Nat} {g : Nat → Int} (h : Told w r n g) : n ≤ 1024 := by
  rcases h with ⟨p, S, C, f, room, rfl, R⟩ | ⟨_, rfl⟩
  · exact Nat.le_trans R.fits (Nat.le_trans R.capped R.most)
  · omega
theorem Told.below {w w' : World} {r : Value} {n : Nat} {g : Nat → Int} (h : Told w r n g) (k : Below w.heap.size w w') : Told w' r n g := by
  rcases h with ⟨p, S, C, f, room, rfl, R⟩ | ⟨N, rfl⟩
  · exact .inl ⟨p, S, C, f, room, rfl, R.below k⟩
  · exact .inr ⟨N.below k, rfl⟩
theorem told_len {w : World} {r : Value} {n : Nat} {g : Nat → Int} (h : Told w r n g) : Calls Try.prog 14 #[r] w fun e w' => e = .returned (.int .i64 (n : Int)) ∧ w' = w := by
  rcases h with ⟨p, S, C, f, room, rfl, R⟩ | ⟨N, rfl⟩
  · exact RI.len_any R
  · exact RI.lenN N
theorem told_lay {w : World} {r : Value} {n : Nat} {g : Nat → Int} (h : Told w r n g) (b : Nat) (hb : w.heap.size ≤ b) {w1 : World} (k : Below w.heap.size w w1) (ht : ∀ j, j < n → (w1.cell? ⟨b, j, none⟩).isSome = true) (hz : ∀ j, w1.frozen? ⟨b, j, none⟩ = false) :
    Calls Try.prog 30 #[r, .slice (some ⟨b, 0, none⟩) n n] w1 fun e w' => (∃ v, e = .returned v) ∧ But (fun k => k = b) w1 w' ∧ (∀ j, j < n → w'.cell? ⟨b, j, none⟩ = some (.int .i64 (g j))) := by
  rcases h with ⟨p, S, C, f, room, rfl, R⟩ | ⟨N, rfl⟩
  · exact (RI.lay_any (R.below k) b n (Nat.le_refl _) (fun e => by have := R.there e; omega) ht hz).mono fun e w' ⟨h1, h2, h3, _⟩ => ⟨h1, h2, h3⟩
  · refine (layN (N.below k) _).mono fun e w' ⟨h1, h2⟩ => ⟨h1, ?_, fun j hj => absurd hj (by omega)⟩
    subst h2
    exact But.refl _ _

set_option maxRecDepth 100000 in
set_option maxHeartbeats 4000000 in
/-- The function value that All hands back, for every loop body that keeps all cells but those of T: it tells the things one by one, to the end or until it is told to stop. -/
theorem all1_in (m : Nat) (hm : 1 ≤ m) (l Br n : Nat) (r : Value) (g : Nat → Int) (T : Nat → Prop) (J Jx : List Nat → World → Prop)
    (W : World) (hT : ∀ k, T k → k < W.heap.size) (hJ : AbidesFrom W.heap.size J)
    (hY : ∀ pre x W, J pre W → pre.length < n → YieldAt Fence.wide (m - 1) Try.prog l #[.int .i64 (g x)] W fun e W' =>
      (e = .returned (.bool true) ∧ J (pre ++ [x]) W' ∧ Cells T W W') ∨ (e = .returned (.bool false) ∧ Jx (pre ++ [x]) W'))
    (hBr : W.cell? ⟨Br, 0, none⟩ = some r) (h : Told W r n g) (h0 : J [] W) :
    CallsIn Fence.wide m Try.prog 31 #[.func (.yield l) #[] #[], .pointer (some ⟨Br, 0, none⟩)] W fun e W' => (∃ v, e = .returned v) ∧
      ((∃ ys, ys = List.range n ∧ J ys W') ∨ (∃ pre, (∃ k, k ≤ n ∧ pre = List.range k) ∧ Jx pre W')) := by
  have hn := h.le
  have hmk := RI.run_make_things n hn
  have hcell := RI.made_thing n
  obtain ⟨A, HA'⟩ : ∃ A, madeCells #[.int .i64 0] n = A := ⟨_, rfl⟩
  rw [HA'] at hmk hcell
  have hBrA : (W.alloc (.cells A 3)).cell? ⟨Br, 0, none⟩ = some r := by rw [World.cell?_alloc_past _ _ _ (World.block_lt_of_cell? _ _ hBr)]; exact hBr
  have FL := told_len h
  have FY := told_lay h W.heap.size (Nat.le_refl _) (w1 := W.alloc (.cells A 3)) ((Below.refl _ W).alloc (Nat.le_refl _) _) (fun j hj => by rw [World.cell?_alloc_at _ _ _ _ rfl, hcell j hj]; rfl) (fun j => World.frozen?_alloc_at (w := W) A _ W.heap.size j rfl)
  clear HA' hcell
  refine callsIn_of_wp Try.func31 rfl trivial ?_ rfl
  simp only [Try.ntmps31, List.size_toArray, List.length_cons, List.length_nil, Nat.reduceAdd, Nat.reduceSub, Array.replicate_succ, Array.replicate_zero, List.push_toArray, List.append_toArray, List.nil_append, List.cons_append]
  gi_wp2_with (first
    | (refine ⟨trivial, ?_⟩; gi_at_call 14; refine (callsIn_wide.2 FL).mono ?_; rintro e W ⟨rfl, rfl⟩)
    | (refine ⟨trivial, ?_⟩; gi_at_call 30; refine (callsIn_wide.2 FY).mono ?_; rintro e W2 ⟨⟨v2, rfl⟩, B2, C2⟩))
  have hA0 := Below.alloc (Below.refl _ W) (Nat.le_refl _) (.cells A 3)
  have hB2 : Below W.heap.size W W2 := hA0.trans (B2.below (by simp) (fun i e => by subst e; exact Nat.le_refl _))
  have hJ2 : J [] W2 := hJ [] W W2 none h0 ⟨hB2.os, hB2.tape, hB2.output, hB2.size, fun k hk _ => hB2.block k hk⟩ (fun r e => by cases e)
  have HC : Hid (∀ j, j < n → W2.cell? ⟨W.heap.size, j, none⟩ = some (.int .i64 (g j))) := C2
  have HT : Hid (¬ T W.heap.size) := fun e => absurd (hT _ e) (Nat.lt_irrefl _)
  clear FL FY hmk hBrA hBr h hJ hT B2 C2 hA0 hB2 h0
  obtain ⟨t, ht⟩ : ∃ t, t = W.heap.size := ⟨_, rfl⟩
  rw [← ht] at HC HT
  rw [← ht]
  clear ht
  gi_loopw [14] (fun i wr => ∃ k : Nat, k ≤ n ∧ i = .int .i64 (k : Int) ∧ J (List.range k) wr ∧ Hid (∀ o, W2.heap[t]? = some o → o.isCells = true → wr.heap[t]? = some o)) (fun i _ => n - (intOf i).toNat)
  case atStart => exact ⟨0, Nat.zero_le _, rfl, hJ2, fun o ho _ => ho⟩
  case round =>
    obtain ⟨k, hk, rfl, hJs, hnx⟩ := hrel
    by_cases hlt : k < n
    · have t1 : (k : Int) < (n : Int) := by omega
      have hc2 := HC.out k hlt
      obtain ⟨o, ho, hoc⟩ := cells_of_cell hc2
      have ho' := hnx.out o ho hoc
      have hcx : wr.cell? ⟨t, k, none⟩ = some (.int .i64 (g k)) := (World.cell?_of_block (w := W2) (w' := wr) (a := ⟨t, k, none⟩) (ho'.trans ho.symm)).trans hc2
      obtain ⟨fn, tmps, assign, body, hy, hR⟩ := hY _ k wr hJs (by rw [List.length_range]; exact hlt)
      have HO : Hid (wr.heap[t]? = some o ∧ W2.heap[t]? = some o ∧ o.isCells = true) := ⟨ho', ho, hoc⟩
      clear hc2 ho ho' hoc hY
      generalize g k = x at *
      gi_wp2
      refine hR.mono ?_
      rintro e W3 (⟨rfl, hJ3, hk3⟩ | ⟨rfl, hJx3⟩)
      · gi_wp2
        go_roundw
        case rel =>
          refine ⟨k + 1, by omega, by simp, by rw [List.range_succ]; exact hJ3, fun o2 ho2 hc2 => ?_⟩
          obtain ⟨e1, e2, e3⟩ := HO.out
          rw [e2] at ho2
          injection ho2 with ho2
          subst ho2
          exact hk3.block t _ e1 e3 HT.out
        case measure => simp [intOf]; omega
      · gi_wp2
        refine bodyPost_ret (results_none rfl _ _ _) rfl ?_
        exact ⟨⟨_, rfl⟩, .inr ⟨_, ⟨k + 1, by omega, List.range_succ.symm⟩, hJx3⟩⟩
    · obtain rfl : k = n := by omega
      gi_wp2
      go_end0
      exact ⟨⟨_, rfl⟩, .inl ⟨_, rfl, hJs⟩⟩

theorem all_stops (m : Nat) (hm : 1 ≤ m) (Br n : Nat) (r : Value) (g : Nat → Int) (T : Nat → Prop) (w : World) (hT : ∀ k, T k → k < w.heap.size) (hBr : w.cell? ⟨Br, 0, none⟩ = some r) (h : Told w r n g) :
    SeqStopsK Fence.wide m Try.prog 31 #[.pointer (some ⟨Br, 0, none⟩)] (fun x : Nat => #[Value.int .i64 (g x)]) (Cells T) (fun ys => ys = List.range n) (fun pre => ∃ k, k ≤ n ∧ pre = List.range k) n w := fun l J Jx W hW hJ _ hY h0 =>
  all1_in m hm l Br n r g T J Jx W (fun k hk => Nat.lt_of_lt_of_le (hT k hk) hW.size) hJ hY ((hW.cell (p := ⟨Br, 0, none⟩) (World.block_lt_of_cell? _ _ hBr)).trans hBr) (h.below hW) h0
end Go.Proofs.Ytdikjfajbjedcaa
