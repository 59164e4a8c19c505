/-
  Contracts of package curve's within, noWeight, sums and its function value, and of the library's IndexFunc and ContainsFunc with noWeight, for every input.
-/
import Derived.RangeFuncNested
import Derived.RangeFuncBound
import Derived.RangeFuncCalls
import Derived.RangeFuncLeaves
import Derived.Shelf.Abstract
import Derived.Shelf.RegionOpen
import Derived.WalkKit
import Derived.OwnWalkIn
import Derived.TacticsInMore
import Derived.LoopNIn
import Derived.LoopIn
import Derived.ProofKit
import Derived.Outline
import Derived.WalkLawsBesides
import Derived.BigQuiet
import Derived.Deep.QuietTactic
import Derived.Test.YtepkmbpadhfbmaaGreatDoorGA
import Derived.Test.YtepkmbpadhfbmaaGreatDoorGB
namespace Go.Proofs.YtepkmbpadhfbmaaGreatDoor
open Go.ChangeShapes Go.WideShapes Go.ChangeAt Go.RowKit Go.Shelf

attribute [local go_sem] Oper.semAt_some

theorem within_yes (n a b : Int) (w : World) (h1 : a ≤ n) (h2 : n ≤ b) :
    Calls Tryz.prog 103 #[.int .i64 n, .int .i64 a, .int .i64 b] w fun e w' => e = .returned (.bool true) ∧ w' = w := by
  go_enter Tryz.func103, Tryz.ntmps103
  go_wp2
  go_ret
  exact ⟨by simp, rfl⟩
theorem within_no (n a b : Int) (w : World) (h : n < a ∨ b < n) :
    Calls Tryz.prog 103 #[.int .i64 n, .int .i64 a, .int .i64 b] w fun e w' => e = .returned (.bool false) ∧ w' = w := by
  by_cases k : a ≤ n
  · have h2 : b < n := by omega
    go_enter Tryz.func103, Tryz.ntmps103
    go_wp2
    go_ret
    exact ⟨by simp; omega, rfl⟩
  · have h2 : n < a := by omega
    go_enter Tryz.func103, Tryz.ntmps103
    go_wp2
    go_ret
    exact ⟨rfl, rfl⟩
theorem noWeight_no (n : Int) (w : World) (h1 : 0 ≤ n) (h2 : n ≤ 1048576) :
    Calls Tryz.prog 83 #[.int .i64 n] w fun e w' => e = .returned (.bool false) ∧ w' = w := by
  go_enter Tryz.func83, Tryz.ntmps83
  go_wp2_with fail
  refine (within_yes n 0 1048576 _ h1 h2).mono ?_
  rintro e w1 ⟨rfl, rfl⟩
  go_wp2
  go_ret
  exact ⟨rfl, rfl⟩
theorem noWeight_yes (n : Int) (w : World) (h : n < 0 ∨ 1048576 < n) :
    Calls Tryz.prog 83 #[.int .i64 n] w fun e w' => e = .returned (.bool true) ∧ w' = w := by
  go_enter Tryz.func83, Tryz.ntmps83
  go_wp2_with fail
  refine (within_no n 0 1048576 _ h).mono ?_
  rintro e w1 ⟨rfl, rfl⟩
  go_wp2
  go_ret
  exact ⟨rfl, rfl⟩
/-- A number that may be no weight. -/
def bad (n : Int) : Prop := n < 0 ∨ 1048576 < n

set_option maxHeartbeats 1000000 in
theorem curveIndex_any (zs : Nat → Int) (n : Nat) (v : Value) (w : World) (h : Row w v n fun i => .int .i64 (zs i)) :
    Calls Tryz.prog 102 #[v, .func (.func 83) #[] #[]] w fun e w' => w' = w ∧
      ((e = .returned (.int .i64 (-1)) ∧ ∀ i, i < n → ¬ bad (zs i)) ∨ (∃ k : Nat, k < n ∧ e = .returned (.int .i64 (k : Int)) ∧ bad (zs k))) := by
  obtain ⟨a, cap, rfl, h1, h2, h3⟩ := id h
  unfold maxLen at h2
  go_enter Tryz.func102, Tryz.ntmps102
  go_wp2_with fail
  go_loopw [8] (fun c wr => ∃ k : Nat, c = .int .i64 (k : Int) ∧ k ≤ n ∧ (∀ i, i < k → ¬ bad (zs i)) ∧ wr = w) (fun c _ => n - (intOf c).toNat)
  case atStart => exact ⟨0, rfl, Nat.zero_le _, fun i hi => absurd hi (by omega), rfl⟩
  case round =>
    obtain ⟨k, rfl, hk, hg, rfl⟩ := hrel
    by_cases hlt : k < n
    · have t : (k : Int) < (n : Int) := by omega
      obtain ⟨b, off, rfl, hc⟩ := h3 k hlt
      have HG : Hid (∀ i, i < k → ¬ bad (zs i)) := hg
      clear h3 hg
      by_cases hb : bad (zs k)
      · have F := fun w => noWeight_yes (zs k) w hb
        go_wp2_with fail
        refine (F _).mono ?_
        rintro e w1 ⟨rfl, rfl⟩
        go_wp2_with fail
        go_ret
        exact ⟨rfl, .inr ⟨k, hlt, rfl, hb⟩⟩
      · have hb' := hb
        unfold bad at hb'
        have F := fun w => noWeight_no (zs k) w (by omega) (by omega)
        have HB : Hid (¬ bad (zs k)) := hb
        clear hb hb'
        go_wp2_with fail
        refine (F _).mono ?_
        rintro e w1 ⟨rfl, rfl⟩
        go_wp2_with fail
        go_roundw
        case rel => exact ⟨k + 1, by simp, by omega, fun i hi => if e : i = k then e ▸ HB.out else HG.out i (by omega), trivial⟩
        case measure => simp [intOf]; omega
    · have hkn : k = n := by omega
      subst hkn
      have t : ¬ (k : Int) < (k : Int) := by omega
      go_wp2_with fail
      go_ret
      exact ⟨rfl, .inl ⟨rfl, hg⟩⟩
theorem contains_any (zs : Nat → Int) (n : Nat) (v : Value) (w : World) (h : Row w v n fun i => .int .i64 (zs i)) :
    Calls Tryz.prog 82 #[v, .func (.func 83) #[] #[]] w fun e w' => w' = w ∧
      ((e = .returned (.bool false) ∧ ∀ i, i < n → ¬ bad (zs i)) ∨ (∃ k : Nat, k < n ∧ e = .returned (.bool true) ∧ bad (zs k))) := by
  go_enter Tryz.func82, Tryz.ntmps82
  go_wp2_with fail
  refine (curveIndex_any zs n v _ h).mono ?_
  rintro e w1 ⟨rfl, ⟨rfl, hg⟩ | ⟨k, hk, rfl, hb⟩⟩
  · go_wp2_with fail
    go_ret
    exact ⟨rfl, .inl ⟨rfl, hg⟩⟩
  · go_wp2_with fail
    go_ret
    exact ⟨rfl, .inr ⟨k, hk, by simp, hb⟩⟩
theorem sums_any (a : Option Addr) (n cap : Nat) (w : World) :
    Calls Tryz.prog 84 #[.slice a n cap] w fun e w' => e = .returned (.func (.func 104) #[] #[.pointer (some ⟨w.heap.size, 0, none⟩)]) ∧ w' = w.alloc (.cells #[.slice a n cap] 22) := by
  go_enter Tryz.func84, Tryz.ntmps84
  go_wp2
  go_ret
  exact ⟨rfl, rfl⟩

set_option maxRecDepth 100000 in
set_option maxHeartbeats 2000000 in
/-- The function value that sums hands back, for every loop body that keeps what lay below n₀: it tells the sums one by one, to the end or until it is told to stop. -/
theorem sums1_in (F : Fence) (m : Nat) (hf : F.fn 104) (hro : F.round = none) (hm : 1 ≤ m) (l Bs n₀ n cap : Nat) (a : Option Addr) (zs : Nat → Int) (hn : n ≤ 1000000) (hcap : n ≤ cap) (hs : ∀ k, k ≤ n → -9223372036854775808 ≤ sumTo zs k ∧ sumTo zs k ≤ 9223372036854775807) (J Jx : List Nat → World → Prop)
    (hY : ∀ pre x W, J pre W → pre.length < n → YieldAt F (m - 1) Tryz.prog l #[.int .i64 (sumTo zs x), .int .i64 (sumTo zs (x + 1))] W fun e W' =>
      (e = .returned (.bool true) ∧ J (pre ++ [x]) W' ∧ Below n₀ W W') ∨ (e = .returned (.bool false) ∧ Jx (pre ++ [x]) W'))
    (W : World) (hBs : W.cell? ⟨Bs, 0, none⟩ = some (.slice a n cap)) (h3 : ∀ i, i < n → ∃ b off, a = some ⟨b, off, none⟩ ∧ b < n₀ ∧ W.cell? ⟨b, off + i, none⟩ = some (.int .i64 (zs i))) (h0 : J [] W) :
    CallsIn F m Tryz.prog 104 #[.func (.yield l) #[] #[], .pointer (some ⟨Bs, 0, none⟩)] W fun e W' => (∃ v, e = .returned v) ∧
      ((∃ ys, ys = List.range n ∧ J ys W') ∨ (∃ pre, (∃ k, k ≤ n ∧ pre = List.range k) ∧ Jx pre W')) := by
  refine callsIn_of_wp Tryz.func104 rfl hf ?_ hro
  simp only [Tryz.ntmps104, List.size_toArray, List.length_cons, List.length_nil, Nat.reduceAdd, Nat.reduceSub, Array.replicate_succ, Array.replicate_zero, List.push_toArray, List.append_toArray, List.nil_append, List.cons_append]
  gi_wp2
  gi_loopw [3, 9] (fun s i wr => ∃ k : Nat, k ≤ n ∧ s = .int .i64 (sumTo zs k) ∧ i = .int .i64 (k : Int) ∧ J (List.range k) wr ∧ Below n₀ W wr)
    (fun _ i _ => n - (intOf i).toNat)
  case atStart => exact ⟨0, Nat.zero_le _, rfl, rfl, h0, Below.refl _ _⟩
  case round =>
    obtain ⟨k, hk, rfl, rfl, hJs, hnx⟩ := hrel
    by_cases hlt : k < n
    · obtain ⟨b, off, rfl, hb, hc⟩ := h3 k hlt
      have hcx' : wr.cell? ⟨b, off + k, none⟩ = some (.int .i64 (zs k)) := (hnx.cell (p := ⟨b, off + k, none⟩) hb).trans hc
      obtain ⟨fn, tmps, assign, body, hy, hR⟩ := hY _ k wr hJs (by rw [List.length_range]; exact hlt)
      have hw : sumTo zs (k + 1) = wrap64 (sumTo zs k + zs k) := by
        have := hs (k + 1) (by omega)
        have e : sumTo zs (k + 1) = sumTo zs k + zs k := rfl
        rw [e] at this ⊢
        unfold wrap64; omega
      have HW : Hid (wrap64 (sumTo zs k + zs k) = sumTo zs (k + 1)) := hw.symm
      rw [hw] at hy
      clear hw h3 hc
      gi_wp2
      refine hR.mono ?_
      rintro e W3 (⟨rfl, hJ3, hk3⟩ | ⟨rfl, hJx3⟩)
      · gi_wp2
        go_roundw
        case rel => exact ⟨k + 1, by omega, by rw [HW.out], by simp, by rw [List.range_succ]; exact hJ3, hnx.trans hk3⟩
        case measure => simp [intOf]; omega
      · gi_wp2
        refine bodyPost_ret (results_none rfl _ _ _) rfl ?_
        exact ⟨⟨_, rfl⟩, .inr ⟨_, ⟨k + 1, by omega, List.range_succ.symm⟩, hJx3⟩⟩
    · obtain rfl : k = n := by omega
      gi_wp2
      go_end0
      exact ⟨⟨_, rfl⟩, .inl ⟨_, rfl, hJs⟩⟩
end Go.Proofs.YtepkmbpadhfbmaaGreatDoor
/-
  Contracts of package curve's Total and Check, for every list of weights.
-/
namespace Go.Proofs.YtepkmbpadhfbmaaGreatDoor
open Go.ChangeShapes Go.WideShapes Go.ChangeAt Go.RowKit Go.Shelf

attribute [local go_sem] Oper.semAt_some

theorem sums_stops (F : Fence) (m : Nat) (hf : F.fn 104) (hro : F.round = none) (hm : 1 ≤ m) (Bs n₀ n cap : Nat) (a : Option Addr) (zs : Nat → Int) (hn : n ≤ 1000000) (hcap : n ≤ cap) (hs : ∀ k, k ≤ n → -9223372036854775808 ≤ sumTo zs k ∧ sumTo zs k ≤ 9223372036854775807)
    (w : World) (hBs : Bs < w.heap.size) (hn₀ : n₀ ≤ w.heap.size) (hc : w.cell? ⟨Bs, 0, none⟩ = some (.slice a n cap)) (h3 : ∀ i, i < n → ∃ b off, a = some ⟨b, off, none⟩ ∧ b < n₀ ∧ w.cell? ⟨b, off + i, none⟩ = some (.int .i64 (zs i))) :
    SeqStopsK F m Tryz.prog 104 #[.pointer (some ⟨Bs, 0, none⟩)] (fun x : Nat => #[Value.int .i64 (sumTo zs x), Value.int .i64 (sumTo zs (x + 1))]) (Below n₀) (fun ys => ys = List.range n) (fun pre => ∃ k, k ≤ n ∧ pre = List.range k) n w := fun l J Jx W hW _ _ hY h0 =>
  sums1_in F m hf hro hm l Bs n₀ n cap a zs hn hcap hs J Jx hY W ((hW.cell (p := ⟨Bs, 0, none⟩) hBs).trans hc)
    (fun i hi => by obtain ⟨b, off, e, hb, hc⟩ := h3 i hi; exact ⟨b, off, e, hb, (hW.cell (p := ⟨b, off + i, none⟩) (Nat.lt_of_lt_of_le hb hn₀)).trans hc⟩) h0

/-- The last sum that was told. -/
def lastT (zs : Nat → Int) (pre : List Nat) : Int := match pre.getLast? with | none => 0 | some x => sumTo zs (x + 1)
theorem lastT_nil (zs : Nat → Int) : lastT zs [] = 0 := rfl
theorem lastT_snoc (zs : Nat → Int) (pre : List Nat) (x : Nat) : lastT zs (pre ++ [x]) = sumTo zs (x + 1) := by simp [lastT]
theorem lastT_range (zs : Nat → Int) : ∀ n, lastT zs (List.range n) = sumTo zs n
  | 0 => rfl
  | n + 1 => by rw [List.range_succ, lastT_snoc]

theorem sumTo_mono (zs : Nat → Int) (hz : ∀ i, 0 ≤ zs i) : ∀ k m, k ≤ m → sumTo zs k ≤ sumTo zs m
  | k, 0, h => by
    obtain rfl : k = 0 := by omega
    exact Int.le_refl _
  | k, m + 1, h => by
    by_cases e : k = m + 1
    · subst e; exact Int.le_refl _
    · have := sumTo_mono zs hz k m (by omega)
      have := hz m
      simp only [sumTo]; omega
theorem sumTo_pos (zs : Nat → Int) (hz : ∀ i, 0 ≤ zs i) (k : Nat) : 0 ≤ sumTo zs k := sumTo_mono zs hz 0 k (Nat.zero_le _)
theorem sumTo_le (zs : Nat → Int) (hz : ∀ i, zs i ≤ 1048576) : ∀ k, sumTo zs k ≤ 1048576 * (k : Int)
  | 0 => by simp [sumTo]
  | k + 1 => by have := sumTo_le zs hz k; have := hz k; simp only [sumTo]; omega
theorem sumTo_beyond (zs : Nat → Int) (n : Nat) (hz : ∀ i, n ≤ i → zs i = 0) : ∀ k, n ≤ k → sumTo zs k = sumTo zs n
  | 0, h => by
    obtain rfl : n = 0 := by omega
    rfl
  | k + 1, h => by
    by_cases e : n = k + 1
    · subst e; rfl
    · have := sumTo_beyond zs n hz k (by omega)
      have := hz k (by omega)
      simp only [sumTo]; omega

theorem contains_no (zs : Nat → Int) (n : Nat) (v : Value) (w : World) (h : Row w v n fun i => .int .i64 (zs i)) (hg : ∀ i, i < n → ¬ bad (zs i)) :
    Calls Tryz.prog 82 #[v, .func (.func 83) #[] #[]] w fun e w' => e = .returned (.bool false) ∧ w' = w :=
  (contains_any zs n v w h).mono fun _ _ ⟨hw, h'⟩ => by
    rcases h' with ⟨rfl, _⟩ | ⟨k, hk, _, hb⟩
    · exact ⟨rfl, hw⟩
    · exact absurd hb (hg k hk)
theorem contains_yes (zs : Nat → Int) (n : Nat) (v : Value) (w : World) (h : Row w v n fun i => .int .i64 (zs i)) (k : Nat) (hk : k < n) (hb : bad (zs k)) :
    Calls Tryz.prog 82 #[v, .func (.func 83) #[] #[]] w fun e w' => e = .returned (.bool true) ∧ w' = w :=
  (contains_any zs n v w h).mono fun _ _ ⟨hw, h'⟩ => by
    rcases h' with ⟨rfl, hg⟩ | ⟨j, hj, rfl, _⟩
    · exact absurd hb (hg k hk)
    · exact ⟨rfl, hw⟩

set_option maxRecDepth 100000 in
set_option maxHeartbeats 2000000 in
theorem total_sum (zs : Nat → Int) (n : Nat) (v : Value) (w : World) (h : Row w v n fun i => .int .i64 (zs i)) (hn : n ≤ 64) (hz : ∀ i, 0 ≤ zs i ∧ zs i ≤ 1048576) (S : Int) (hS : Hid (sumTo zs n = S)) (hp : 0 < S) :
    Calls Tryz.prog 64 #[v] w fun e w' => e = .returned (.tuple #[.int .i64 S, .int .i64 0]) ∧ Below w.heap.size w w' := by
  obtain ⟨a, cap, rfl, h1, h2, h3⟩ := id h
  have FC := fun w (h : Row w (.slice a n cap) n fun i => .int .i64 (zs i)) => contains_no zs n _ w h (fun i _ => by have := hz i; unfold bad; omega)
  have t : ¬ (64 : Int) < (n : Int) := by omega
  refine (callsIn_wide (n := 6)).1 ?_
  refine callsIn_of_wp_marks Tryz.func64 rfl trivial ?_ rfl
  simp only [Tryz.ntmps64, List.size_toArray, List.length_cons, List.length_nil, Nat.reduceAdd, Nat.reduceSub, Array.replicate_succ, Array.replicate_zero, List.push_toArray, List.append_toArray, List.nil_append, List.cons_append]
  gi_wp2_with (first
    | (refine ⟨trivial, ?_⟩; gi_at_call 82; refine (callsIn_wide.2 (FC _ h)).mono ?_; rintro e w' ⟨rfl, rfl⟩)
    | (refine ⟨trivial, ?_⟩; gi_at_call 84; refine (callsIn_wide.2 (sums_any _ _ _ _)).mono ?_; rintro e w' ⟨rfl, rfl⟩))
  have bS := Boxed.new w' 3 (.int .i64 0)
  have bN := Boxed.new (w'.alloc (.cells #[.int .i64 0] 3)) 22 (.slice a n cap)
  rw [World.size_alloc] at bN
  have hB0 : Below w'.heap.size w' ((w'.alloc (.cells #[.int .i64 0] 3)).alloc (.cells #[.slice a n cap] 22)) := ((Below.refl _ w').alloc (Nat.le_refl _) _).alloc (by simp) _
  have hsz : ∀ k, k ≤ n → -9223372036854775808 ≤ sumTo zs k ∧ sumTo zs k ≤ 9223372036854775807 := fun k hk => by
    have := sumTo_pos zs (fun i => (hz i).1) k
    have := sumTo_le zs (fun i => (hz i).2) k
    omega
  refine wpIn_rangeFunc_ownG rfl (by omega) (gf := 104) (lb := #[.pointer (some ⟨w'.heap.size + 1, 0, none⟩)]) rfl trivial (enters_of Tryz.func104 (by kernel_rfl) rfl)
    (sums_stops Fence.wide 5 trivial rfl (by omega) (w'.heap.size + 1) w'.heap.size n cap a zs (by omega) h1 hsz _ (by simp) (by simp; omega) bN.cell
      (fun i hi => by obtain ⟨b, off, e, hc⟩ := h3 i hi; have hb := World.block_lt_of_cell? _ _ hc; exact ⟨b, off, e, hb, (hB0.cell (p := ⟨b, off + i, none⟩) hb).trans hc⟩)) belowK_t (belowK_b (by simp; omega)) (Below.refl _ _) (fun _ => rfl)
    (fun pre W => (W.cell? ⟨w'.heap.size, 0, none⟩ = some (.int .i64 (lastT zs pre)) ∧ W.frozen? ⟨w'.heap.size, 0, none⟩ = false) ∧ Below w'.heap.size w' W)
    (fun _ _ _ => False)
    (OwnFrom.and (Own.from (fun s A B row hs hg hr => ⟨cell_kept hs.1 hg hr, (frozen_kept hs.1 hg hr).trans hs.2⟩) _) (ownFrom_below (Nat.le_refl _) (by simp; omega)))
    (fun _ _ _ _ _ hs _ _ => hs)
    ⟨⟨(bS.alloc _).cell, (bS.alloc _).frozen⟩, hB0⟩
    (fun x => { tmps := #[.slice a n cap, undef, .int .i64 0, .int .i64 0, .pointer (some ⟨w'.heap.size, 0, none⟩), undef, .int .i64 (sumTo zs (x + 1)), .slice a n cap, .int .i64 (n : Int), .bool false, .bool false, .slice a n cap, .bool false, .bool false, .slice a n cap, .func (.func 104) #[] #[.pointer (some ⟨w'.heap.size + 1, 0, none⟩)], .int .i64 (sumTo zs x), .int .i64 (sumTo zs (x + 1)), undef, undef, undef, undef], defers := [] }) ?assign ?body ?done ?stop
  case assign =>
    intro l x W K hK
    gi_wp2
    exact hK
  case body =>
    rintro l pre x W ⟨⟨hc, hf⟩, hB⟩ _
    gi_wp2
    exact ⟨(KeepsOthers.setCell _ _ _).from _, (Below.refl w'.heap.size W).setCell (p := ⟨w'.heap.size, 0, none⟩) (Nat.le_refl _) _, ⟨by rw [lastT_snoc]; exact World.cell?_setCell_same' _ _ _ (by rw [hc]; rfl), by rw [World.frozen?_setCell]; exact hf⟩, hB.setCell (p := ⟨w'.heap.size, 0, none⟩) (Nat.le_refl _) _⟩
  case done =>
    rintro D ys W hD rfl ⟨⟨hc, _⟩, hB⟩ hK
    rw [lastT_range, hS.out] at hc
    have hne : (S == 0) = false := beq_false_of_ne (by omega)
    gi_wp2
    refine ⟨by simp, .inl ⟨_, _, rfl, run_takeDeferred hK, ?_⟩⟩
    exact ⟨_, results_tmp2 rfl _ _ _, rfl, hB.trans (belowK_b (w := w') (Nat.le_refl _) W D _ _ (by simp at hD; omega) hK rfl rfl)⟩
  case stop =>
    rintro D c pre W _ _ h _
    exact h.elim
set_option maxRecDepth 100000 in
set_option maxHeartbeats 2000000 in
theorem total_none (zs : Nat → Int) (n : Nat) (v : Value) (w : World) (h : Row w v n fun i => .int .i64 (zs i)) (hn : n ≤ 64) (hz : ∀ i, 0 ≤ zs i ∧ zs i ≤ 1048576) (hS : sumTo zs n = 0) :
    Calls Tryz.prog 64 #[v] w fun e w' => e = .returned (.tuple #[.int .i64 0, .int .i64 30]) ∧ Below w.heap.size w w' := by
  obtain ⟨a, cap, rfl, h1, h2, h3⟩ := id h
  have FC := fun w (h : Row w (.slice a n cap) n fun i => .int .i64 (zs i)) => contains_no zs n _ w h (fun i _ => by have := hz i; unfold bad; omega)
  have t : ¬ (64 : Int) < (n : Int) := by omega
  refine (callsIn_wide (n := 6)).1 ?_
  refine callsIn_of_wp_marks Tryz.func64 rfl trivial ?_ rfl
  simp only [Tryz.ntmps64, List.size_toArray, List.length_cons, List.length_nil, Nat.reduceAdd, Nat.reduceSub, Array.replicate_succ, Array.replicate_zero, List.push_toArray, List.append_toArray, List.nil_append, List.cons_append]
  gi_wp2_with (first
    | (refine ⟨trivial, ?_⟩; gi_at_call 82; refine (callsIn_wide.2 (FC _ h)).mono ?_; rintro e w' ⟨rfl, rfl⟩)
    | (refine ⟨trivial, ?_⟩; gi_at_call 84; refine (callsIn_wide.2 (sums_any _ _ _ _)).mono ?_; rintro e w' ⟨rfl, rfl⟩))
  have bS := Boxed.new w' 3 (.int .i64 0)
  have bN := Boxed.new (w'.alloc (.cells #[.int .i64 0] 3)) 22 (.slice a n cap)
  rw [World.size_alloc] at bN
  have hB0 : Below w'.heap.size w' ((w'.alloc (.cells #[.int .i64 0] 3)).alloc (.cells #[.slice a n cap] 22)) := ((Below.refl _ w').alloc (Nat.le_refl _) _).alloc (by simp) _
  have hsz : ∀ k, k ≤ n → -9223372036854775808 ≤ sumTo zs k ∧ sumTo zs k ≤ 9223372036854775807 := fun k hk => by
    have := sumTo_pos zs (fun i => (hz i).1) k
    have := sumTo_le zs (fun i => (hz i).2) k
    omega
  refine wpIn_rangeFunc_ownG rfl (by omega) (gf := 104) (lb := #[.pointer (some ⟨w'.heap.size + 1, 0, none⟩)]) rfl trivial (enters_of Tryz.func104 (by kernel_rfl) rfl)
    (sums_stops Fence.wide 5 trivial rfl (by omega) (w'.heap.size + 1) w'.heap.size n cap a zs (by omega) h1 hsz _ (by simp) (by simp; omega) bN.cell
      (fun i hi => by obtain ⟨b, off, e, hc⟩ := h3 i hi; have hb := World.block_lt_of_cell? _ _ hc; exact ⟨b, off, e, hb, (hB0.cell (p := ⟨b, off + i, none⟩) hb).trans hc⟩)) belowK_t (belowK_b (by simp; omega)) (Below.refl _ _) (fun _ => rfl)
    (fun pre W => (W.cell? ⟨w'.heap.size, 0, none⟩ = some (.int .i64 (lastT zs pre)) ∧ W.frozen? ⟨w'.heap.size, 0, none⟩ = false) ∧ Below w'.heap.size w' W)
    (fun _ _ _ => False)
    (OwnFrom.and (Own.from (fun s A B row hs hg hr => ⟨cell_kept hs.1 hg hr, (frozen_kept hs.1 hg hr).trans hs.2⟩) _) (ownFrom_below (Nat.le_refl _) (by simp; omega)))
    (fun _ _ _ _ _ hs _ _ => hs)
    ⟨⟨(bS.alloc _).cell, (bS.alloc _).frozen⟩, hB0⟩
    (fun x => { tmps := #[.slice a n cap, undef, .int .i64 0, .int .i64 0, .pointer (some ⟨w'.heap.size, 0, none⟩), undef, .int .i64 (sumTo zs (x + 1)), .slice a n cap, .int .i64 (n : Int), .bool false, .bool false, .slice a n cap, .bool false, .bool false, .slice a n cap, .func (.func 104) #[] #[.pointer (some ⟨w'.heap.size + 1, 0, none⟩)], .int .i64 (sumTo zs x), .int .i64 (sumTo zs (x + 1)), undef, undef, undef, undef], defers := [] }) ?assign ?body ?done ?stop
  case assign =>
    intro l x W K hK
    gi_wp2
    exact hK
  case body =>
    rintro l pre x W ⟨⟨hc, hf⟩, hB⟩ _
    gi_wp2
    exact ⟨(KeepsOthers.setCell _ _ _).from _, (Below.refl w'.heap.size W).setCell (p := ⟨w'.heap.size, 0, none⟩) (Nat.le_refl _) _, ⟨by rw [lastT_snoc]; exact World.cell?_setCell_same' _ _ _ (by rw [hc]; rfl), by rw [World.frozen?_setCell]; exact hf⟩, hB.setCell (p := ⟨w'.heap.size, 0, none⟩) (Nat.le_refl _) _⟩
  case done =>
    rintro D ys W hD rfl ⟨⟨hc, _⟩, hB⟩ hK
    rw [lastT_range, hS] at hc
    gi_wp2
    refine ⟨by simp, .inl ⟨_, _, rfl, run_takeDeferred hK, ?_⟩⟩
    exact ⟨_, results_tmp2 rfl _ _ _, rfl, hB.trans (belowK_b (w := w') (Nat.le_refl _) W D _ _ (by simp at hD; omega) hK rfl rfl)⟩
  case stop =>
    rintro D c pre W _ _ h _
    exact h.elim

theorem total_bad (zs : Nat → Int) (n : Nat) (v : Value) (w : World) (h : Row w v n fun i => .int .i64 (zs i)) (k : Nat) (hk : k < n) (hb : bad (zs k)) :
    Calls Tryz.prog 64 #[v] w fun e w' => e = .returned (.tuple #[.int .i64 0, .int .i64 30]) ∧ w' = w := by
  obtain ⟨a, cap, rfl, h1, h2, h3⟩ := id h
  have F := fun w (h : Row w (.slice a n cap) n fun i => .int .i64 (zs i)) => contains_yes zs n _ w h k hk hb
  by_cases hn : 64 < n
  · have t : (64 : Int) < (n : Int) := by omega
    go_enter Tryz.func64, Tryz.ntmps64
    go_wp2_with fail
    go_ret2
    exact ⟨rfl, rfl⟩
  · have t : ¬ (64 : Int) < (n : Int) := by omega
    go_enter Tryz.func64, Tryz.ntmps64
    go_wp2_with fail
    refine (F _ h).mono ?_
    rintro e w1 ⟨rfl, rfl⟩
    go_wp2_with fail
    go_ret2
    exact ⟨rfl, rfl⟩
theorem total_long (n cap : Nat) (a : Option Addr) (w : World) (hn : 64 < n) :
    Calls Tryz.prog 64 #[.slice a n cap] w fun e w' => e = .returned (.tuple #[.int .i64 0, .int .i64 30]) ∧ w' = w := by
  have t : (64 : Int) < (n : Int) := by omega
  go_enter Tryz.func64, Tryz.ntmps64
  go_wp2_with fail
  go_ret2
  exact ⟨rfl, rfl⟩

/-- n numbers are a curve: their sum is not 0, each is one that may be. -/
structure Curve (zs : Nat → Int) (n : Nat) : Prop where
  len : n ≤ 64
  each : ∀ i, 0 ≤ zs i ∧ zs i ≤ 1048576
  beyond : ∀ i, n ≤ i → zs i = 0
  some : 0 < sumTo zs n
theorem total_right (zs : Nat → Int) (n : Nat) (v : Value) (w : World) (h : Row w v n fun i => .int .i64 (zs i)) (hc : Curve zs n) (S : Int) (hS : Hid (sumTo zs n = S)) :
    Calls Tryz.prog 64 #[v] w fun e w' => e = .returned (.tuple #[.int .i64 S, .int .i64 0]) ∧ Below w.heap.size w w' :=
  total_sum zs n v w h hc.len hc.each S hS (by have := hc.some; rw [hS.out] at this; exact this)
theorem total_wrong (zs : Nat → Int) (n : Nat) (v : Value) (w : World) (h : Row w v n fun i => .int .i64 (zs i)) (hb : ∀ i, n ≤ i → zs i = 0) (hc : ¬ Curve zs n) :
    Calls Tryz.prog 64 #[v] w fun e w' => e = .returned (.tuple #[.int .i64 0, .int .i64 30]) ∧ Below w.heap.size w w' := by
  by_cases hn : 64 < n
  · obtain ⟨a, cap, rfl, _, _, _⟩ := h
    exact (total_long n cap a w hn).mono fun e w' ⟨he, hw⟩ => ⟨he, by rw [hw]; exact Below.refl _ _⟩
  by_cases hg : ∃ k, k < n ∧ bad (zs k)
  · obtain ⟨k, hk, hkb⟩ := hg
    exact (total_bad zs n v w h k hk hkb).mono fun e w' ⟨he, hw⟩ => ⟨he, by rw [hw]; exact Below.refl _ _⟩
  have each : ∀ i, 0 ≤ zs i ∧ zs i ≤ 1048576 := fun i => by
    by_cases hi : i < n
    · have : ¬ bad (zs i) := fun hb => hg ⟨i, hi, hb⟩
      unfold bad at this; omega
    · rw [hb i (by omega)]; omega
  refine total_none zs n v w h (by omega) each ?_
  have := sumTo_pos zs (fun i => (each i).1) n
  by_cases e : 0 < sumTo zs n
  · exact absurd ⟨by omega, each, hb, e⟩ hc
  · omega
theorem check_right (zs : Nat → Int) (n : Nat) (v : Value) (w : World) (h : Row w v n fun i => .int .i64 (zs i)) (hc : Curve zs n) :
    Calls Tryz.prog 35 #[v] w fun e w' => e = .returned (.int .i64 0) ∧ Below w.heap.size w w' := by
  have F := fun w h => total_right zs n v w h hc _ rfl
  generalize sumTo zs n = S at *
  go_enter Tryz.func35, Tryz.ntmps35
  go_wp2_with fail
  refine (F _ h).mono ?_
  rintro e w1 ⟨rfl, hb1⟩
  go_wp2_with fail
  go_ret
  exact ⟨rfl, hb1⟩
theorem check_wrong (zs : Nat → Int) (n : Nat) (v : Value) (w : World) (h : Row w v n fun i => .int .i64 (zs i)) (hb : ∀ i, n ≤ i → zs i = 0) (hc : ¬ Curve zs n) :
    Calls Tryz.prog 35 #[v] w fun e w' => e = .returned (.int .i64 30) ∧ Below w.heap.size w w' := by
  have F := fun w h => total_wrong zs n v w h hb hc
  go_enter Tryz.func35, Tryz.ntmps35
  go_wp2_with fail
  refine (F _ h).mono ?_
  rintro e w1 ⟨rfl, hb1⟩
  go_wp2_with fail
  go_ret
  exact ⟨rfl, hb1⟩
end Go.Proofs.YtepkmbpadhfbmaaGreatDoor
/-
  Contracts of ask's within, rightSpan, rightChange, noChange, noOrder: each looks at an ask that is handed in by value.
-/
namespace Go.Proofs.YtepkmbpadhfbmaaGreatDoor
open Go.ChangeShapes Go.WideShapes Go.ChangeAt Go.RowKit Go.Lib

/-- A number is from low to high. -/
def inB (n low high : Int) : Bool := decide (low ≤ n) && decide (n ≤ high)
theorem inB_true {n low high : Int} : inB n low high = true ↔ low ≤ n ∧ n ≤ high := by unfold inB; simp
theorem inB_false {n low high : Int} : inB n low high = false ↔ n < low ∨ high < n := by
  unfold inB
  by_cases h : low ≤ n <;> simp [h] <;> omega
set_option maxHeartbeats 1000000 in
theorem askWithin_any (n low high : Int) (w : World) :
    Calls Tryz.prog 55 #[.int .i64 n, .int .i64 low, .int .i64 high] w fun e w' => e = .returned (.bool (inB n low high)) ∧ w' = w := by
  by_cases h1 : low ≤ n
  · by_cases h2 : n ≤ high
    · rw [inB_true.2 ⟨h1, h2⟩]
      go_enter Tryz.func55, Tryz.ntmps55
      go_wp2
      go_ret
      exact ⟨rfl, rfl⟩
    · rw [inB_false.2 (.inr (by omega))]
      go_enter Tryz.func55, Tryz.ntmps55
      go_wp2
      go_ret
      exact ⟨rfl, rfl⟩
  · rw [inB_false.2 (.inl (by omega))]
    go_enter Tryz.func55, Tryz.ntmps55
    go_wp2
    go_ret
    exact ⟨rfl, rfl⟩
/-- The ask that a block holds. -/
abbrev boxA (w : World) (k : Int) (i t c s : ByteArray) (sd q p al st en ra sh : Int) (cv : Value) : World := w.alloc (.cells #[.int .i64 k, .string i, .string t, .string c, .string s, .int .i64 sd, .int .i64 q, .int .i64 p, .int .i64 al, .int .i64 st, .int .i64 en, .int .i64 ra, .int .i64 sh, cv] 24)
theorem boxA_below (w : World) (k : Int) (i t c s : ByteArray) (sd q p al st en ra sh : Int) (cv : Value) : Below w.heap.size w (boxA w k i t c s sd q p al st en ra sh cv) := (Below.refl _ w).alloc (Nat.le_refl _) _
set_option maxHeartbeats 1000000 in
theorem rightSpan_any (k : Int) (i t c s : ByteArray) (sd q p al st en ra sh : Int) (cv : Value) (w : World) (h1 : -9223372036854775808 ≤ en - st) (h2 : en - st ≤ 9223372036854775807) :
    Calls Tryz.prog 34 #[.agg #[.int .i64 k, .string i, .string t, .string c, .string s, .int .i64 sd, .int .i64 q, .int .i64 p, .int .i64 al, .int .i64 st, .int .i64 en, .int .i64 ra, .int .i64 sh, cv]] w fun e w' => e = .returned (.bool (inB (en - st) 1 1073741824)) ∧ Below w.heap.size w w' := by
  have F := fun w => askWithin_any (en - st) 1 1073741824 w
  go_enter Tryz.func34, Tryz.ntmps34
  go_wp2_with fail
  refine (F _).mono ?_
  rintro e w1 ⟨rfl, rfl⟩
  go_wp2_with fail
  go_ret
  exact ⟨rfl, boxA_below w k i t c s sd q p al st en ra sh cv⟩
/-- What can be amended is right. -/
def chgB (q p en : Int) : Bool := inB q 1 1099511627776 && inB p 1 1099511627776 && inB en 0 1099511627776
set_option maxHeartbeats 2000000 in
theorem rightChange_any (k : Int) (i t c s : ByteArray) (sd q p al st en ra sh : Int) (cv : Value) (w : World) :
    Calls Tryz.prog 22 #[.agg #[.int .i64 k, .string i, .string t, .string c, .string s, .int .i64 sd, .int .i64 q, .int .i64 p, .int .i64 al, .int .i64 st, .int .i64 en, .int .i64 ra, .int .i64 sh, cv]] w fun e w' => e = .returned (.bool (chgB q p en)) ∧ Below w.heap.size w w' := by
  have F1 := fun w => askWithin_any q 1 1099511627776 w
  have F2 := fun w => askWithin_any p 1 1099511627776 w
  have F3 := fun w => askWithin_any en 0 1099511627776 w
  unfold chgB
  cases h1 : inB q 1 1099511627776 with
  | false =>
    rw [h1] at F1
    go_enter Tryz.func22, Tryz.ntmps22
    go_wp2_with fail
    refine (F1 _).mono ?_
    rintro e w1 ⟨rfl, rfl⟩
    go_wp2_with fail
    go_ret
    exact ⟨rfl, boxA_below w k i t c s sd q p al st en ra sh cv⟩
  | true =>
    cases h2 : inB p 1 1099511627776 with
    | false =>
      rw [h1] at F1
      rw [h2] at F2
      go_enter Tryz.func22, Tryz.ntmps22
      go_wp2_with fail
      refine (F1 _).mono ?_
      rintro e w1 ⟨rfl, rfl⟩
      go_wp2_with fail
      refine (F2 _).mono ?_
      rintro e w1 ⟨rfl, rfl⟩
      go_wp2_with fail
      go_ret
      exact ⟨rfl, boxA_below w k i t c s sd q p al st en ra sh cv⟩
    | true =>
      rw [h1] at F1
      rw [h2] at F2
      go_enter Tryz.func22, Tryz.ntmps22
      go_wp2_with fail
      refine (F1 _).mono ?_
      rintro e w1 ⟨rfl, rfl⟩
      go_wp2_with fail
      refine (F2 _).mono ?_
      rintro e w1 ⟨rfl, rfl⟩
      go_wp2_with fail
      refine (F3 _).mono ?_
      rintro e w1 ⟨rfl, rfl⟩
      go_wp2_with fail
      go_ret
      exact ⟨rfl, boxA_below w k i t c s sd q p al st en ra sh cv⟩
/-- Block b holds the ask. -/
def AskAt (w : World) (b : Nat) (k : Int) (i t c s : ByteArray) (sd q p al st en ra sh : Int) (cv : Value) : Prop := w.cell? ⟨b, 0, none⟩ = some (.int .i64 k) ∧ w.cell? ⟨b, 1, none⟩ = some (.string i) ∧ w.cell? ⟨b, 2, none⟩ = some (.string t) ∧ w.cell? ⟨b, 3, none⟩ = some (.string c) ∧ w.cell? ⟨b, 4, none⟩ = some (.string s) ∧ w.cell? ⟨b, 5, none⟩ = some (.int .i64 sd) ∧ w.cell? ⟨b, 6, none⟩ = some (.int .i64 q) ∧ w.cell? ⟨b, 7, none⟩ = some (.int .i64 p) ∧ w.cell? ⟨b, 8, none⟩ = some (.int .i64 al) ∧ w.cell? ⟨b, 9, none⟩ = some (.int .i64 st) ∧ w.cell? ⟨b, 10, none⟩ = some (.int .i64 en) ∧ w.cell? ⟨b, 11, none⟩ = some (.int .i64 ra) ∧ w.cell? ⟨b, 12, none⟩ = some (.int .i64 sh) ∧ w.cell? ⟨b, 13, none⟩ = some (cv)
theorem AskAt.box (w : World) (k : Int) (i t c s : ByteArray) (sd q p al st en ra sh : Int) (cv : Value) : AskAt (boxA w k i t c s sd q p al st en ra sh cv) w.heap.size k i t c s sd q p al st en ra sh cv := by
  refine ⟨?_, ?_, ?_, ?_, ?_, ?_, ?_, ?_, ?_, ?_, ?_, ?_, ?_, ?_⟩ <;> simp
theorem AskAt.lt {w : World} {b : Nat} {k : Int} {i t c s : ByteArray} {sd q p al st en ra sh : Int} {cv : Value} (h : AskAt w b k i t c s sd q p al st en ra sh cv) : b < w.heap.size := World.block_lt_of_cell? _ _ h.1
theorem AskAt.still {w w' : World} {b n : Nat} {k : Int} {i t c s : ByteArray} {sd q p al st en ra sh : Int} {cv : Value} (h : AskAt w b k i t c s sd q p al st en ra sh cv) (hb : Below n w w') (hn : b < n) : AskAt w' b k i t c s sd q p al st en ra sh cv := by
  obtain ⟨h0, h1, h2, h3, h4, h5, h6, h7, h8, h9, h10, h11, h12, h13⟩ := h
  exact ⟨(hb.cell (p := ⟨b, 0, none⟩) hn).trans h0, (hb.cell (p := ⟨b, 1, none⟩) hn).trans h1, (hb.cell (p := ⟨b, 2, none⟩) hn).trans h2, (hb.cell (p := ⟨b, 3, none⟩) hn).trans h3, (hb.cell (p := ⟨b, 4, none⟩) hn).trans h4, (hb.cell (p := ⟨b, 5, none⟩) hn).trans h5, (hb.cell (p := ⟨b, 6, none⟩) hn).trans h6, (hb.cell (p := ⟨b, 7, none⟩) hn).trans h7, (hb.cell (p := ⟨b, 8, none⟩) hn).trans h8, (hb.cell (p := ⟨b, 9, none⟩) hn).trans h9, (hb.cell (p := ⟨b, 10, none⟩) hn).trans h10, (hb.cell (p := ⟨b, 11, none⟩) hn).trans h11, (hb.cell (p := ⟨b, 12, none⟩) hn).trans h12, (hb.cell (p := ⟨b, 13, none⟩) hn).trans h13⟩
/-- Nothing is set that can be amended. -/
def noChgB (q p en : Int) : Bool := (q == 0) && ((p == 0) && (en == 0))
set_option maxHeartbeats 4000000 in
theorem noChange_any (k : Int) (i t c s : ByteArray) (sd q p al st en ra sh : Int) (cv : Value) (w : World) :
    Calls Tryz.prog 24 #[.agg #[.int .i64 k, .string i, .string t, .string c, .string s, .int .i64 sd, .int .i64 q, .int .i64 p, .int .i64 al, .int .i64 st, .int .i64 en, .int .i64 ra, .int .i64 sh, cv]] w fun e w' => e = .returned (.bool (noChgB q p en)) ∧ Below w.heap.size w w' := by
  have B := boxA_below w k i t c s sd q p al st en ra sh cv
  cases h0 : (q == 0)
  case false =>
    rw [show noChgB q p en = false by unfold noChgB; simp [h0]]
    go_enter Tryz.func24, Tryz.ntmps24
    go_wp2_with fail
    go_ret
    exact ⟨rfl, B⟩
  cases h1 : (p == 0)
  case false =>
    rw [show noChgB q p en = false by unfold noChgB; simp [h1]]
    go_enter Tryz.func24, Tryz.ntmps24
    go_wp2_with fail
    go_ret
    exact ⟨rfl, B⟩
  cases h2 : (en == 0)
  case false =>
    rw [show noChgB q p en = false by unfold noChgB; simp [h2]]
    go_enter Tryz.func24, Tryz.ntmps24
    go_wp2_with fail
    go_ret
    exact ⟨rfl, B⟩
  rw [show noChgB q p en = true by unfold noChgB; simp [h0, h1, h2]]
  go_enter Tryz.func24, Tryz.ntmps24
  go_wp2_with fail
  go_ret
  exact ⟨rfl, B⟩
/-- Nothing is set that new orders alone have. -/
def noOrdB (c s : ByteArray) (sd al st : Int) (n : Nat) (ra sh : Int) : Bool := c.toList.isEmpty && (s.toList.isEmpty && ((sd == 0) && ((al == 0) && ((st == 0) && (((n : Int) == 0) && ((ra == 0) && (sh == 0)))))))
set_option maxHeartbeats 4000000 in
theorem noOrder_any (k : Int) (i t c s : ByteArray) (sd q p al st en ra sh : Int) (a : Option Addr) (n cap : Nat) (w : World) :
    Calls Tryz.prog 23 #[.agg #[.int .i64 k, .string i, .string t, .string c, .string s, .int .i64 sd, .int .i64 q, .int .i64 p, .int .i64 al, .int .i64 st, .int .i64 en, .int .i64 ra, .int .i64 sh, .slice a n cap]] w fun e w' => e = .returned (.bool (noOrdB c s sd al st n ra sh)) ∧ Below w.heap.size w w' := by
  have B := boxA_below w k i t c s sd q p al st en ra sh (.slice a n cap)
  cases h0 : c.toList.isEmpty
  case false =>
    rw [show noOrdB c s sd al st n ra sh = false by unfold noOrdB; simp [h0]]
    go_enter Tryz.func23, Tryz.ntmps23
    go_wp2_with fail
    go_ret
    exact ⟨rfl, B⟩
  cases h1 : s.toList.isEmpty
  case false =>
    rw [show noOrdB c s sd al st n ra sh = false by unfold noOrdB; simp [h1]]
    go_enter Tryz.func23, Tryz.ntmps23
    go_wp2_with fail
    go_ret
    exact ⟨rfl, B⟩
  cases h2 : (sd == 0)
  case false =>
    rw [show noOrdB c s sd al st n ra sh = false by unfold noOrdB; simp [h2]]
    go_enter Tryz.func23, Tryz.ntmps23
    go_wp2_with fail
    go_ret
    exact ⟨rfl, B⟩
  cases h3 : (al == 0)
  case false =>
    rw [show noOrdB c s sd al st n ra sh = false by unfold noOrdB; simp [h3]]
    go_enter Tryz.func23, Tryz.ntmps23
    go_wp2_with fail
    go_ret
    exact ⟨rfl, B⟩
  cases h4 : (st == 0)
  case false =>
    rw [show noOrdB c s sd al st n ra sh = false by unfold noOrdB; simp [h4]]
    go_enter Tryz.func23, Tryz.ntmps23
    go_wp2_with fail
    go_ret
    exact ⟨rfl, B⟩
  cases h5 : ((n : Int) == 0)
  case false =>
    rw [show noOrdB c s sd al st n ra sh = false by unfold noOrdB; simp [h5]]
    go_enter Tryz.func23, Tryz.ntmps23
    go_wp2_with fail
    go_ret
    exact ⟨rfl, B⟩
  cases h6 : (ra == 0)
  case false =>
    rw [show noOrdB c s sd al st n ra sh = false by unfold noOrdB; simp [h6]]
    go_enter Tryz.func23, Tryz.ntmps23
    go_wp2_with fail
    go_ret
    exact ⟨rfl, B⟩
  cases h7 : (sh == 0)
  case false =>
    rw [show noOrdB c s sd al st n ra sh = false by unfold noOrdB; simp [h7]]
    go_enter Tryz.func23, Tryz.ntmps23
    go_wp2_with fail
    go_ret
    exact ⟨rfl, B⟩
  rw [show noOrdB c s sd al st n ra sh = true by unfold noOrdB; simp [h0, h1, h2, h3, h4, h5, h6, h7]]
  go_enter Tryz.func23, Tryz.ntmps23
  go_wp2_with fail
  go_ret
  exact ⟨rfl, B⟩
end Go.Proofs.YtepkmbpadhfbmaaGreatDoor
/-
  Contracts of ask's rightAlgo, rightOrder and Right: whether an ask is right, whatever it holds.
-/
namespace Go.Proofs.YtepkmbpadhfbmaaGreatDoor
open Go.ChangeShapes Go.WideShapes Go.ChangeAt Go.RowKit Go.Lib

/-- What all algorithms of a new order want is right. -/
def ordB (c s : ByteArray) (sd q p st en : Int) : Bool := vldB c && (vldB s && (inB sd 1 2 && (chgB q p en && (inB st 0 1099511627776 && inB (en - st) 1 1073741824))))
set_option maxHeartbeats 4000000 in
theorem rightOrder_any (k : Int) (i t c s : ByteArray) (sd q p al st en ra sh : Int) (cv : Value) (w : World) :
    Calls Tryz.prog 20 #[.agg #[.int .i64 k, .string i, .string t, .string c, .string s, .int .i64 sd, .int .i64 q, .int .i64 p, .int .i64 al, .int .i64 st, .int .i64 en, .int .i64 ra, .int .i64 sh, cv]] w fun e w' => e = .returned (.bool (ordB c s sd q p st en)) ∧ Below w.heap.size w w' := by
  have B : Hid (Below w.heap.size w (boxA w k i t c s sd q p al st en ra sh cv)) := boxA_below w k i t c s sd q p al st en ra sh cv
  have A0 : Hid (AskAt (boxA w k i t c s sd q p al st en ra sh cv) w.heap.size k i t c s sd q p al st en ra sh cv) := AskAt.box w k i t c s sd q p al st en ra sh cv
  have F0 := fun w => valid_any c w
  have F1 := fun w => valid_any s w
  have F2 := fun w => askWithin_any sd 1 2 w
  have F3 := fun w => rightChange_any k i t c s sd q p al st en ra sh cv w
  have F4 := fun w => askWithin_any st 0 1099511627776 w
  cases h0 : vldB c
  case false =>
    rw [show ordB c s sd q p st en = false by unfold ordB; simp [h0]]
    rw [h0] at F0
    clear h0 F1 F2 F3 F4
    go_enter Tryz.func20, Tryz.ntmps20
    go_wp2_with fail
    refine (F0 _).mono ?_
    rintro e w1 ⟨rfl, b1⟩
    have HB1 : Hid (Below w.heap.size w w1) := B.out.trans (b1.mono (by simp))
    have A1 := A0.out.still b1 (by simp)
    have HA1 : Hid (AskAt w1 w.heap.size k i t c s sd q p al st en ra sh cv) := A1
    obtain ⟨d0, d1, d2, d3, d4, d5, d6, d7, d8, d9, d10, d11, d12, d13⟩ := A1
    clear b1
    go_wp2_with fail
    go_ret
    exact ⟨rfl, HB1.out⟩
  cases h1 : vldB s
  case false =>
    rw [show ordB c s sd q p st en = false by unfold ordB; simp [h1]]
    rw [h0] at F0
    rw [h1] at F1
    clear h0 h1 F2 F3 F4
    go_enter Tryz.func20, Tryz.ntmps20
    go_wp2_with fail
    refine (F0 _).mono ?_
    rintro e w1 ⟨rfl, b1⟩
    have HB1 : Hid (Below w.heap.size w w1) := B.out.trans (b1.mono (by simp))
    have A1 := A0.out.still b1 (by simp)
    have HA1 : Hid (AskAt w1 w.heap.size k i t c s sd q p al st en ra sh cv) := A1
    obtain ⟨d0, d1, d2, d3, d4, d5, d6, d7, d8, d9, d10, d11, d12, d13⟩ := A1
    clear b1
    go_wp2_with fail
    refine (F1 _).mono ?_
    rintro e w2 ⟨rfl, b2⟩
    have HB2 : Hid (Below w.heap.size w w2) := HB1.out.trans (b2.mono HB1.out.size)
    have A2 := HA1.out.still b2 HA1.out.lt
    clear d0 d1 d2 d3 d4 d5 d6 d7 d8 d9 d10 d11 d12 d13
    have HA2 : Hid (AskAt w2 w.heap.size k i t c s sd q p al st en ra sh cv) := A2
    obtain ⟨d0, d1, d2, d3, d4, d5, d6, d7, d8, d9, d10, d11, d12, d13⟩ := A2
    clear b2
    go_wp2_with fail
    go_ret
    exact ⟨rfl, HB2.out⟩
  cases h2 : inB sd 1 2
  case false =>
    rw [show ordB c s sd q p st en = false by unfold ordB; simp [h2]]
    rw [h0] at F0
    rw [h1] at F1
    rw [h2] at F2
    clear h0 h1 h2 F3 F4
    go_enter Tryz.func20, Tryz.ntmps20
    go_wp2_with fail
    refine (F0 _).mono ?_
    rintro e w1 ⟨rfl, b1⟩
    have HB1 : Hid (Below w.heap.size w w1) := B.out.trans (b1.mono (by simp))
    have A1 := A0.out.still b1 (by simp)
    have HA1 : Hid (AskAt w1 w.heap.size k i t c s sd q p al st en ra sh cv) := A1
    obtain ⟨d0, d1, d2, d3, d4, d5, d6, d7, d8, d9, d10, d11, d12, d13⟩ := A1
    clear b1
    go_wp2_with fail
    refine (F1 _).mono ?_
    rintro e w2 ⟨rfl, b2⟩
    have HB2 : Hid (Below w.heap.size w w2) := HB1.out.trans (b2.mono HB1.out.size)
    have A2 := HA1.out.still b2 HA1.out.lt
    clear d0 d1 d2 d3 d4 d5 d6 d7 d8 d9 d10 d11 d12 d13
    have HA2 : Hid (AskAt w2 w.heap.size k i t c s sd q p al st en ra sh cv) := A2
    obtain ⟨d0, d1, d2, d3, d4, d5, d6, d7, d8, d9, d10, d11, d12, d13⟩ := A2
    clear b2
    go_wp2_with fail
    refine (F2 _).mono ?_
    rintro e w' ⟨rfl, rfl⟩
    go_wp2_with fail
    go_ret
    exact ⟨rfl, HB2.out⟩
  cases h3 : chgB q p en
  case false =>
    rw [show ordB c s sd q p st en = false by unfold ordB; simp [h3]]
    rw [h0] at F0
    rw [h1] at F1
    rw [h2] at F2
    rw [h3] at F3
    clear h0 h1 h2 h3 F4
    go_enter Tryz.func20, Tryz.ntmps20
    go_wp2_with fail
    refine (F0 _).mono ?_
    rintro e w1 ⟨rfl, b1⟩
    have HB1 : Hid (Below w.heap.size w w1) := B.out.trans (b1.mono (by simp))
    have A1 := A0.out.still b1 (by simp)
    have HA1 : Hid (AskAt w1 w.heap.size k i t c s sd q p al st en ra sh cv) := A1
    obtain ⟨d0, d1, d2, d3, d4, d5, d6, d7, d8, d9, d10, d11, d12, d13⟩ := A1
    clear b1
    go_wp2_with fail
    refine (F1 _).mono ?_
    rintro e w2 ⟨rfl, b2⟩
    have HB2 : Hid (Below w.heap.size w w2) := HB1.out.trans (b2.mono HB1.out.size)
    have A2 := HA1.out.still b2 HA1.out.lt
    clear d0 d1 d2 d3 d4 d5 d6 d7 d8 d9 d10 d11 d12 d13
    have HA2 : Hid (AskAt w2 w.heap.size k i t c s sd q p al st en ra sh cv) := A2
    obtain ⟨d0, d1, d2, d3, d4, d5, d6, d7, d8, d9, d10, d11, d12, d13⟩ := A2
    clear b2
    go_wp2_with fail
    refine (F2 _).mono ?_
    rintro e w' ⟨rfl, rfl⟩
    go_wp2_with fail
    refine (F3 _).mono ?_
    rintro e w3 ⟨rfl, b3⟩
    have HB3 : Hid (Below w.heap.size w w3) := HB2.out.trans (b3.mono HB2.out.size)
    have A3 := HA2.out.still b3 HA2.out.lt
    clear d0 d1 d2 d3 d4 d5 d6 d7 d8 d9 d10 d11 d12 d13
    have HA3 : Hid (AskAt w3 w.heap.size k i t c s sd q p al st en ra sh cv) := A3
    obtain ⟨d0, d1, d2, d3, d4, d5, d6, d7, d8, d9, d10, d11, d12, d13⟩ := A3
    clear b3
    go_wp2_with fail
    go_ret
    exact ⟨rfl, HB3.out⟩
  cases h4 : inB st 0 1099511627776
  case false =>
    rw [show ordB c s sd q p st en = false by unfold ordB; simp [h4]]
    rw [h0] at F0
    rw [h1] at F1
    rw [h2] at F2
    rw [h3] at F3
    rw [h4] at F4
    clear h0 h1 h2 h3 h4
    go_enter Tryz.func20, Tryz.ntmps20
    go_wp2_with fail
    refine (F0 _).mono ?_
    rintro e w1 ⟨rfl, b1⟩
    have HB1 : Hid (Below w.heap.size w w1) := B.out.trans (b1.mono (by simp))
    have A1 := A0.out.still b1 (by simp)
    have HA1 : Hid (AskAt w1 w.heap.size k i t c s sd q p al st en ra sh cv) := A1
    obtain ⟨d0, d1, d2, d3, d4, d5, d6, d7, d8, d9, d10, d11, d12, d13⟩ := A1
    clear b1
    go_wp2_with fail
    refine (F1 _).mono ?_
    rintro e w2 ⟨rfl, b2⟩
    have HB2 : Hid (Below w.heap.size w w2) := HB1.out.trans (b2.mono HB1.out.size)
    have A2 := HA1.out.still b2 HA1.out.lt
    clear d0 d1 d2 d3 d4 d5 d6 d7 d8 d9 d10 d11 d12 d13
    have HA2 : Hid (AskAt w2 w.heap.size k i t c s sd q p al st en ra sh cv) := A2
    obtain ⟨d0, d1, d2, d3, d4, d5, d6, d7, d8, d9, d10, d11, d12, d13⟩ := A2
    clear b2
    go_wp2_with fail
    refine (F2 _).mono ?_
    rintro e w' ⟨rfl, rfl⟩
    go_wp2_with fail
    refine (F3 _).mono ?_
    rintro e w3 ⟨rfl, b3⟩
    have HB3 : Hid (Below w.heap.size w w3) := HB2.out.trans (b3.mono HB2.out.size)
    have A3 := HA2.out.still b3 HA2.out.lt
    clear d0 d1 d2 d3 d4 d5 d6 d7 d8 d9 d10 d11 d12 d13
    have HA3 : Hid (AskAt w3 w.heap.size k i t c s sd q p al st en ra sh cv) := A3
    obtain ⟨d0, d1, d2, d3, d4, d5, d6, d7, d8, d9, d10, d11, d12, d13⟩ := A3
    clear b3
    go_wp2_with fail
    refine (F4 _).mono ?_
    rintro e w' ⟨rfl, rfl⟩
    go_wp2_with fail
    go_ret
    exact ⟨rfl, HB3.out⟩
  have F5 := fun w => rightSpan_any k i t c s sd q p al st en ra sh cv w (by unfold chgB at h3; simp only [Bool.and_eq_true, inB_true] at h3; rw [inB_true] at h4; omega) (by unfold chgB at h3; simp only [Bool.and_eq_true, inB_true] at h3; rw [inB_true] at h4; omega)
  rw [show ordB c s sd q p st en = inB (en - st) 1 1073741824 by unfold ordB; simp [h0, h1, h2, h3, h4]]
  rw [h0] at F0
  rw [h1] at F1
  rw [h2] at F2
  rw [h3] at F3
  rw [h4] at F4
  clear h0 h1 h2 h3 h4
  go_enter Tryz.func20, Tryz.ntmps20
  go_wp2_with fail
  refine (F0 _).mono ?_
  rintro e w1 ⟨rfl, b1⟩
  have HB1 : Hid (Below w.heap.size w w1) := B.out.trans (b1.mono (by simp))
  have A1 := A0.out.still b1 (by simp)
  have HA1 : Hid (AskAt w1 w.heap.size k i t c s sd q p al st en ra sh cv) := A1
  obtain ⟨d0, d1, d2, d3, d4, d5, d6, d7, d8, d9, d10, d11, d12, d13⟩ := A1
  clear b1
  go_wp2_with fail
  refine (F1 _).mono ?_
  rintro e w2 ⟨rfl, b2⟩
  have HB2 : Hid (Below w.heap.size w w2) := HB1.out.trans (b2.mono HB1.out.size)
  have A2 := HA1.out.still b2 HA1.out.lt
  clear d0 d1 d2 d3 d4 d5 d6 d7 d8 d9 d10 d11 d12 d13
  have HA2 : Hid (AskAt w2 w.heap.size k i t c s sd q p al st en ra sh cv) := A2
  obtain ⟨d0, d1, d2, d3, d4, d5, d6, d7, d8, d9, d10, d11, d12, d13⟩ := A2
  clear b2
  go_wp2_with fail
  refine (F2 _).mono ?_
  rintro e w' ⟨rfl, rfl⟩
  go_wp2_with fail
  refine (F3 _).mono ?_
  rintro e w3 ⟨rfl, b3⟩
  have HB3 : Hid (Below w.heap.size w w3) := HB2.out.trans (b3.mono HB2.out.size)
  have A3 := HA2.out.still b3 HA2.out.lt
  clear d0 d1 d2 d3 d4 d5 d6 d7 d8 d9 d10 d11 d12 d13
  have HA3 : Hid (AskAt w3 w.heap.size k i t c s sd q p al st en ra sh cv) := A3
  obtain ⟨d0, d1, d2, d3, d4, d5, d6, d7, d8, d9, d10, d11, d12, d13⟩ := A3
  clear b3
  go_wp2_with fail
  refine (F4 _).mono ?_
  rintro e w' ⟨rfl, rfl⟩
  go_wp2_with fail
  refine (F5 _).mono ?_
  rintro e w4 ⟨rfl, b4⟩
  have HB4 : Hid (Below w.heap.size w w4) := HB3.out.trans (b4.mono HB3.out.size)
  have A4 := HA3.out.still b4 HA3.out.lt
  clear d0 d1 d2 d3 d4 d5 d6 d7 d8 d9 d10 d11 d12 d13
  have HA4 : Hid (AskAt w4 w.heap.size k i t c s sd q p al st en ra sh cv) := A4
  obtain ⟨d0, d1, d2, d3, d4, d5, d6, d7, d8, d9, d10, d11, d12, d13⟩ := A4
  clear b4
  go_wp2_with fail
  go_ret
  exact ⟨rfl, HB4.out⟩
/-- Numbers are a curve. -/
def curB (l : List Int) : Bool := decide (1 ≤ l.length) && (decide (l.length ≤ 64) && (l.all (fun x => decide (0 ≤ x) && decide (x ≤ 1048576)) && l.any (fun x => decide (0 < x))))
def curE (l : List Int) : Int := if curB l = true then 0 else 30
theorem sum_pos_some {l : List Int} (h : ∀ x ∈ l, 0 ≤ x) : ∀ n, n ≤ l.length → (0 < sumTo (fun i => l.getD i 0) n ↔ ∃ j, j < n ∧ 0 < l.getD j 0)
  | 0, _ => by simp [sumTo]
  | n + 1, hn => by
    have ih := sum_pos_some h n (by omega)
    have hz : ∀ i, 0 ≤ l.getD i 0 := fun i => by
      by_cases hi : i < l.length
      · rw [List.getD_eq_getElem?_getD, List.getElem?_eq_getElem hi]
        exact h _ (List.getElem_mem hi)
      · rw [List.getD_eq_getElem?_getD, List.getElem?_eq_none (by omega)]
        simp
    have h0 := sumTo_pos (fun i => l.getD i 0) hz n
    show 0 < sumTo (fun i => l.getD i 0) n + l.getD n 0 ↔ _
    have hn0 := hz n
    constructor
    · intro hs
      by_cases e : 0 < sumTo (fun i => l.getD i 0) n
      · obtain ⟨j, hj, hp⟩ := ih.1 e
        exact ⟨j, by omega, hp⟩
      · exact ⟨n, by omega, by omega⟩
    · rintro ⟨j, hj, hp⟩
      by_cases e : j = n
      · subst e; omega
      · have := ih.2 ⟨j, by omega, hp⟩
        omega
theorem getD_of {l : List Int} {i : Nat} (hi : i < l.length) : l.getD i 0 = l[i] := by simp [hi]
theorem getD_beyond {l : List Int} {i : Nat} (hi : l.length ≤ i) : l.getD i 0 = 0 := by simp [hi]
theorem curve_iff (l : List Int) : Curve (fun i => l.getD i 0) l.length ↔ curB l = true := by
  unfold curB
  simp only [Bool.and_eq_true, decide_eq_true_eq, List.all_eq_true, List.any_eq_true]
  constructor
  · rintro ⟨h1, h2, h3, h4⟩
    have all : ∀ x ∈ l, 0 ≤ x ∧ x ≤ 1048576 := fun x hx => by
      obtain ⟨j, hj, rfl⟩ := List.getElem_of_mem hx
      have := h2 j
      rw [getD_of hj] at this
      exact this
    obtain ⟨j, hj, hp⟩ := (sum_pos_some (fun x hx => (all x hx).1) l.length (Nat.le_refl _)).1 h4
    rw [getD_of hj] at hp
    exact ⟨by omega, h1, all, l[j], List.getElem_mem hj, hp⟩
  · rintro ⟨h1, h2, h3, x, hx, hp⟩
    refine ⟨h2, fun i => ?_, fun i hi => getD_beyond hi, ?_⟩
    · by_cases hi : i < l.length
      · rw [getD_of hi]
        exact h3 _ (List.getElem_mem hi)
      · rw [getD_beyond (by omega)]
        omega
    · obtain ⟨j, hj, rfl⟩ := List.getElem_of_mem hx
      exact (sum_pos_some (fun x hx => (h3 x hx).1) l.length (Nat.le_refl _)).2 ⟨j, hj, by rw [getD_of hj]; exact hp⟩
theorem check_any (l : List Int) (v : Value) (w : World) (h : Row w v l.length fun i => .int .i64 (l.getD i 0)) :
    Calls Tryz.prog 35 #[v] w fun e w' => e = .returned (.int .i64 (curE l)) ∧ Below w.heap.size w w' := by
  unfold curE
  by_cases hc : curB l = true
  · rw [if_pos hc]
    exact check_right _ l.length v w h ((curve_iff l).2 hc)
  · rw [if_neg hc]
    exact check_wrong _ l.length v w h (fun i hi => getD_beyond hi) (fun k => hc ((curve_iff l).1 k))
theorem curE_beq (l : List Int) : (curE l == 0) = curB l := by
  unfold curE
  cases h : curB l <;> simp
/-- It is an algorithm, and just what that one wants is set. -/
def algB (al ra sh : Int) (n : Nat) (cb : Bool) : Bool :=
  if al = 1 then ((n : Int) == 0) && ((ra == 0) && (sh == 0))
  else if al = 2 then cb && ((ra == 0) && (sh == 0))
  else if al = 3 then ((n : Int) == 0) && (inB ra 1 10000 && (sh == 0))
  else if al = 4 then ((n : Int) == 0) && ((ra == 0) && inB sh 1 1099511627776)
  else false
set_option maxHeartbeats 8000000 in
theorem rightAlgo_at (k : Int) (i t c s : ByteArray) (sd q p al st en ra sh : Int) (a : Option Addr) (n cap : Nat) (cb : Bool) (w : World)
    (FC0 : ∀ w1, Below w.heap.size w w1 → Calls Tryz.prog 35 #[.slice a n cap] w1 fun e w' => e = .returned (.int .i64 (if cb = true then 0 else 30)) ∧ Below w1.heap.size w1 w') :
    Calls Tryz.prog 21 #[.agg #[.int .i64 k, .string i, .string t, .string c, .string s, .int .i64 sd, .int .i64 q, .int .i64 p, .int .i64 al, .int .i64 st, .int .i64 en, .int .i64 ra, .int .i64 sh, .slice a n cap]] w fun e w' => e = .returned (.bool (algB al ra sh n cb)) ∧ Below w.heap.size w w' := by
  have B0 := boxA_below w k i t c s sd q p al st en ra sh (.slice a n cap)
  have FC := FC0 _ B0
  have B : Hid (Below w.heap.size w (boxA w k i t c s sd q p al st en ra sh (.slice a n cap))) := B0
  have A0 : Hid (AskAt (boxA w k i t c s sd q p al st en ra sh (.slice a n cap)) w.heap.size k i t c s sd q p al st en ra sh (.slice a n cap)) := AskAt.box w k i t c s sd q p al st en ra sh (.slice a n cap)
  have FR := fun w => askWithin_any ra 1 10000 w
  have FS := fun w => askWithin_any sh 1 1099511627776 w
  clear B0 FC0
  by_cases e1 : al = 1
  · have AB : ∀ x, algB al ra sh n x = (((n : Int) == 0) && ((ra == 0) && (sh == 0))) := fun x => by unfold algB; rw [if_pos e1]
    have g1 : (al == 1) = true := beq_iff_eq.2 e1
    clear e1
    cases h0 : ((n : Int) == 0)
    case false =>
      rw [AB, show (((n : Int) == 0) && ((ra == 0) && (sh == 0))) = false by simp [h0]]
      clear AB
      go_enter Tryz.func21, Tryz.ntmps21
      go_wp2_with fail
      go_ret
      exact ⟨rfl, B.out⟩
    cases h1 : (ra == 0)
    case false =>
      rw [AB, show (((n : Int) == 0) && ((ra == 0) && (sh == 0))) = false by simp [h1]]
      clear AB
      go_enter Tryz.func21, Tryz.ntmps21
      go_wp2_with fail
      go_ret
      exact ⟨rfl, B.out⟩
    cases h2 : (sh == 0)
    case false =>
      rw [AB, show (((n : Int) == 0) && ((ra == 0) && (sh == 0))) = false by simp [h2]]
      clear AB
      go_enter Tryz.func21, Tryz.ntmps21
      go_wp2_with fail
      go_ret
      exact ⟨rfl, B.out⟩
    rw [AB, show (((n : Int) == 0) && ((ra == 0) && (sh == 0))) = true by simp [h0, h1, h2]]
    clear AB
    go_enter Tryz.func21, Tryz.ntmps21
    go_wp2_with fail
    go_ret
    exact ⟨rfl, B.out⟩
  have g1 : (al == 1) = false := beq_false_of_ne e1
  by_cases e2 : al = 2
  · have AB : ∀ x, algB al ra sh n x = (x && ((ra == 0) && (sh == 0))) := fun x => by unfold algB; rw [if_neg e1, if_pos e2]
    have g2 : (al == 2) = true := beq_iff_eq.2 e2
    clear e2
    cases h0 : cb
    case false =>
      rw [AB, show (false && ((ra == 0) && (sh == 0))) = false by simp []]
      clear AB
      rw [h0] at FC
      simp only [Bool.false_eq_true, if_false] at FC
      go_enter Tryz.func21, Tryz.ntmps21
      go_wp2_with fail
      refine (FC).mono ?_
      rintro e w1 ⟨rfl, b1⟩
      have HB1 : Hid (Below w.heap.size w w1) := B.out.trans (b1.mono (by simp))
      have A1 := A0.out.still b1 (by simp)
      have HA1 : Hid (AskAt w1 w.heap.size k i t c s sd q p al st en ra sh (.slice a n cap)) := A1
      obtain ⟨d0, d1, d2, d3, d4, d5, d6, d7, d8, d9, d10, d11, d12, d13⟩ := A1
      clear b1
      go_wp2_with fail
      go_ret
      exact ⟨rfl, HB1.out⟩
    cases h1 : (ra == 0)
    case false =>
      rw [AB, show (true && ((ra == 0) && (sh == 0))) = false by simp [h1]]
      clear AB
      rw [h0] at FC
      simp only [if_true] at FC
      go_enter Tryz.func21, Tryz.ntmps21
      go_wp2_with fail
      refine (FC).mono ?_
      rintro e w1 ⟨rfl, b1⟩
      have HB1 : Hid (Below w.heap.size w w1) := B.out.trans (b1.mono (by simp))
      have A1 := A0.out.still b1 (by simp)
      have HA1 : Hid (AskAt w1 w.heap.size k i t c s sd q p al st en ra sh (.slice a n cap)) := A1
      obtain ⟨d0, d1, d2, d3, d4, d5, d6, d7, d8, d9, d10, d11, d12, d13⟩ := A1
      clear b1
      go_wp2_with fail
      go_ret
      exact ⟨rfl, HB1.out⟩
    cases h2 : (sh == 0)
    case false =>
      rw [AB, show (true && ((ra == 0) && (sh == 0))) = false by simp [h2]]
      clear AB
      rw [h0] at FC
      simp only [if_true] at FC
      go_enter Tryz.func21, Tryz.ntmps21
      go_wp2_with fail
      refine (FC).mono ?_
      rintro e w1 ⟨rfl, b1⟩
      have HB1 : Hid (Below w.heap.size w w1) := B.out.trans (b1.mono (by simp))
      have A1 := A0.out.still b1 (by simp)
      have HA1 : Hid (AskAt w1 w.heap.size k i t c s sd q p al st en ra sh (.slice a n cap)) := A1
      obtain ⟨d0, d1, d2, d3, d4, d5, d6, d7, d8, d9, d10, d11, d12, d13⟩ := A1
      clear b1
      go_wp2_with fail
      go_ret
      exact ⟨rfl, HB1.out⟩
    rw [AB, show (true && ((ra == 0) && (sh == 0))) = true by simp [h1, h2]]
    clear AB
    rw [h0] at FC
    simp only [if_true] at FC
    go_enter Tryz.func21, Tryz.ntmps21
    go_wp2_with fail
    refine (FC).mono ?_
    rintro e w1 ⟨rfl, b1⟩
    have HB1 : Hid (Below w.heap.size w w1) := B.out.trans (b1.mono (by simp))
    have A1 := A0.out.still b1 (by simp)
    have HA1 : Hid (AskAt w1 w.heap.size k i t c s sd q p al st en ra sh (.slice a n cap)) := A1
    obtain ⟨d0, d1, d2, d3, d4, d5, d6, d7, d8, d9, d10, d11, d12, d13⟩ := A1
    clear b1
    go_wp2_with fail
    go_ret
    exact ⟨rfl, HB1.out⟩
  have g2 : (al == 2) = false := beq_false_of_ne e2
  by_cases e3 : al = 3
  · have AB : ∀ x, algB al ra sh n x = (((n : Int) == 0) && (inB ra 1 10000 && (sh == 0))) := fun x => by unfold algB; rw [if_neg e1, if_neg e2, if_pos e3]
    have g3 : (al == 3) = true := beq_iff_eq.2 e3
    clear e3
    cases h0 : ((n : Int) == 0)
    case false =>
      rw [AB, show (((n : Int) == 0) && (inB ra 1 10000 && (sh == 0))) = false by simp [h0]]
      clear AB
      go_enter Tryz.func21, Tryz.ntmps21
      go_wp2_with fail
      go_ret
      exact ⟨rfl, B.out⟩
    cases h1 : inB ra 1 10000
    case false =>
      rw [AB, show (((n : Int) == 0) && (inB ra 1 10000 && (sh == 0))) = false by simp [h1]]
      clear AB
      rw [h1] at FR
      go_enter Tryz.func21, Tryz.ntmps21
      go_wp2_with fail
      refine (FR _).mono ?_
      rintro e w' ⟨rfl, rfl⟩
      go_wp2_with fail
      go_ret
      exact ⟨rfl, B.out⟩
    cases h2 : (sh == 0)
    case false =>
      rw [AB, show (((n : Int) == 0) && (inB ra 1 10000 && (sh == 0))) = false by simp [h2]]
      clear AB
      rw [h1] at FR
      go_enter Tryz.func21, Tryz.ntmps21
      go_wp2_with fail
      refine (FR _).mono ?_
      rintro e w' ⟨rfl, rfl⟩
      go_wp2_with fail
      go_ret
      exact ⟨rfl, B.out⟩
    rw [AB, show (((n : Int) == 0) && (inB ra 1 10000 && (sh == 0))) = true by simp [h0, h1, h2]]
    clear AB
    rw [h1] at FR
    go_enter Tryz.func21, Tryz.ntmps21
    go_wp2_with fail
    refine (FR _).mono ?_
    rintro e w' ⟨rfl, rfl⟩
    go_wp2_with fail
    go_ret
    exact ⟨rfl, B.out⟩
  have g3 : (al == 3) = false := beq_false_of_ne e3
  by_cases e4 : al = 4
  · have AB : ∀ x, algB al ra sh n x = (((n : Int) == 0) && ((ra == 0) && inB sh 1 1099511627776)) := fun x => by unfold algB; rw [if_neg e1, if_neg e2, if_neg e3, if_pos e4]
    have g4 : (al == 4) = true := beq_iff_eq.2 e4
    clear e4
    cases h0 : ((n : Int) == 0)
    case false =>
      rw [AB, show (((n : Int) == 0) && ((ra == 0) && inB sh 1 1099511627776)) = false by simp [h0]]
      clear AB
      go_enter Tryz.func21, Tryz.ntmps21
      go_wp2_with fail
      go_ret
      exact ⟨rfl, B.out⟩
    cases h1 : (ra == 0)
    case false =>
      rw [AB, show (((n : Int) == 0) && ((ra == 0) && inB sh 1 1099511627776)) = false by simp [h1]]
      clear AB
      go_enter Tryz.func21, Tryz.ntmps21
      go_wp2_with fail
      go_ret
      exact ⟨rfl, B.out⟩
    cases h2 : inB sh 1 1099511627776
    case false =>
      rw [AB, show (((n : Int) == 0) && ((ra == 0) && inB sh 1 1099511627776)) = false by simp [h2]]
      clear AB
      rw [h2] at FS
      go_enter Tryz.func21, Tryz.ntmps21
      go_wp2_with fail
      refine (FS _).mono ?_
      rintro e w' ⟨rfl, rfl⟩
      go_wp2_with fail
      go_ret
      exact ⟨rfl, B.out⟩
    rw [AB, show (((n : Int) == 0) && ((ra == 0) && inB sh 1 1099511627776)) = true by simp [h0, h1, h2]]
    clear AB
    rw [h2] at FS
    go_enter Tryz.func21, Tryz.ntmps21
    go_wp2_with fail
    refine (FS _).mono ?_
    rintro e w' ⟨rfl, rfl⟩
    go_wp2_with fail
    go_ret
    exact ⟨rfl, B.out⟩
  have g4 : (al == 4) = false := beq_false_of_ne e4
  rw [show algB al ra sh n cb = false by unfold algB; rw [if_neg e1, if_neg e2, if_neg e3, if_neg e4]]
  clear e1 e2 e3 e4
  go_enter Tryz.func21, Tryz.ntmps21
  go_wp2_with fail
  go_ret
  exact ⟨rfl, B.out⟩
theorem rightAlgo_any (k : Int) (i t c s : ByteArray) (sd q p al st en ra sh : Int) (a : Option Addr) (cap : Nat) (cz : List Int) (w : World) (h : Row w (.slice a cz.length cap) cz.length fun i => .int .i64 (cz.getD i 0)) :
    Calls Tryz.prog 21 #[.agg #[.int .i64 k, .string i, .string t, .string c, .string s, .int .i64 sd, .int .i64 q, .int .i64 p, .int .i64 al, .int .i64 st, .int .i64 en, .int .i64 ra, .int .i64 sh, .slice a cz.length cap]] w fun e w' => e = .returned (.bool (algB al ra sh cz.length (curB cz))) ∧ Below w.heap.size w w' :=
  rightAlgo_at k i t c s sd q p al st en ra sh a cz.length cap (curB cz) w (fun w1 b => check_any cz _ w1 (h.below b))
end Go.Proofs.YtepkmbpadhfbmaaGreatDoor
