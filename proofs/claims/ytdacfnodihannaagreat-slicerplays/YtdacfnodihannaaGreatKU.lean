/-
  Contracts of package curve's within, noWeight, sums and its function value, and of the library's IndexFunc and ContainsFunc with noWeight, for every input.
-/
import Derived.RangeFuncNested
import Derived.RangeFuncBound
import Derived.RangeFuncCalls
import Derived.RangeFuncLeaves
import Derived.Shelf.Abstract
import Derived.Shelf.RegionOpen
import Derived.WalkKit
import Derived.OwnWalkIn
import Derived.TacticsInMore
import Derived.LoopNIn
import Derived.LoopIn
import Derived.ProofKit
import Derived.Outline
import Derived.WalkLawsBesides
import Derived.Test.YtdacfnodihannaaGreatLists
import Derived.Test.YtdacfnodihannaaGreatKA
namespace Go.Proofs.YtdacfnodihannaaGreat
open Go.ChangeShapes Go.WideShapes Go.ChangeAt Go.RowKit Go.Shelf

attribute [local go_sem] Oper.semAt_some

theorem within_yes (n a b : Int) (w : World) (h1 : a ≤ n) (h2 : n ≤ b) :
    Calls Tryz.prog 89 #[.int .i64 n, .int .i64 a, .int .i64 b] w fun e w' => e = .returned (.bool true) ∧ w' = w := by
  go_enter Tryz.func89, Tryz.ntmps89
  go_wp2
  go_ret
  exact ⟨by simp, rfl⟩
theorem within_no (n a b : Int) (w : World) (h : n < a ∨ b < n) :
    Calls Tryz.prog 89 #[.int .i64 n, .int .i64 a, .int .i64 b] w fun e w' => e = .returned (.bool false) ∧ w' = w := by
  by_cases k : a ≤ n
  · have h2 : b < n := by omega
    go_enter Tryz.func89, Tryz.ntmps89
    go_wp2
    go_ret
    exact ⟨by simp; omega, rfl⟩
  · have h2 : n < a := by omega
    go_enter Tryz.func89, Tryz.ntmps89
    go_wp2
    go_ret
    exact ⟨rfl, rfl⟩
theorem noWeight_no (n : Int) (w : World) (h1 : 0 ≤ n) (h2 : n ≤ 1048576) :
    Calls Tryz.prog 96 #[.int .i64 n] w fun e w' => e = .returned (.bool false) ∧ w' = w := by
  go_enter Tryz.func96, Tryz.ntmps96
  go_wp2_with fail
  refine (within_yes n 0 1048576 _ h1 h2).mono ?_
  rintro e w1 ⟨rfl, rfl⟩
  go_wp2
  go_ret
  exact ⟨rfl, rfl⟩
theorem noWeight_yes (n : Int) (w : World) (h : n < 0 ∨ 1048576 < n) :
    Calls Tryz.prog 96 #[.int .i64 n] w fun e w' => e = .returned (.bool true) ∧ w' = w := by
  go_enter Tryz.func96, Tryz.ntmps96
  go_wp2_with fail
  refine (within_no n 0 1048576 _ h).mono ?_
  rintro e w1 ⟨rfl, rfl⟩
  go_wp2
  go_ret
  exact ⟨rfl, rfl⟩
/-- A number that may be no weight. -/
def bad (n : Int) : Prop := n < 0 ∨ 1048576 < n

set_option maxHeartbeats 1000000 in
theorem curveIndex_any (zs : Nat → Int) (n : Nat) (v : Value) (w : World) (h : Row w v n fun i => .int .i64 (zs i)) :
    Calls Tryz.prog 111 #[v, .func (.func 96) #[] #[]] w fun e w' => w' = w ∧
      ((e = .returned (.int .i64 (-1)) ∧ ∀ i, i < n → ¬ bad (zs i)) ∨ (∃ k : Nat, k < n ∧ e = .returned (.int .i64 (k : Int)) ∧ bad (zs k))) := by
  obtain ⟨a, cap, rfl, h1, h2, h3⟩ := id h
  unfold maxLen at h2
  go_enter Tryz.func111, Tryz.ntmps111
  go_wp2_with fail
  go_loopw [8] (fun c wr => ∃ k : Nat, c = .int .i64 (k : Int) ∧ k ≤ n ∧ (∀ i, i < k → ¬ bad (zs i)) ∧ wr = w) (fun c _ => n - (intOf c).toNat)
  case atStart => exact ⟨0, rfl, Nat.zero_le _, fun i hi => absurd hi (by omega), rfl⟩
  case round =>
    obtain ⟨k, rfl, hk, hg, rfl⟩ := hrel
    by_cases hlt : k < n
    · have t : (k : Int) < (n : Int) := by omega
      obtain ⟨b, off, rfl, hc⟩ := h3 k hlt
      have HG : Hid (∀ i, i < k → ¬ bad (zs i)) := hg
      clear h3 hg
      by_cases hb : bad (zs k)
      · have F := fun w => noWeight_yes (zs k) w hb
        go_wp2_with fail
        refine (F _).mono ?_
        rintro e w1 ⟨rfl, rfl⟩
        go_wp2_with fail
        go_ret
        exact ⟨rfl, .inr ⟨k, hlt, rfl, hb⟩⟩
      · have hb' := hb
        unfold bad at hb'
        have F := fun w => noWeight_no (zs k) w (by omega) (by omega)
        have HB : Hid (¬ bad (zs k)) := hb
        clear hb hb'
        go_wp2_with fail
        refine (F _).mono ?_
        rintro e w1 ⟨rfl, rfl⟩
        go_wp2_with fail
        go_roundw
        case rel => exact ⟨k + 1, by simp, by omega, fun i hi => if e : i = k then e ▸ HB.out else HG.out i (by omega), trivial⟩
        case measure => simp [intOf]; omega
    · have hkn : k = n := by omega
      subst hkn
      have t : ¬ (k : Int) < (k : Int) := by omega
      go_wp2_with fail
      go_ret
      exact ⟨rfl, .inl ⟨rfl, hg⟩⟩
theorem contains_any (zs : Nat → Int) (n : Nat) (v : Value) (w : World) (h : Row w v n fun i => .int .i64 (zs i)) :
    Calls Tryz.prog 95 #[v, .func (.func 96) #[] #[]] w fun e w' => w' = w ∧
      ((e = .returned (.bool false) ∧ ∀ i, i < n → ¬ bad (zs i)) ∨ (∃ k : Nat, k < n ∧ e = .returned (.bool true) ∧ bad (zs k))) := by
  go_enter Tryz.func95, Tryz.ntmps95
  go_wp2_with fail
  refine (curveIndex_any zs n v _ h).mono ?_
  rintro e w1 ⟨rfl, ⟨rfl, hg⟩ | ⟨k, hk, rfl, hb⟩⟩
  · go_wp2_with fail
    go_ret
    exact ⟨rfl, .inl ⟨rfl, hg⟩⟩
  · go_wp2_with fail
    go_ret
    exact ⟨rfl, .inr ⟨k, hk, by simp, hb⟩⟩
theorem sums_any (a : Option Addr) (n cap : Nat) (w : World) :
    Calls Tryz.prog 97 #[.slice a n cap] w fun e w' => e = .returned (.func (.func 112) #[] #[.pointer (some ⟨w.heap.size, 0, none⟩)]) ∧ w' = w.alloc (.cells #[.slice a n cap] 22) := by
  go_enter Tryz.func97, Tryz.ntmps97
  go_wp2
  go_ret
  exact ⟨rfl, rfl⟩

set_option maxRecDepth 100000 in
set_option maxHeartbeats 2000000 in
/-- The function value that sums hands back, for every loop body that keeps what lay below n₀: it tells the sums one by one, to the end or until it is told to stop. -/
theorem sums1_in (F : Fence) (m : Nat) (hf : F.fn 112) (hro : F.round = none) (hm : 1 ≤ m) (l Bs n₀ n cap : Nat) (a : Option Addr) (zs : Nat → Int) (hn : n ≤ 1000000) (hcap : n ≤ cap) (hs : ∀ k, k ≤ n → -9223372036854775808 ≤ sumTo zs k ∧ sumTo zs k ≤ 9223372036854775807) (J Jx : List Nat → World → Prop)
    (hY : ∀ pre x W, J pre W → pre.length < n → YieldAt F (m - 1) Tryz.prog l #[.int .i64 (sumTo zs x), .int .i64 (sumTo zs (x + 1))] W fun e W' =>
      (e = .returned (.bool true) ∧ J (pre ++ [x]) W' ∧ Below n₀ W W') ∨ (e = .returned (.bool false) ∧ Jx (pre ++ [x]) W'))
    (W : World) (hBs : W.cell? ⟨Bs, 0, none⟩ = some (.slice a n cap)) (h3 : ∀ i, i < n → ∃ b off, a = some ⟨b, off, none⟩ ∧ b < n₀ ∧ W.cell? ⟨b, off + i, none⟩ = some (.int .i64 (zs i))) (h0 : J [] W) :
    CallsIn F m Tryz.prog 112 #[.func (.yield l) #[] #[], .pointer (some ⟨Bs, 0, none⟩)] W fun e W' => (∃ v, e = .returned v) ∧
      ((∃ ys, ys = List.range n ∧ J ys W') ∨ (∃ pre, (∃ k, k ≤ n ∧ pre = List.range k) ∧ Jx pre W')) := by
  refine callsIn_of_wp Tryz.func112 rfl hf ?_ hro
  simp only [Tryz.ntmps112, List.size_toArray, List.length_cons, List.length_nil, Nat.reduceAdd, Nat.reduceSub, Array.replicate_succ, Array.replicate_zero, List.push_toArray, List.append_toArray, List.nil_append, List.cons_append]
  gi_wp2
  gi_loopw [3, 9] (fun s i wr => ∃ k : Nat, k ≤ n ∧ s = .int .i64 (sumTo zs k) ∧ i = .int .i64 (k : Int) ∧ J (List.range k) wr ∧ Below n₀ W wr)
    (fun _ i _ => n - (intOf i).toNat)
  case atStart => exact ⟨0, Nat.zero_le _, rfl, rfl, h0, Below.refl _ _⟩
  case round =>
    obtain ⟨k, hk, rfl, rfl, hJs, hnx⟩ := hrel
    by_cases hlt : k < n
    · obtain ⟨b, off, rfl, hb, hc⟩ := h3 k hlt
      have hcx' : wr.cell? ⟨b, off + k, none⟩ = some (.int .i64 (zs k)) := (hnx.cell (p := ⟨b, off + k, none⟩) hb).trans hc
      obtain ⟨fn, tmps, assign, body, hy, hR⟩ := hY _ k wr hJs (by rw [List.length_range]; exact hlt)
      have hw : sumTo zs (k + 1) = wrap64 (sumTo zs k + zs k) := by
        have := hs (k + 1) (by omega)
        have e : sumTo zs (k + 1) = sumTo zs k + zs k := rfl
        rw [e] at this ⊢
        unfold wrap64; omega
      have HW : Hid (wrap64 (sumTo zs k + zs k) = sumTo zs (k + 1)) := hw.symm
      rw [hw] at hy
      clear hw h3 hc
      gi_wp2
      refine hR.mono ?_
      rintro e W3 (⟨rfl, hJ3, hk3⟩ | ⟨rfl, hJx3⟩)
      · gi_wp2
        go_roundw
        case rel => exact ⟨k + 1, by omega, by rw [HW.out], by simp, by rw [List.range_succ]; exact hJ3, hnx.trans hk3⟩
        case measure => simp [intOf]; omega
      · gi_wp2
        refine bodyPost_ret (results_none rfl _ _ _) rfl ?_
        exact ⟨⟨_, rfl⟩, .inr ⟨_, ⟨k + 1, by omega, List.range_succ.symm⟩, hJx3⟩⟩
    · obtain rfl : k = n := by omega
      gi_wp2
      go_end0
      exact ⟨⟨_, rfl⟩, .inl ⟨_, rfl, hJs⟩⟩
end Go.Proofs.YtdacfnodihannaaGreat
/-
  Contracts of package curve's Total and Check, for every list of weights.
-/
namespace Go.Proofs.YtdacfnodihannaaGreat
open Go.ChangeShapes Go.WideShapes Go.ChangeAt Go.RowKit Go.Shelf

attribute [local go_sem] Oper.semAt_some

theorem sums_stops (F : Fence) (m : Nat) (hf : F.fn 112) (hro : F.round = none) (hm : 1 ≤ m) (Bs n₀ n cap : Nat) (a : Option Addr) (zs : Nat → Int) (hn : n ≤ 1000000) (hcap : n ≤ cap) (hs : ∀ k, k ≤ n → -9223372036854775808 ≤ sumTo zs k ∧ sumTo zs k ≤ 9223372036854775807)
    (w : World) (hBs : Bs < w.heap.size) (hn₀ : n₀ ≤ w.heap.size) (hc : w.cell? ⟨Bs, 0, none⟩ = some (.slice a n cap)) (h3 : ∀ i, i < n → ∃ b off, a = some ⟨b, off, none⟩ ∧ b < n₀ ∧ w.cell? ⟨b, off + i, none⟩ = some (.int .i64 (zs i))) :
    SeqStopsK F m Tryz.prog 112 #[.pointer (some ⟨Bs, 0, none⟩)] (fun x : Nat => #[Value.int .i64 (sumTo zs x), Value.int .i64 (sumTo zs (x + 1))]) (Below n₀) (fun ys => ys = List.range n) (fun pre => ∃ k, k ≤ n ∧ pre = List.range k) n w := fun l J Jx W hW _ _ hY h0 =>
  sums1_in F m hf hro hm l Bs n₀ n cap a zs hn hcap hs J Jx hY W ((hW.cell (p := ⟨Bs, 0, none⟩) hBs).trans hc)
    (fun i hi => by obtain ⟨b, off, e, hb, hc⟩ := h3 i hi; exact ⟨b, off, e, hb, (hW.cell (p := ⟨b, off + i, none⟩) (Nat.lt_of_lt_of_le hb hn₀)).trans hc⟩) h0

/-- The last sum that was told. -/
def lastT (zs : Nat → Int) (pre : List Nat) : Int := match pre.getLast? with | none => 0 | some x => sumTo zs (x + 1)
theorem lastT_nil (zs : Nat → Int) : lastT zs [] = 0 := rfl
theorem lastT_snoc (zs : Nat → Int) (pre : List Nat) (x : Nat) : lastT zs (pre ++ [x]) = sumTo zs (x + 1) := by simp [lastT]
theorem lastT_range (zs : Nat → Int) : ∀ n, lastT zs (List.range n) = sumTo zs n
  | 0 => rfl
  | n + 1 => by rw [List.range_succ, lastT_snoc]

theorem sumTo_mono (zs : Nat → Int) (hz : ∀ i, 0 ≤ zs i) : ∀ k m, k ≤ m → sumTo zs k ≤ sumTo zs m
  | k, 0, h => by
    obtain rfl : k = 0 := by omega
    exact Int.le_refl _
  | k, m + 1, h => by
    by_cases e : k = m + 1
    · subst e; exact Int.le_refl _
    · have := sumTo_mono zs hz k m (by omega)
      have := hz m
      simp only [sumTo]; omega
theorem sumTo_pos (zs : Nat → Int) (hz : ∀ i, 0 ≤ zs i) (k : Nat) : 0 ≤ sumTo zs k := sumTo_mono zs hz 0 k (Nat.zero_le _)
theorem sumTo_le (zs : Nat → Int) (hz : ∀ i, zs i ≤ 1048576) : ∀ k, sumTo zs k ≤ 1048576 * (k : Int)
  | 0 => by simp [sumTo]
  | k + 1 => by have := sumTo_le zs hz k; have := hz k; simp only [sumTo]; omega
theorem sumTo_beyond (zs : Nat → Int) (n : Nat) (hz : ∀ i, n ≤ i → zs i = 0) : ∀ k, n ≤ k → sumTo zs k = sumTo zs n
  | 0, h => by
    obtain rfl : n = 0 := by omega
    rfl
  | k + 1, h => by
    by_cases e : n = k + 1
    · subst e; rfl
    · have := sumTo_beyond zs n hz k (by omega)
      have := hz k (by omega)
      simp only [sumTo]; omega

theorem contains_no (zs : Nat → Int) (n : Nat) (v : Value) (w : World) (h : Row w v n fun i => .int .i64 (zs i)) (hg : ∀ i, i < n → ¬ bad (zs i)) :
    Calls Tryz.prog 95 #[v, .func (.func 96) #[] #[]] w fun e w' => e = .returned (.bool false) ∧ w' = w :=
  (contains_any zs n v w h).mono fun _ _ ⟨hw, h'⟩ => by
    rcases h' with ⟨rfl, _⟩ | ⟨k, hk, _, hb⟩
    · exact ⟨rfl, hw⟩
    · exact absurd hb (hg k hk)
theorem contains_yes (zs : Nat → Int) (n : Nat) (v : Value) (w : World) (h : Row w v n fun i => .int .i64 (zs i)) (k : Nat) (hk : k < n) (hb : bad (zs k)) :
    Calls Tryz.prog 95 #[v, .func (.func 96) #[] #[]] w fun e w' => e = .returned (.bool true) ∧ w' = w :=
  (contains_any zs n v w h).mono fun _ _ ⟨hw, h'⟩ => by
    rcases h' with ⟨rfl, hg⟩ | ⟨j, hj, rfl, _⟩
    · exact absurd hb (hg k hk)
    · exact ⟨rfl, hw⟩

set_option maxRecDepth 100000 in
set_option maxHeartbeats 2000000 in
theorem total_sum (zs : Nat → Int) (n : Nat) (v : Value) (w : World) (h : Row w v n fun i => .int .i64 (zs i)) (hn : n ≤ 64) (hz : ∀ i, 0 ≤ zs i ∧ zs i ≤ 1048576) (S : Int) (hS : Hid (sumTo zs n = S)) (hp : 0 < S) :
    Calls Tryz.prog 84 #[v] w fun e w' => e = .returned (.tuple #[.int .i64 S, .int .i64 0]) ∧ Below w.heap.size w w' := by
  obtain ⟨a, cap, rfl, h1, h2, h3⟩ := id h
  have FC := fun w (h : Row w (.slice a n cap) n fun i => .int .i64 (zs i)) => contains_no zs n _ w h (fun i _ => by have := hz i; unfold bad; omega)
  have t : ¬ (64 : Int) < (n : Int) := by omega
  refine (callsIn_wide (n := 6)).1 ?_
  refine callsIn_of_wp_marks Tryz.func84 rfl trivial ?_ rfl
  simp only [Tryz.ntmps84, List.size_toArray, List.length_cons, List.length_nil, Nat.reduceAdd, Nat.reduceSub, Array.replicate_succ, Array.replicate_zero, List.push_toArray, List.append_toArray, List.nil_append, List.cons_append]
  gi_wp2_with (first
    | (refine ⟨trivial, ?_⟩; gi_at_call 95; refine (callsIn_wide.2 (FC _ h)).mono ?_; rintro e w' ⟨rfl, rfl⟩)
    | (refine ⟨trivial, ?_⟩; gi_at_call 97; refine (callsIn_wide.2 (sums_any _ _ _ _)).mono ?_; rintro e w' ⟨rfl, rfl⟩))
  have bS := Boxed.new w' 3 (.int .i64 0)
  have bN := Boxed.new (w'.alloc (.cells #[.int .i64 0] 3)) 22 (.slice a n cap)
  rw [World.size_alloc] at bN
  have hB0 : Below w'.heap.size w' ((w'.alloc (.cells #[.int .i64 0] 3)).alloc (.cells #[.slice a n cap] 22)) := ((Below.refl _ w').alloc (Nat.le_refl _) _).alloc (by simp) _
  have hsz : ∀ k, k ≤ n → -9223372036854775808 ≤ sumTo zs k ∧ sumTo zs k ≤ 9223372036854775807 := fun k hk => by
    have := sumTo_pos zs (fun i => (hz i).1) k
    have := sumTo_le zs (fun i => (hz i).2) k
    omega
  refine wpIn_rangeFunc_ownG rfl (by omega) (gf := 112) (lb := #[.pointer (some ⟨w'.heap.size + 1, 0, none⟩)]) rfl trivial (enters_of Tryz.func112 (by kernel_rfl) rfl)
    (sums_stops Fence.wide 5 trivial rfl (by omega) (w'.heap.size + 1) w'.heap.size n cap a zs (by omega) h1 hsz _ (by simp) (by simp; omega) bN.cell
      (fun i hi => by obtain ⟨b, off, e, hc⟩ := h3 i hi; have hb := World.block_lt_of_cell? _ _ hc; exact ⟨b, off, e, hb, (hB0.cell (p := ⟨b, off + i, none⟩) hb).trans hc⟩)) belowK_t (belowK_b (by simp; omega)) (Below.refl _ _) (fun _ => rfl)
    (fun pre W => (W.cell? ⟨w'.heap.size, 0, none⟩ = some (.int .i64 (lastT zs pre)) ∧ W.frozen? ⟨w'.heap.size, 0, none⟩ = false) ∧ Below w'.heap.size w' W)
    (fun _ _ _ => False)
    (OwnFrom.and (Own.from (fun s A B row hs hg hr => ⟨cell_kept hs.1 hg hr, (frozen_kept hs.1 hg hr).trans hs.2⟩) _) (ownFrom_below (Nat.le_refl _) (by simp; omega)))
    (fun _ _ _ _ _ hs _ _ => hs)
    ⟨⟨(bS.alloc _).cell, (bS.alloc _).frozen⟩, hB0⟩
    (fun x => { tmps := #[.slice a n cap, undef, .int .i64 0, .int .i64 0, .pointer (some ⟨w'.heap.size, 0, none⟩), undef, .int .i64 (sumTo zs (x + 1)), .slice a n cap, .int .i64 (n : Int), .bool false, .bool false, .slice a n cap, .bool false, .bool false, .slice a n cap, .func (.func 112) #[] #[.pointer (some ⟨w'.heap.size + 1, 0, none⟩)], .int .i64 (sumTo zs x), .int .i64 (sumTo zs (x + 1)), undef, undef, undef, undef], defers := [] }) ?assign ?body ?done ?stop
  case assign =>
    intro l x W K hK
    gi_wp2
    exact hK
  case body =>
    rintro l pre x W ⟨⟨hc, hf⟩, hB⟩ _
    gi_wp2
    exact ⟨(KeepsOthers.setCell _ _ _).from _, (Below.refl w'.heap.size W).setCell (p := ⟨w'.heap.size, 0, none⟩) (Nat.le_refl _) _, ⟨by rw [lastT_snoc]; exact World.cell?_setCell_same' _ _ _ (by rw [hc]; rfl), by rw [World.frozen?_setCell]; exact hf⟩, hB.setCell (p := ⟨w'.heap.size, 0, none⟩) (Nat.le_refl _) _⟩
  case done =>
    rintro D ys W hD rfl ⟨⟨hc, _⟩, hB⟩ hK
    rw [lastT_range, hS.out] at hc
    have hne : (S == 0) = false := beq_false_of_ne (by omega)
    gi_wp2
    refine ⟨by simp, .inl ⟨_, _, rfl, run_takeDeferred hK, ?_⟩⟩
    exact ⟨_, results_tmp2 rfl _ _ _, rfl, hB.trans (belowK_b (w := w') (Nat.le_refl _) W D _ _ (by simp at hD; omega) hK rfl rfl)⟩
  case stop =>
    rintro D c pre W _ _ h _
    exact h.elim
set_option maxRecDepth 100000 in
set_option maxHeartbeats 2000000 in
theorem total_none (zs : Nat → Int) (n : Nat) (v : Value) (w : World) (h : Row w v n fun i => .int .i64 (zs i)) (hn : n ≤ 64) (hz : ∀ i, 0 ≤ zs i ∧ zs i ≤ 1048576) (hS : sumTo zs n = 0) :
    Calls Tryz.prog 84 #[v] w fun e w' => e = .returned (.tuple #[.int .i64 0, .int .i64 30]) ∧ Below w.heap.size w w' := by
  obtain ⟨a, cap, rfl, h1, h2, h3⟩ := id h
  have FC := fun w (h : Row w (.slice a n cap) n fun i => .int .i64 (zs i)) => contains_no zs n _ w h (fun i _ => by have := hz i; unfold bad; omega)
  have t : ¬ (64 : Int) < (n : Int) := by omega
  refine (callsIn_wide (n := 6)).1 ?_
  refine callsIn_of_wp_marks Tryz.func84 rfl trivial ?_ rfl
  simp only [Tryz.ntmps84, List.size_toArray, List.length_cons, List.length_nil, Nat.reduceAdd, Nat.reduceSub, Array.replicate_succ, Array.replicate_zero, List.push_toArray, List.append_toArray, List.nil_append, List.cons_append]
  gi_wp2_with (first
    | (refine ⟨trivial, ?_⟩; gi_at_call 95; refine (callsIn_wide.2 (FC _ h)).mono ?_; rintro e w' ⟨rfl, rfl⟩)
    | (refine ⟨trivial, ?_⟩; gi_at_call 97; refine (callsIn_wide.2 (sums_any _ _ _ _)).mono ?_; rintro e w' ⟨rfl, rfl⟩))
  have bS := Boxed.new w' 3 (.int .i64 0)
  have bN := Boxed.new (w'.alloc (.cells #[.int .i64 0] 3)) 22 (.slice a n cap)
  rw [World.size_alloc] at bN
  have hB0 : Below w'.heap.size w' ((w'.alloc (.cells #[.int .i64 0] 3)).alloc (.cells #[.slice a n cap] 22)) := ((Below.refl _ w').alloc (Nat.le_refl _) _).alloc (by simp) _
  have hsz : ∀ k, k ≤ n → -9223372036854775808 ≤ sumTo zs k ∧ sumTo zs k ≤ 9223372036854775807 := fun k hk => by
    have := sumTo_pos zs (fun i => (hz i).1) k
    have := sumTo_le zs (fun i => (hz i).2) k
    omega
  refine wpIn_rangeFunc_ownG rfl (by omega) (gf := 112) (lb := #[.pointer (some ⟨w'.heap.size + 1, 0, none⟩)]) rfl trivial (enters_of Tryz.func112 (by kernel_rfl) rfl)
    (sums_stops Fence.wide 5 trivial rfl (by omega) (w'.heap.size + 1) w'.heap.size n cap a zs (by omega) h1 hsz _ (by simp) (by simp; omega) bN.cell
      (fun i hi => by obtain ⟨b, off, e, hc⟩ := h3 i hi; have hb := World.block_lt_of_cell? _ _ hc; exact ⟨b, off, e, hb, (hB0.cell (p := ⟨b, off + i, none⟩) hb).trans hc⟩)) belowK_t (belowK_b (by simp; omega)) (Below.refl _ _) (fun _ => rfl)
    (fun pre W => (W.cell? ⟨w'.heap.size, 0, none⟩ = some (.int .i64 (lastT zs pre)) ∧ W.frozen? ⟨w'.heap.size, 0, none⟩ = false) ∧ Below w'.heap.size w' W)
    (fun _ _ _ => False)
    (OwnFrom.and (Own.from (fun s A B row hs hg hr => ⟨cell_kept hs.1 hg hr, (frozen_kept hs.1 hg hr).trans hs.2⟩) _) (ownFrom_below (Nat.le_refl _) (by simp; omega)))
    (fun _ _ _ _ _ hs _ _ => hs)
    ⟨⟨(bS.alloc _).cell, (bS.alloc _).frozen⟩, hB0⟩
    (fun x => { tmps := #[.slice a n cap, undef, .int .i64 0, .int .i64 0, .pointer (some ⟨w'.heap.size, 0, none⟩), undef, .int .i64 (sumTo zs (x + 1)), .slice a n cap, .int .i64 (n : Int), .bool false, .bool false, .slice a n cap, .bool false, .bool false, .slice a n cap, .func (.func 112) #[] #[.pointer (some ⟨w'.heap.size + 1, 0, none⟩)], .int .i64 (sumTo zs x), .int .i64 (sumTo zs (x + 1)), undef, undef, undef, undef], defers := [] }) ?assign ?body ?done ?stop
  case assign =>
    intro l x W K hK
    gi_wp2
    exact hK
  case body =>
    rintro l pre x W ⟨⟨hc, hf⟩, hB⟩ _
    gi_wp2
    exact ⟨(KeepsOthers.setCell _ _ _).from _, (Below.refl w'.heap.size W).setCell (p := ⟨w'.heap.size, 0, none⟩) (Nat.le_refl _) _, ⟨by rw [lastT_snoc]; exact World.cell?_setCell_same' _ _ _ (by rw [hc]; rfl), by rw [World.frozen?_setCell]; exact hf⟩, hB.setCell (p := ⟨w'.heap.size, 0, none⟩) (Nat.le_refl _) _⟩
  case done =>
    rintro D ys W hD rfl ⟨⟨hc, _⟩, hB⟩ hK
    rw [lastT_range, hS] at hc
    gi_wp2
    refine ⟨by simp, .inl ⟨_, _, rfl, run_takeDeferred hK, ?_⟩⟩
    exact ⟨_, results_tmp2 rfl _ _ _, rfl, hB.trans (belowK_b (w := w') (Nat.le_refl _) W D _ _ (by simp at hD; omega) hK rfl rfl)⟩
  case stop =>
    rintro D c pre W _ _ h _
    exact h.elim

theorem total_bad (zs : Nat → Int) (n : Nat) (v : Value) (w : World) (h : Row w v n fun i => .int .i64 (zs i)) (k : Nat) (hk : k < n) (hb : bad (zs k)) :
    Calls Tryz.prog 84 #[v] w fun e w' => e = .returned (.tuple #[.int .i64 0, .int .i64 30]) ∧ w' = w := by
  obtain ⟨a, cap, rfl, h1, h2, h3⟩ := id h
  have F := fun w (h : Row w (.slice a n cap) n fun i => .int .i64 (zs i)) => contains_yes zs n _ w h k hk hb
  by_cases hn : 64 < n
  · have t : (64 : Int) < (n : Int) := by omega
    go_enter Tryz.func84, Tryz.ntmps84
    go_wp2_with fail
    go_ret2
    exact ⟨rfl, rfl⟩
  · have t : ¬ (64 : Int) < (n : Int) := by omega
    go_enter Tryz.func84, Tryz.ntmps84
    go_wp2_with fail
    refine (F _ h).mono ?_
    rintro e w1 ⟨rfl, rfl⟩
    go_wp2_with fail
    go_ret2
    exact ⟨rfl, rfl⟩
theorem total_long (n cap : Nat) (a : Option Addr) (w : World) (hn : 64 < n) :
    Calls Tryz.prog 84 #[.slice a n cap] w fun e w' => e = .returned (.tuple #[.int .i64 0, .int .i64 30]) ∧ w' = w := by
  have t : (64 : Int) < (n : Int) := by omega
  go_enter Tryz.func84, Tryz.ntmps84
  go_wp2_with fail
  go_ret2
  exact ⟨rfl, rfl⟩

/-- n numbers are a curve: their sum is not 0, each is one that may be. -/
structure Curve (zs : Nat → Int) (n : Nat) : Prop where
  len : n ≤ 64
  each : ∀ i, 0 ≤ zs i ∧ zs i ≤ 1048576
  beyond : ∀ i, n ≤ i → zs i = 0
  some : 0 < sumTo zs n
theorem total_right (zs : Nat → Int) (n : Nat) (v : Value) (w : World) (h : Row w v n fun i => .int .i64 (zs i)) (hc : Curve zs n) (S : Int) (hS : Hid (sumTo zs n = S)) :
    Calls Tryz.prog 84 #[v] w fun e w' => e = .returned (.tuple #[.int .i64 S, .int .i64 0]) ∧ Below w.heap.size w w' :=
  total_sum zs n v w h hc.len hc.each S hS (by have := hc.some; rw [hS.out] at this; exact this)
theorem total_wrong (zs : Nat → Int) (n : Nat) (v : Value) (w : World) (h : Row w v n fun i => .int .i64 (zs i)) (hb : ∀ i, n ≤ i → zs i = 0) (hc : ¬ Curve zs n) :
    Calls Tryz.prog 84 #[v] w fun e w' => e = .returned (.tuple #[.int .i64 0, .int .i64 30]) ∧ Below w.heap.size w w' := by
  by_cases hn : 64 < n
  · obtain ⟨a, cap, rfl, _, _, _⟩ := h
    exact (total_long n cap a w hn).mono fun e w' ⟨he, hw⟩ => ⟨he, by rw [hw]; exact Below.refl _ _⟩
  by_cases hg : ∃ k, k < n ∧ bad (zs k)
  · obtain ⟨k, hk, hkb⟩ := hg
    exact (total_bad zs n v w h k hk hkb).mono fun e w' ⟨he, hw⟩ => ⟨he, by rw [hw]; exact Below.refl _ _⟩
  have each : ∀ i, 0 ≤ zs i ∧ zs i ≤ 1048576 := fun i => by
    by_cases hi : i < n
    · have : ¬ bad (zs i) := fun hb => hg ⟨i, hi, hb⟩
      unfold bad at this; omega
    · rw [hb i (by omega)]; omega
  refine total_none zs n v w h (by omega) each ?_
  have := sumTo_pos zs (fun i => (each i).1) n
  by_cases e : 0 < sumTo zs n
  · exact absurd ⟨by omega, each, hb, e⟩ hc
  · omega
theorem check_right (zs : Nat → Int) (n : Nat) (v : Value) (w : World) (h : Row w v n fun i => .int .i64 (zs i)) (hc : Curve zs n) :
    Calls Tryz.prog 61 #[v] w fun e w' => e = .returned (.int .i64 0) ∧ Below w.heap.size w w' := by
  have F := fun w h => total_right zs n v w h hc _ rfl
  generalize sumTo zs n = S at *
  go_enter Tryz.func61, Tryz.ntmps61
  go_wp2_with fail
  refine (F _ h).mono ?_
  rintro e w1 ⟨rfl, hb1⟩
  go_wp2_with fail
  go_ret
  exact ⟨rfl, hb1⟩
theorem check_wrong (zs : Nat → Int) (n : Nat) (v : Value) (w : World) (h : Row w v n fun i => .int .i64 (zs i)) (hb : ∀ i, n ≤ i → zs i = 0) (hc : ¬ Curve zs n) :
    Calls Tryz.prog 61 #[v] w fun e w' => e = .returned (.int .i64 30) ∧ Below w.heap.size w w' := by
  have F := fun w h => total_wrong zs n v w h hb hc
  go_enter Tryz.func61, Tryz.ntmps61
  go_wp2_with fail
  refine (F _ h).mono ?_
  rintro e w1 ⟨rfl, hb1⟩
  go_wp2_with fail
  go_ret
  exact ⟨rfl, hb1⟩
end Go.Proofs.YtdacfnodihannaaGreat
/-
  Contracts of package curve's doneBy, Done and Target, for every curve, time, span and quantity.
-/
namespace Go.Proofs.YtdacfnodihannaaGreat
open Go.ChangeShapes Go.WideShapes Go.ChangeAt Go.RowKit Go.Shelf

attribute [local go_sem] Oper.semAt_some

theorem boxed_kept {A B : World} {row : Option Nat} {b : Nat} {t : TypeId} {v : Value} (h : Boxed A b t v) (hg : A.grownBy B row) (hr : ∀ r, row = some r → ∃ o : Obj, A.heap[r]? = some o ∧ o.isCells = false) : Boxed B b t v :=
  boxed_own (β := Unit) b t (fun _ => v) () A B row h hg hr
theorem mul_bd {A B a b : Int} (h1 : 0 ≤ A) (h2 : A ≤ a) (h3 : 0 ≤ B) (h4 : B ≤ b) : 0 ≤ A * B ∧ A * B ≤ a * b :=
  ⟨Int.mul_nonneg h1 h3, Int.mul_le_mul h2 h4 h3 (by omega)⟩
theorem wrap_in (x : Int) (h1 : -9223372036854775808 ≤ x) (h2 : x ≤ 9223372036854775807) : wrap64 x = x := by unfold wrap64; omega

/-- What is done of a curve, times the span, where L is the time in pieces of a bucket's length by the span. -/
def doneOf (zs : Nat → Int) (L span : Int) : Int := sumTo zs (L / span).toNat * span + zs (L / span).toNat * (L % span)
theorem doneOf_at (zs : Nat → Int) (L span : Int) (k : Nat) (l : Int) (h0 : 0 ≤ l) (h1 : l < span) (h : L = span * (k : Int) + l) : doneOf zs L span = sumTo zs k * span + zs k * l := by
  have hs : span ≠ 0 := by omega
  have e1 : L / span = (k : Int) := by
    rw [h, Int.add_comm, Int.add_mul_ediv_left _ _ hs, Int.ediv_eq_zero_of_lt h0 h1]; omega
  have e2 : L % span = l := by
    rw [h, Int.add_comm, Int.add_mul_emod_self_left, Int.emod_eq_of_lt h0 h1]
  unfold doneOf
  rw [e1, e2]
  simp
theorem mix_in {A B s l : Int} (a1 : 0 ≤ A) (ab : A ≤ B) (b1 : B ≤ 67108864) (s1 : 0 ≤ s) (s2 : s ≤ 1073741824) (l1 : 0 ≤ l) (l2 : l ≤ 1073741824) :
    wrap64 (wrap64 (A * s) + wrap64 (wrap64 (B - A) * l)) = A * s + (B - A) * l := by
  have h1 := mul_bd a1 (by omega : A ≤ 67108864) s1 s2
  have h2 := mul_bd (by omega : 0 ≤ B - A) (by omega : B - A ≤ 67108864) l1 l2
  rw [wrap_in (B - A) (by omega) (by omega), wrap_in (A * s) (by omega) (by omega), wrap_in ((B - A) * l) (by omega) (by omega), wrap_in _ (by omega) (by omega)]
theorem curve_sums {zs : Nat → Int} {n : Nat} (hc : Curve zs n) (x : Nat) : 0 ≤ sumTo zs x ∧ sumTo zs x ≤ sumTo zs (x + 1) ∧ sumTo zs (x + 1) ≤ sumTo zs n ∧ sumTo zs n ≤ 67108864 := by
  have h1 := sumTo_pos zs (fun i => (hc.each i).1) x
  have h2 := sumTo_mono zs (fun i => (hc.each i).1) x (x + 1) (by omega)
  have h4 := sumTo_le zs (fun i => (hc.each i).2) n
  have h5 := hc.len
  refine ⟨h1, h2, ?_, by omega⟩
  by_cases h : x + 1 ≤ n
  · exact sumTo_mono zs (fun i => (hc.each i).1) _ _ h
  · rw [sumTo_beyond zs n hc.beyond (x + 1) (by omega)]; exact Int.le_refl _

set_option maxRecDepth 100000 in
set_option maxHeartbeats 4000000 in
theorem doneBy_any (zs : Nat → Int) (n : Nat) (v : Value) (w : World) (h : Row w v n fun i => .int .i64 (zs i)) (hc : Curve zs n) (t span : Int) (s1 : 1 ≤ span) (s2 : span ≤ 1073741824) (t1 : 0 ≤ t) (t2 : t ≤ span) (R : Int) (hR : Hid (doneOf zs (t * (n : Int)) span = R)) :
    Calls Tryz.prog 106 #[v, .int .i64 t, .int .i64 span] w fun e w' => e = .returned (.int .i64 R) ∧ Below w.heap.size w w' := by
  obtain ⟨a, cap, rfl, h1, h2, h3⟩ := id h
  have hlen := hc.len
  have hb := mul_bd t1 (by omega : t ≤ 1073741824) (by omega : (0 : Int) ≤ (n : Int)) (by omega : (n : Int) ≤ 64)
  have hLs : Hid (t * (n : Int) ≤ span * (n : Int)) := Int.mul_le_mul_of_nonneg_right t2 (by omega)
  have hw0 := wrap_in (t * (n : Int)) (by omega) (by omega)
  obtain ⟨L, hL⟩ : ∃ L, t * (n : Int) = L := ⟨_, rfl⟩
  rw [hL] at hb hLs hR
  have HW : Hid (wrap64 (t * (n : Int)) = L) := hw0.trans hL
  clear hL hw0
  have HB : Hid (0 ≤ L ∧ L ≤ 1073741824 * 64) := hb
  clear hb
  refine (callsIn_wide (n := 6)).1 ?_
  refine callsIn_of_wp_marks Tryz.func106 rfl trivial ?_ rfl
  simp only [Tryz.ntmps106, List.size_toArray, List.length_cons, List.length_nil, Nat.reduceAdd, Nat.reduceSub, Array.replicate_succ, Array.replicate_zero, List.push_toArray, List.append_toArray, List.nil_append, List.cons_append]
  gi_wp2
  refine wpIn_wide.2 (wp_scope_straight ((wpIn_wide (n := 6)).1 ?_))
  gi_wp2
  refine wpIn_label ?_
  gi_wp2_with (refine ⟨trivial, ?_⟩; gi_at_call 97; refine (callsIn_wide.2 (sums_any _ _ _ _)).mono ?_; rintro e w' ⟨rfl, rfl⟩)
  rw [HW.out]
  have bP := Boxed.new w 3 (.int .i64 span)
  have bL := Boxed.new (w.alloc (.cells #[.int .i64 span] 3)) 3 (.int .i64 L)
  have bM := Boxed.new ((w.alloc (.cells #[.int .i64 span] 3)).alloc (.cells #[.int .i64 L] 3)) 3 (.int .i64 0)
  have bN := Boxed.new (((w.alloc (.cells #[.int .i64 span] 3)).alloc (.cells #[.int .i64 L] 3)).alloc (.cells #[.int .i64 0] 3)) 22 (.slice a n cap)
  simp only [World.size_alloc] at bL bM bN
  have hB0 : Below w.heap.size w ((((w.alloc (.cells #[.int .i64 span] 3)).alloc (.cells #[.int .i64 L] 3)).alloc (.cells #[.int .i64 0] 3)).alloc (.cells #[.slice a n cap] 22)) := ((((Below.refl _ w).alloc (Nat.le_refl _) _).alloc (by simp) _).alloc (by simp; omega) _).alloc (by simp; omega) _
  have hsz : ∀ k, k ≤ n → -9223372036854775808 ≤ sumTo zs k ∧ sumTo zs k ≤ 9223372036854775807 := fun k hk => by
    have := curve_sums hc k
    omega
  refine wpIn_rangeFunc_ownG rfl (by omega) (gf := 112) (lb := #[.pointer (some ⟨w.heap.size + 1 + 1 + 1, 0, none⟩)]) rfl trivial (enters_of Tryz.func112 (by kernel_rfl) rfl)
    (sums_stops Fence.wide 5 trivial rfl (by omega) (w.heap.size + 1 + 1 + 1) w.heap.size n cap a zs (by omega) h1 hsz _ (by simp) (by simp; omega) bN.cell
      (fun i hi => by obtain ⟨b, off, e, hc⟩ := h3 i hi; have hb := World.block_lt_of_cell? _ _ hc; exact ⟨b, off, e, hb, (hB0.cell (p := ⟨b, off + i, none⟩) hb).trans hc⟩)) belowK_t (belowK_b (by simp; omega)) (Below.refl _ _) (fun _ => rfl)
    (fun pre W => (0 ≤ L - span * (pre.length : Int) ∧ Boxed W w.heap.size 3 (.int .i64 span) ∧ Boxed W (w.heap.size + 1) 3 (.int .i64 (L - span * (pre.length : Int))) ∧ Boxed W (w.heap.size + 1 + 1) 3 (.int .i64 (lastT zs pre * span))) ∧ Below w.heap.size w W)
    (fun c pre W => (c = .exit 0 ∧ ∃ ini x, pre = ini ++ [x] ∧ 0 ≤ L - span * (ini.length : Int) ∧ L - span * (ini.length : Int) < span ∧ W.cell? ⟨w.heap.size + 1 + 1, 0, none⟩ = some (.int .i64 (sumTo zs x * span + (sumTo zs (x + 1) - sumTo zs x) * (L - span * (ini.length : Int))))) ∧ Below w.heap.size w W)
    (OwnFrom.and (Own.from (fun s A B row hs hg hr => ⟨hs.1, boxed_kept hs.2.1 hg hr, boxed_kept hs.2.2.1 hg hr, boxed_kept hs.2.2.2 hg hr⟩) _) (ownFrom_below (Nat.le_refl _) (by simp; omega)))
    (fun c => OwnFrom.and (Own.from (fun s A B row hs hg hr => by obtain ⟨hc, ini, x, e1, e2, e3, e4⟩ := hs; exact ⟨hc, ini, x, e1, e2, e3, cell_kept e4 hg hr⟩) _) (ownFrom_below (Nat.le_refl _) (by simp; omega)))
    ⟨⟨by simp [HB.out.1], ((bP.alloc _).alloc _).alloc _, by simpa using (bL.alloc _).alloc _, by simpa [lastT] using bM.alloc _⟩, hB0⟩
    (fun x => { tmps := #[.slice a n cap, .int .i64 t, .int .i64 span, undef, undef, .pointer (some ⟨w.heap.size, 0, none⟩), .int .i64 0, .pointer (some ⟨w.heap.size + 1, 0, none⟩), .pointer (some ⟨w.heap.size + 1 + 1, 0, none⟩), .int .i64 (sumTo zs x), .int .i64 (sumTo zs (x + 1)), .int .i64 t, .slice a n cap, .int .i64 (n : Int), .int .i64 L, .slice a n cap, .func (.func 112) #[] #[.pointer (some ⟨w.heap.size + 1 + 1 + 1, 0, none⟩)], .int .i64 (sumTo zs x), .int .i64 (sumTo zs (x + 1)), undef, undef, undef, undef, undef, undef, undef, undef, undef, undef, undef, undef, undef, undef, undef, undef, undef, undef, undef, undef], defers := [] }) ?assign ?body ?done ?stop
  case assign =>
    intro l x W K hK
    gi_wp2
    exact hK
  case body =>
    rintro l pre x W ⟨⟨hl0, cP, cL, cM⟩, hB⟩ hpre
    have Hs : Hid (0 ≤ sumTo zs x ∧ sumTo zs x ≤ sumTo zs (x + 1) ∧ sumTo zs (x + 1) ≤ 67108864) := by have := curve_sums hc x; exact ⟨this.1, this.2.1, by omega⟩
    have kP := cP.cell
    have kL := cL.cell
    have kM := cM.cell
    have fL := cL.frozen
    have fM := cM.frozen
    have H0 : Hid (0 ≤ L - span * (pre.length : Int)) := hl0
    have HL : Hid (L - span * ((pre ++ [x]).length : Int) = (L - span * (pre.length : Int)) - span) := by
      show _ = _
      rw [List.length_append, List.length_singleton, Int.natCast_add, Int.mul_add]; omega
    have HT : Hid (lastT zs (pre ++ [x]) = sumTo zs (x + 1)) := lastT_snoc _ _ _
    have HLb : Hid (L - span * (pre.length : Int) ≤ 68719476736) := by
      have : 0 ≤ span * (pre.length : Int) := Int.mul_nonneg (by omega) (by omega)
      have := HB.out
      show _ ≤ _
      omega
    obtain ⟨lf, hlf⟩ : ∃ lf, L - span * (pre.length : Int) = lf := ⟨_, rfl⟩
    rw [hlf] at H0 HL HLb kL cL
    have HE : Hid (L - span * (pre.length : Int) = lf) := hlf
    clear hlf hl0 h3 hsz hB0 bP bL bM bN HW h hLs hpre
    obtain ⟨A, HA⟩ : ∃ A, Hid (sumTo zs x = A) := ⟨_, rfl⟩
    obtain ⟨B, HBB⟩ : ∃ B, Hid (sumTo zs (x + 1) = B) := ⟨_, rfl⟩
    rw [HA.out, HBB.out] at Hs
    rw [HBB.out] at HT
    rw [HA.out, HBB.out]
    by_cases hlt : lf < span
    · gi_wp2
      have e := mix_in (A := A) (B := B) (s := span) (l := lf) Hs.out.1 Hs.out.2.1 Hs.out.2.2 (by omega) s2 H0.out (by omega)
      rw [e]
      exact ⟨(KeepsOthers.setCell _ _ _).from _, ⟨rfl, pre, x, rfl, by rw [HE.out]; exact H0.out, by rw [HE.out]; exact hlt, by rw [HE.out, HA.out, HBB.out]; exact World.cell?_setCell_same' _ _ _ (by rw [kM]; rfl)⟩, hB.setCell (p := ⟨w.heap.size + 1 + 1, 0, none⟩) (by simp; omega) _⟩
    · gi_wp2
      have b1 := mul_bd (by have := Hs.out; omega : 0 ≤ B) Hs.out.2.2 (by omega : 0 ≤ span) s2
      have e1 := wrap_in (lf - span) (by have := H0.out; omega) (by have := HLb.out; omega)
      have e2 := wrap_in (B * span) (by omega) (by omega)
      rw [e1, e2]
      refine ⟨((KeepsOthers.setCell _ _ _).trans (KeepsOthers.setCell _ _ _)).from _, ((Below.refl w.heap.size W).setCell (p := ⟨w.heap.size + 1 + 1, 0, none⟩) (by simp; omega) _).setCell (p := ⟨w.heap.size + 1, 0, none⟩) (by simp) _, ⟨?_, (cP.other (by omega) _).other (by omega) _, ?_, ?_⟩, (hB.setCell (p := ⟨w.heap.size + 1 + 1, 0, none⟩) (by simp; omega) _).setCell (p := ⟨w.heap.size + 1, 0, none⟩) (by simp) _⟩
      · have := HL.out; omega
      · rw [HL.out]; exact (cL.other (by omega) _).set _
      · rw [HT.out]; exact (cM.set _).other (by omega) _
  case done =>
    rintro D ys W hD rfl ⟨⟨hl0, cP, cL, cM⟩, hB⟩ hK
    rw [lastT_range] at cM
    rw [List.length_range] at hl0
    have e : sumTo zs n * span = R := by
      rw [← hR.out, doneOf_at zs L span n 0 (Int.le_refl _) (by omega) (by have := hLs.out; omega)]; simp
    rw [e] at cM
    have kM := cM.cell
    clear cP cL cM
    gi_wp2
    refine ⟨by simp, .inl ⟨_, _, rfl, run_takeDeferred hK, ?_⟩⟩
    exact ⟨_, results_tmp rfl _ _ _, rfl, hB.trans (belowK_b (w := w) (Nat.le_refl _) W D _ _ (by simp at hD; omega) hK rfl rfl)⟩
  case stop =>
    rintro D c pre W hD ⟨k, hk, rfl⟩ ⟨⟨rfl, ini, x, e1, e2, e3, kM⟩, hB⟩ hK
    obtain ⟨k', rfl⟩ : ∃ k', k = k' + 1 := by
      cases k with
      | zero => simp at e1
      | succ k' => exact ⟨k', rfl⟩
    rw [List.range_succ] at e1
    obtain ⟨rfl, e5⟩ := List.append_inj' e1 rfl
    obtain rfl : k' = x := by simpa using e5
    rw [List.length_range] at e2 e3 kM
    have e : sumTo zs k' * span + (sumTo zs (k' + 1) - sumTo zs k') * (L - span * (k' : Int)) = R := by
      rw [← hR.out, doneOf_at zs L span k' _ e2 e3 (by omega)]
      have : sumTo zs (k' + 1) - sumTo zs k' = zs k' := by simp only [sumTo]; omega
      rw [this]
    rw [e] at kM
    clear e e1 e2 e3 e5
    gi_wp2
    refine ⟨by simp, .inl ⟨_, _, rfl, run_takeDeferred hK, ?_⟩⟩
    exact ⟨_, results_tmp rfl _ _ _, rfl, hB.trans (belowK_b (w := w) (Nat.le_refl _) W D _ _ (by simp at hD; omega) hK rfl rfl)⟩

/-- May a time be asked for? -/
def Asked (t span : Int) : Prop := (1 ≤ span ∧ span ≤ 1073741824) ∧ 0 ≤ t ∧ t ≤ span

theorem done_wrong (zs : Nat → Int) (n : Nat) (v : Value) (w : World) (h : Row w v n fun i => .int .i64 (zs i)) (hb : ∀ i, n ≤ i → zs i = 0) (hc : ¬ Curve zs n) (t span : Int) :
    Calls Tryz.prog 88 #[v, .int .i64 t, .int .i64 span] w fun e w' => e = .returned (.tuple #[.int .i64 0, .int .i64 0, .int .i64 30]) ∧ Below w.heap.size w w' := by
  have F := fun w h => check_wrong zs n v w h hb hc
  go_enter Tryz.func88, Tryz.ntmps88
  go_wp2_with fail
  refine (F _ h).mono ?_
  rintro e w1 ⟨rfl, hb1⟩
  go_wp2_with fail
  go_ret3
  exact ⟨rfl, hb1⟩
theorem done_arg (zs : Nat → Int) (n : Nat) (v : Value) (w : World) (h : Row w v n fun i => .int .i64 (zs i)) (hc : Curve zs n) (t span : Int) (ha : ¬ Asked t span) :
    Calls Tryz.prog 88 #[v, .int .i64 t, .int .i64 span] w fun e w' => e = .returned (.tuple #[.int .i64 0, .int .i64 0, .int .i64 2]) ∧ Below w.heap.size w w' := by
  have F := fun w h => check_right zs n v w h hc
  unfold Asked at ha
  by_cases k : 1 ≤ span ∧ span ≤ 1073741824
  · have G := fun w => within_yes span 1 1073741824 w k.1 k.2
    have G2 := fun w => within_no t 0 span w (by omega)
    clear k ha
    go_enter Tryz.func88, Tryz.ntmps88
    go_wp2_with fail
    refine (F _ h).mono ?_
    rintro e w1 ⟨rfl, hb1⟩
    go_wp2_with fail
    refine (G _).mono ?_
    rintro e w2 ⟨rfl, hw2⟩
    subst hw2
    go_wp2_with fail
    refine (G2 _).mono ?_
    rintro e w3 ⟨rfl, hw3⟩
    subst hw3
    go_wp2_with fail
    go_ret3
    exact ⟨rfl, hb1⟩
  · have G := fun w => within_no span 1 1073741824 w (by omega)
    clear k ha
    go_enter Tryz.func88, Tryz.ntmps88
    go_wp2_with fail
    refine (F _ h).mono ?_
    rintro e w1 ⟨rfl, hb1⟩
    go_wp2_with fail
    refine (G _).mono ?_
    rintro e w2 ⟨rfl, hw2⟩
    subst hw2
    go_wp2_with fail
    go_ret3
    exact ⟨rfl, hb1⟩
theorem done_right (zs : Nat → Int) (n : Nat) (v : Value) (w : World) (h : Row w v n fun i => .int .i64 (zs i)) (hc : Curve zs n) (t span : Int) (ha : Asked t span) (R : Int) (hR : Hid (doneOf zs (t * (n : Int)) span = R)) :
    Calls Tryz.prog 88 #[v, .int .i64 t, .int .i64 span] w fun e w' => e = .returned (.tuple #[.int .i64 R, .int .i64 span, .int .i64 0]) ∧ Below w.heap.size w w' := by
  have F := fun w h => check_right zs n v w h hc
  have G := fun w => within_yes span 1 1073741824 w ha.1.1 ha.1.2
  have G2 := fun w => within_yes t 0 span w ha.2.1 ha.2.2
  have D := fun w h => doneBy_any zs n v w h hc t span ha.1.1 ha.1.2 ha.2.1 ha.2.2 R hR
  clear ha
  go_enter Tryz.func88, Tryz.ntmps88
  go_wp2_with fail
  refine (F _ h).mono ?_
  rintro e w1 ⟨rfl, hb1⟩
  go_wp2_with fail
  refine (G _).mono ?_
  rintro e w2 ⟨rfl, hw2⟩
  subst hw2
  go_wp2_with fail
  refine (G2 _).mono ?_
  rintro e w3 ⟨rfl, hw3⟩
  subst hw3
  go_wp2_with fail
  refine (D _ (h.below hb1)).mono ?_
  rintro e w4 ⟨rfl, hb4⟩
  go_wp2_with fail
  go_ret3
  exact ⟨rfl, hb1.trans (hb4.mono hb1.size)⟩

theorem target_wrong (qty : Int) (zs : Nat → Int) (n : Nat) (v : Value) (w : World) (h : Row w v n fun i => .int .i64 (zs i)) (hb : ∀ i, n ≤ i → zs i = 0) (hc : ¬ Curve zs n) (t span : Int) :
    Calls Tryz.prog 67 #[.int .i64 qty, v, .int .i64 t, .int .i64 span] w fun e w' => e = .returned (.tuple #[.int .i64 0, .int .i64 30]) ∧ Below w.heap.size w w' := by
  have F := fun w h => done_wrong zs n v w h hb hc t span
  go_enter Tryz.func67, Tryz.ntmps67
  go_wp2_with fail
  refine (F _ h).mono ?_
  rintro e w1 ⟨rfl, hb1⟩
  go_wp2_with fail
  go_ret2
  exact ⟨rfl, hb1⟩
theorem target_arg (qty : Int) (zs : Nat → Int) (n : Nat) (v : Value) (w : World) (h : Row w v n fun i => .int .i64 (zs i)) (hc : Curve zs n) (t span : Int) (ha : ¬ Asked t span) :
    Calls Tryz.prog 67 #[.int .i64 qty, v, .int .i64 t, .int .i64 span] w fun e w' => e = .returned (.tuple #[.int .i64 0, .int .i64 2]) ∧ Below w.heap.size w w' := by
  have F := fun w h => done_arg zs n v w h hc t span ha
  go_enter Tryz.func67, Tryz.ntmps67
  go_wp2_with fail
  refine (F _ h).mono ?_
  rintro e w1 ⟨rfl, hb1⟩
  go_wp2_with fail
  go_ret2
  exact ⟨rfl, hb1⟩
theorem target_qty (qty : Int) (zs : Nat → Int) (n : Nat) (v : Value) (w : World) (h : Row w v n fun i => .int .i64 (zs i)) (hc : Curve zs n) (t span : Int) (ha : Asked t span) (hq : qty < 0 ∨ 1099511627776 < qty) :
    Calls Tryz.prog 67 #[.int .i64 qty, v, .int .i64 t, .int .i64 span] w fun e w' => e = .returned (.tuple #[.int .i64 0, .int .i64 2]) ∧ Below w.heap.size w w' := by
  have F := fun w h => done_right zs n v w h hc t span ha _ rfl
  have G := fun w => within_no qty 0 1099511627776 w hq
  clear hq ha
  generalize doneOf zs (t * (n : Int)) span = R at *
  go_enter Tryz.func67, Tryz.ntmps67
  go_wp2_with fail
  refine (F _ h).mono ?_
  rintro e w1 ⟨rfl, hb1⟩
  go_wp2_with fail
  refine (G _).mono ?_
  rintro e w2 ⟨rfl, hw2⟩
  subst hw2
  go_wp2_with fail
  go_ret2
  exact ⟨rfl, hb1⟩

theorem pieces {t span : Int} {n : Nat} (ha : Asked t span) (hn : n ≤ 64) : 0 ≤ t * (n : Int) ∧ t * (n : Int) ≤ span * (n : Int) :=
  ⟨Int.mul_nonneg ha.2.1 (by omega), Int.mul_le_mul_of_nonneg_right ha.2.2 (by omega)⟩
theorem doneOf_bd {zs : Nat → Int} {n : Nat} (hc : Curve zs n) {L span : Int} (_h0 : 0 ≤ L) (hs : 1 ≤ span) : 0 ≤ doneOf zs L span ∧ doneOf zs L span ≤ sumTo zs n * span := by
  have m0 := Int.emod_nonneg L (by omega : span ≠ 0)
  have m1 := Int.emod_lt_of_pos L (by omega : 0 < span)
  unfold doneOf
  generalize (L / span).toNat = k
  generalize L % span = l at *
  have hk := curve_sums hc k
  have hz := hc.each k
  have a1 : 0 ≤ sumTo zs k * span := Int.mul_nonneg hk.1 (by omega)
  have a2 : 0 ≤ zs k * l := Int.mul_nonneg hz.1 m0
  have a3 : zs k * l ≤ zs k * span := Int.mul_le_mul_of_nonneg_left (by omega) hz.1
  have a4 : sumTo zs (k + 1) * span ≤ sumTo zs n * span := Int.mul_le_mul_of_nonneg_right hk.2.2.1 (by omega)
  have a5 : sumTo zs (k + 1) * span = sumTo zs k * span + zs k * span := by simp only [sumTo]; rw [Int.add_mul]
  omega
/-- The target. -/
def targetOf (zs : Nat → Int) (n : Nat) (qty t span : Int) : Int := qty * doneOf zs (t * (n : Int)) span / (sumTo zs n * span)
theorem share_bd {q a c : Int} (q0 : 0 ≤ q) (a0 : 0 ≤ a) (ac : a ≤ c) (c0 : 0 < c) : 0 ≤ q * a / c ∧ q * a / c ≤ q := by
  have h1 : 0 ≤ q * a := Int.mul_nonneg q0 a0
  have h2 : q * a ≤ q * c := Int.mul_le_mul_of_nonneg_left ac q0
  refine ⟨Int.ediv_nonneg h1 (by omega), ?_⟩
  have := Int.ediv_le_ediv c0 h2
  rwa [Int.mul_ediv_cancel _ (by omega)] at this
theorem down_share (q a c : Int) (w : World) (q0 : 0 ≤ q) (q1 : q ≤ 1099511627776) (a0 : 0 ≤ a) (ac : a ≤ c) (c0 : 0 < c) (c1 : c ≤ 9223372036854775807) (r : Int) (hr : Hid (q * a / c = r)) :
    Calls Tryz.prog 63 #[.int .i64 q, .int .i64 a, .int .i64 c] w fun e w' => e = .returned (.tuple #[.int .i64 r, .int .i64 0]) ∧ Below w.heap.size w w' := by
  have h := downs q a c (q * a) rfl w (by omega) (by omega) (by omega) (by omega) (by omega) (by omega) (beq_false_of_ne (by omega))
  have hb := share_bd q0 a0 ac c0
  rw [frac_plain _ _ (Int.mul_nonneg q0 a0) c0, hr.out] at h
  rw [hr.out] at hb
  have := ans_in r ⟨by omega, by omega⟩
  rw [this.1, this.2] at h
  exact h
theorem target_right (qty : Int) (zs : Nat → Int) (n : Nat) (v : Value) (w : World) (h : Row w v n fun i => .int .i64 (zs i)) (hc : Curve zs n) (t span : Int) (ha : Asked t span) (q0 : 0 ≤ qty) (q1 : qty ≤ 1099511627776) (x : Int) (hx : Hid (targetOf zs n qty t span = x)) :
    Calls Tryz.prog 67 #[.int .i64 qty, v, .int .i64 t, .int .i64 span] w fun e w' => e = .returned (.tuple #[.int .i64 x, .int .i64 0]) ∧ Below w.heap.size w w' := by
  have hp := pieces ha hc.len
  have hd := doneOf_bd hc hp.1 ha.1.1
  have hs := (curve_sums hc n).2.2.2
  have hs' := hc.some
  have hm := mul_bd (by omega : 0 ≤ sumTo zs n) hs (by have := ha.1.1; omega : 0 ≤ span) ha.1.2
  have hpos : 0 < sumTo zs n * span := Int.mul_pos hs' (by have := ha.1.1; omega)
  have HW : Hid (wrap64 (sumTo zs n * span) = sumTo zs n * span) := wrap_in _ (by omega) (by omega)
  have F := fun w h => done_right zs n v w h hc t span ha _ rfl
  have G := fun w => within_yes qty 0 1099511627776 w q0 q1
  have T := fun w h => total_right zs n v w h hc _ rfl
  have D := fun w => down_share qty (doneOf zs (t * (n : Int)) span) (sumTo zs n * span) w q0 q1 hd.1 hd.2 hpos (by omega) x hx
  rw [← HW.out] at D
  clear hp hd hs hs' hm hpos HW ha hx
  generalize doneOf zs (t * (n : Int)) span = R at *
  generalize sumTo zs n = S at *
  go_enter Tryz.func67, Tryz.ntmps67
  go_wp2_with fail
  refine (F _ h).mono ?_
  rintro e w1 ⟨rfl, hb1⟩
  go_wp2_with fail
  refine (G _).mono ?_
  rintro e w2 ⟨rfl, hw2⟩
  subst hw2
  go_wp2_with fail
  refine (T _ (h.below hb1)).mono ?_
  rintro e w3 ⟨rfl, hb3⟩
  go_wp2_with fail
  refine (D _).mono ?_
  rintro e w4 ⟨rfl, hb4⟩
  go_wp2_with fail
  go_ret2
  have s1 := hb1.size
  exact ⟨rfl, (hb1.trans (hb3.mono s1)).trans (hb4.mono (by have := hb3.size; omega))⟩
end Go.Proofs.YtdacfnodihannaaGreat
