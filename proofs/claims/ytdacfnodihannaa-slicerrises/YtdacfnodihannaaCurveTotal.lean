/-
  Contracts of package curve's Total and Check, for every list of weights.
-/
import Derived.Test.YtdacfnodihannaaCurve
namespace Go.Proofs.Ytdacfnodihannaa
open Go.ChangeShapes Go.WideShapes Go.ChangeAt Go.RowKit Go.Shelf

attribute [local go_sem] Oper.semAt_some

theorem sums_stops (F : Fence) (m : Nat) (hf : F.fn 80) (hro : F.round = none) (hm : 1 ≤ m) (Bs n₀ n cap : Nat) (a : Option Addr) (zs : Nat → Int) (hn : n ≤ 1000000) (hcap : n ≤ cap) (hs : ∀ k, k ≤ n → -9223372036854775808 ≤ sumTo zs k ∧ sumTo zs k ≤ 9223372036854775807)
    (w : World) (hBs : Bs < w.heap.size) (hn₀ : n₀ ≤ w.heap.size) (hc : w.cell? ⟨Bs, 0, none⟩ = some (.slice a n cap)) (h3 : ∀ i, i < n → ∃ b off, a = some ⟨b, off, none⟩ ∧ b < n₀ ∧ w.cell? ⟨b, off + i, none⟩ = some (.int .i64 (zs i))) :
    SeqStopsK F m Try.prog 80 #[.pointer (some ⟨Bs, 0, none⟩)] (fun x : Nat => #[Value.int .i64 (sumTo zs x), Value.int .i64 (sumTo zs (x + 1))]) (Below n₀) (fun ys => ys = List.range n) (fun pre => ∃ k, k ≤ n ∧ pre = List.range k) n w := fun l J Jx W hW _ _ hY h0 =>
  sums1_in F m hf hro hm l Bs n₀ n cap a zs hn hcap hs J Jx hY W ((hW.cell (p := ⟨Bs, 0, none⟩) hBs).trans hc)
    (fun i hi => by obtain ⟨b, off, e, hb, hc⟩ := h3 i hi; exact ⟨b, off, e, hb, (hW.cell (p := ⟨b, off + i, none⟩) (Nat.lt_of_lt_of_le hb hn₀)).trans hc⟩) h0

/-- The last sum that was told. -/
def lastT (zs : Nat → Int) (pre : List Nat) : Int := match pre.getLast? with | none => 0 | some x => sumTo zs (x + 1)
theorem lastT_nil (zs : Nat → Int) : lastT zs [] = 0 := rfl
theorem lastT_snoc (zs : Nat → Int) (pre : List Nat) (x : Nat) : lastT zs (pre ++ [x]) = sumTo zs (x + 1) := by simp [lastT]
theorem lastT_range (zs : Nat → Int) : ∀ n, lastT zs (List.range n) = sumTo zs n
  | 0 => rfl
  | n + 1 => by rw [List.range_succ, lastT_snoc]

theorem sumTo_mono (zs : Nat → Int) (hz : ∀ i, 0 ≤ zs i) : ∀ k m, k ≤ m → sumTo zs k ≤ sumTo zs m
  | k, 0, h => by
    obtain rfl : k = 0 := by omega
    exact Int.le_refl _
  | k, m + 1, h => by
    by_cases e : k = m + 1
    · subst e; exact Int.le_refl _
    · have := sumTo_mono zs hz k m (by omega)
      have := hz m
      simp only [sumTo]; omega
theorem sumTo_pos (zs : Nat → Int) (hz : ∀ i, 0 ≤ zs i) (k : Nat) : 0 ≤ sumTo zs k := sumTo_mono zs hz 0 k (Nat.zero_le _)
theorem sumTo_le (zs : Nat → Int) (hz : ∀ i, zs i ≤ 1048576) : ∀ k, sumTo zs k ≤ 1048576 * (k : Int)
  | 0 => by simp [sumTo]
  | k + 1 => by have := sumTo_le zs hz k; have := hz k; simp only [sumTo]; omega
theorem sumTo_beyond (zs : Nat → Int) (n : Nat) (hz : ∀ i, n ≤ i → zs i = 0) : ∀ k, n ≤ k → sumTo zs k = sumTo zs n
  | 0, h => by
    obtain rfl : n = 0 := by omega
    rfl
  | k + 1, h => by
    by_cases e : n = k + 1
    · subst e; rfl
    · have := sumTo_beyond zs n hz k (by omega)
      have := hz k (by omega)
      simp only [sumTo]; omega

theorem contains_no (zs : Nat → Int) (n : Nat) (v : Value) (w : World) (h : Row w v n fun i => .int .i64 (zs i)) (hg : ∀ i, i < n → ¬ bad (zs i)) :
    Calls Try.prog 73 #[v, .func (.func 74) #[] #[]] w fun e w' => e = .returned (.bool false) ∧ w' = w :=
  (contains_any zs n v w h).mono fun _ _ ⟨hw, h'⟩ => by
    rcases h' with ⟨rfl, _⟩ | ⟨k, hk, _, hb⟩
    · exact ⟨rfl, hw⟩
    · exact absurd hb (hg k hk)
theorem contains_yes (zs : Nat → Int) (n : Nat) (v : Value) (w : World) (h : Row w v n fun i => .int .i64 (zs i)) (k : Nat) (hk : k < n) (hb : bad (zs k)) :
    Calls Try.prog 73 #[v, .func (.func 74) #[] #[]] w fun e w' => e = .returned (.bool true) ∧ w' = w :=
  (contains_any zs n v w h).mono fun _ _ ⟨hw, h'⟩ => by
    rcases h' with ⟨rfl, hg⟩ | ⟨j, hj, rfl, _⟩
    · exact absurd hb (hg k hk)
    · exact ⟨rfl, hw⟩

set_option maxRecDepth 100000 in
set_option maxHeartbeats 2000000 in
theorem total_sum (zs : Nat → Int) (n : Nat) (v : Value) (w : World) (h : Row w v n fun i => .int .i64 (zs i)) (hn : n ≤ 64) (hz : ∀ i, 0 ≤ zs i ∧ zs i ≤ 1048576) (S : Int) (hS : Hid (sumTo zs n = S)) (hp : 0 < S) :
    Calls Try.prog 60 #[v] w fun e w' => e = .returned (.tuple #[.int .i64 S, .int .i64 0]) ∧ Below w.heap.size w w' := by
  obtain ⟨a, cap, rfl, h1, h2, h3⟩ := id h
  have FC := fun w (h : Row w (.slice a n cap) n fun i => .int .i64 (zs i)) => contains_no zs n _ w h (fun i _ => by have := hz i; unfold bad; omega)
  have t : ¬ (64 : Int) < (n : Int) := by omega
  refine (callsIn_wide (n := 6)).1 ?_
  refine callsIn_of_wp_marks Try.func60 rfl trivial ?_ rfl
  simp only [Try.ntmps60, List.size_toArray, List.length_cons, List.length_nil, Nat.reduceAdd, Nat.reduceSub, Array.replicate_succ, Array.replicate_zero, List.push_toArray, List.append_toArray, List.nil_append, List.cons_append]
  gi_wp2_with (first
    | (refine ⟨trivial, ?_⟩; gi_at_call 73; refine (callsIn_wide.2 (FC _ h)).mono ?_; rintro e w' ⟨rfl, rfl⟩)
    | (refine ⟨trivial, ?_⟩; gi_at_call 75; refine (callsIn_wide.2 (sums_any _ _ _ _)).mono ?_; rintro e w' ⟨rfl, rfl⟩))
  have bS := Boxed.new w' 3 (.int .i64 0)
  have bN := Boxed.new (w'.alloc (.cells #[.int .i64 0] 3)) 26 (.slice a n cap)
  rw [World.size_alloc] at bN
  have hB0 : Below w'.heap.size w' ((w'.alloc (.cells #[.int .i64 0] 3)).alloc (.cells #[.slice a n cap] 26)) := ((Below.refl _ w').alloc (Nat.le_refl _) _).alloc (by simp) _
  have hsz : ∀ k, k ≤ n → -9223372036854775808 ≤ sumTo zs k ∧ sumTo zs k ≤ 9223372036854775807 := fun k hk => by
    have := sumTo_pos zs (fun i => (hz i).1) k
    have := sumTo_le zs (fun i => (hz i).2) k
    omega
  refine wpIn_rangeFunc_ownG rfl (by omega) (gf := 80) (lb := #[.pointer (some ⟨w'.heap.size + 1, 0, none⟩)]) rfl trivial (enters_of Try.func80 (by kernel_rfl) rfl)
    (sums_stops Fence.wide 5 trivial rfl (by omega) (w'.heap.size + 1) w'.heap.size n cap a zs (by omega) h1 hsz _ (by simp) (by simp; omega) bN.cell
      (fun i hi => by obtain ⟨b, off, e, hc⟩ := h3 i hi; have hb := World.block_lt_of_cell? _ _ hc; exact ⟨b, off, e, hb, (hB0.cell (p := ⟨b, off + i, none⟩) hb).trans hc⟩)) belowK_t (belowK_b (by simp; omega)) (Below.refl _ _) (fun _ => rfl)
    (fun pre W => (W.cell? ⟨w'.heap.size, 0, none⟩ = some (.int .i64 (lastT zs pre)) ∧ W.frozen? ⟨w'.heap.size, 0, none⟩ = false) ∧ Below w'.heap.size w' W)
    (fun _ _ _ => False)
    (OwnFrom.and (Own.from (fun s A B row hs hg hr => ⟨cell_kept hs.1 hg hr, (frozen_kept hs.1 hg hr).trans hs.2⟩) _) (ownFrom_below (Nat.le_refl _) (by simp; omega)))
    (fun _ _ _ _ _ hs _ _ => hs)
    ⟨⟨(bS.alloc _).cell, (bS.alloc _).frozen⟩, hB0⟩
    (fun x => { tmps := #[.slice a n cap, undef, .int .i64 0, .int .i64 0, .pointer (some ⟨w'.heap.size, 0, none⟩), undef, .int .i64 (sumTo zs (x + 1)), .slice a n cap, .int .i64 (n : Int), .bool false, .bool false, .slice a n cap, .bool false, .bool false, .slice a n cap, .func (.func 80) #[] #[.pointer (some ⟨w'.heap.size + 1, 0, none⟩)], .int .i64 (sumTo zs x), .int .i64 (sumTo zs (x + 1)), undef, undef, undef, undef], defers := [] }) ?assign ?body ?done ?stop
  case assign =>
    intro l x W K hK
    gi_wp2
    exact hK
  case body =>
    rintro l pre x W ⟨⟨hc, hf⟩, hB⟩ _
    gi_wp2
    exact ⟨(KeepsOthers.setCell _ _ _).from _, (Below.refl w'.heap.size W).setCell (p := ⟨w'.heap.size, 0, none⟩) (Nat.le_refl _) _, ⟨by rw [lastT_snoc]; exact World.cell?_setCell_same' _ _ _ (by rw [hc]; rfl), by rw [World.frozen?_setCell]; exact hf⟩, hB.setCell (p := ⟨w'.heap.size, 0, none⟩) (Nat.le_refl _) _⟩
  case done =>
    rintro D ys W hD rfl ⟨⟨hc, _⟩, hB⟩ hK
    rw [lastT_range, hS.out] at hc
    have hne : (S == 0) = false := beq_false_of_ne (by omega)
    gi_wp2
    refine ⟨by simp, .inl ⟨_, _, rfl, run_takeDeferred hK, ?_⟩⟩
    exact ⟨_, results_tmp2 rfl _ _ _, rfl, hB.trans (belowK_b (w := w') (Nat.le_refl _) W D _ _ (by simp at hD; omega) hK rfl rfl)⟩
  case stop =>
    rintro D c pre W _ _ h _
    exact h.elim
set_option maxRecDepth 100000 in
set_option maxHeartbeats 2000000 in
theorem total_none (zs : Nat → Int) (n : Nat) (v : Value) (w : World) (h : Row w v n fun i => .int .i64 (zs i)) (hn : n ≤ 64) (hz : ∀ i, 0 ≤ zs i ∧ zs i ≤ 1048576) (hS : sumTo zs n = 0) :
    Calls Try.prog 60 #[v] w fun e w' => e = .returned (.tuple #[.int .i64 0, .int .i64 30]) ∧ Below w.heap.size w w' := by
  obtain ⟨a, cap, rfl, h1, h2, h3⟩ := id h
  have FC := fun w (h : Row w (.slice a n cap) n fun i => .int .i64 (zs i)) => contains_no zs n _ w h (fun i _ => by have := hz i; unfold bad; omega)
  have t : ¬ (64 : Int) < (n : Int) := by omega
  refine (callsIn_wide (n := 6)).1 ?_
  refine callsIn_of_wp_marks Try.func60 rfl trivial ?_ rfl
  simp only [Try.ntmps60, List.size_toArray, List.length_cons, List.length_nil, Nat.reduceAdd, Nat.reduceSub, Array.replicate_succ, Array.replicate_zero, List.push_toArray, List.append_toArray, List.nil_append, List.cons_append]
  gi_wp2_with (first
    | (refine ⟨trivial, ?_⟩; gi_at_call 73; refine (callsIn_wide.2 (FC _ h)).mono ?_; rintro e w' ⟨rfl, rfl⟩)
    | (refine ⟨trivial, ?_⟩; gi_at_call 75; refine (callsIn_wide.2 (sums_any _ _ _ _)).mono ?_; rintro e w' ⟨rfl, rfl⟩))
  have bS := Boxed.new w' 3 (.int .i64 0)
  have bN := Boxed.new (w'.alloc (.cells #[.int .i64 0] 3)) 26 (.slice a n cap)
  rw [World.size_alloc] at bN
  have hB0 : Below w'.heap.size w' ((w'.alloc (.cells #[.int .i64 0] 3)).alloc (.cells #[.slice a n cap] 26)) := ((Below.refl _ w').alloc (Nat.le_refl _) _).alloc (by simp) _
  have hsz : ∀ k, k ≤ n → -9223372036854775808 ≤ sumTo zs k ∧ sumTo zs k ≤ 9223372036854775807 := fun k hk => by
    have := sumTo_pos zs (fun i => (hz i).1) k
    have := sumTo_le zs (fun i => (hz i).2) k
    omega
  refine wpIn_rangeFunc_ownG rfl (by omega) (gf := 80) (lb := #[.pointer (some ⟨w'.heap.size + 1, 0, none⟩)]) rfl trivial (enters_of Try.func80 (by kernel_rfl) rfl)
    (sums_stops Fence.wide 5 trivial rfl (by omega) (w'.heap.size + 1) w'.heap.size n cap a zs (by omega) h1 hsz _ (by simp) (by simp; omega) bN.cell
      (fun i hi => by obtain ⟨b, off, e, hc⟩ := h3 i hi; have hb := World.block_lt_of_cell? _ _ hc; exact ⟨b, off, e, hb, (hB0.cell (p := ⟨b, off + i, none⟩) hb).trans hc⟩)) belowK_t (belowK_b (by simp; omega)) (Below.refl _ _) (fun _ => rfl)
    (fun pre W => (W.cell? ⟨w'.heap.size, 0, none⟩ = some (.int .i64 (lastT zs pre)) ∧ W.frozen? ⟨w'.heap.size, 0, none⟩ = false) ∧ Below w'.heap.size w' W)
    (fun _ _ _ => False)
    (OwnFrom.and (Own.from (fun s A B row hs hg hr => ⟨cell_kept hs.1 hg hr, (frozen_kept hs.1 hg hr).trans hs.2⟩) _) (ownFrom_below (Nat.le_refl _) (by simp; omega)))
    (fun _ _ _ _ _ hs _ _ => hs)
    ⟨⟨(bS.alloc _).cell, (bS.alloc _).frozen⟩, hB0⟩
    (fun x => { tmps := #[.slice a n cap, undef, .int .i64 0, .int .i64 0, .pointer (some ⟨w'.heap.size, 0, none⟩), undef, .int .i64 (sumTo zs (x + 1)), .slice a n cap, .int .i64 (n : Int), .bool false, .bool false, .slice a n cap, .bool false, .bool false, .slice a n cap, .func (.func 80) #[] #[.pointer (some ⟨w'.heap.size + 1, 0, none⟩)], .int .i64 (sumTo zs x), .int .i64 (sumTo zs (x + 1)), undef, undef, undef, undef], defers := [] }) ?assign ?body ?done ?stop
  case assign =>
    intro l x W K hK
    gi_wp2
    exact hK
  case body =>
    rintro l pre x W ⟨⟨hc, hf⟩, hB⟩ _
    gi_wp2
    exact ⟨(KeepsOthers.setCell _ _ _).from _, (Below.refl w'.heap.size W).setCell (p := ⟨w'.heap.size, 0, none⟩) (Nat.le_refl _) _, ⟨by rw [lastT_snoc]; exact World.cell?_setCell_same' _ _ _ (by rw [hc]; rfl), by rw [World.frozen?_setCell]; exact hf⟩, hB.setCell (p := ⟨w'.heap.size, 0, none⟩) (Nat.le_refl _) _⟩
  case done =>
    rintro D ys W hD rfl ⟨⟨hc, _⟩, hB⟩ hK
    rw [lastT_range, hS] at hc
    gi_wp2
    refine ⟨by simp, .inl ⟨_, _, rfl, run_takeDeferred hK, ?_⟩⟩
    exact ⟨_, results_tmp2 rfl _ _ _, rfl, hB.trans (belowK_b (w := w') (Nat.le_refl _) W D _ _ (by simp at hD; omega) hK rfl rfl)⟩
  case stop =>
    rintro D c pre W _ _ h _
    exact h.elim

theorem total_bad (zs : Nat → Int) (n : Nat) (v : Value) (w : World) (h : Row w v n fun i => .int .i64 (zs i)) (k : Nat) (hk : k < n) (hb : bad (zs k)) :
    Calls Try.prog 60 #[v] w fun e w' => e = .returned (.tuple #[.int .i64 0, .int .i64 30]) ∧ w' = w := by
  obtain ⟨a, cap, rfl, h1, h2, h3⟩ := id h
  have F := fun w (h : Row w (.slice a n cap) n fun i => .int .i64 (zs i)) => contains_yes zs n _ w h k hk hb
  by_cases hn : 64 < n
  · have t : (64 : Int) < (n : Int) := by omega
    go_enter Try.func60, Try.ntmps60
    go_wp2_with fail
    go_ret2
    exact ⟨rfl, rfl⟩
  · have t : ¬ (64 : Int) < (n : Int) := by omega
    go_enter Try.func60, Try.ntmps60
    go_wp2_with fail
    refine (F _ h).mono ?_
    rintro e w1 ⟨rfl, rfl⟩
    go_wp2_with fail
    go_ret2
    exact ⟨rfl, rfl⟩
theorem total_long (n cap : Nat) (a : Option Addr) (w : World) (hn : 64 < n) :
    Calls Try.prog 60 #[.slice a n cap] w fun e w' => e = .returned (.tuple #[.int .i64 0, .int .i64 30]) ∧ w' = w := by
  have t : (64 : Int) < (n : Int) := by omega
  go_enter Try.func60, Try.ntmps60
  go_wp2_with fail
  go_ret2
  exact ⟨rfl, rfl⟩

/-- n numbers are a curve: their sum is not 0, each is one that may be. -/
structure Curve (zs : Nat → Int) (n : Nat) : Prop where
  len : n ≤ 64
  each : ∀ i, 0 ≤ zs i ∧ zs i ≤ 1048576
  beyond : ∀ i, n ≤ i → zs i = 0
  some : 0 < sumTo zs n
theorem total_right (zs : Nat → Int) (n : Nat) (v : Value) (w : World) (h : Row w v n fun i => .int .i64 (zs i)) (hc : Curve zs n) (S : Int) (hS : Hid (sumTo zs n = S)) :
    Calls Try.prog 60 #[v] w fun e w' => e = .returned (.tuple #[.int .i64 S, .int .i64 0]) ∧ Below w.heap.size w w' :=
  total_sum zs n v w h hc.len hc.each S hS (by have := hc.some; rw [hS.out] at this; exact this)
theorem total_wrong (zs : Nat → Int) (n : Nat) (v : Value) (w : World) (h : Row w v n fun i => .int .i64 (zs i)) (hb : ∀ i, n ≤ i → zs i = 0) (hc : ¬ Curve zs n) :
    Calls Try.prog 60 #[v] w fun e w' => e = .returned (.tuple #[.int .i64 0, .int .i64 30]) ∧ Below w.heap.size w w' := by
  by_cases hn : 64 < n
  · obtain ⟨a, cap, rfl, _, _, _⟩ := h
    exact (total_long n cap a w hn).mono fun e w' ⟨he, hw⟩ => ⟨he, by rw [hw]; exact Below.refl _ _⟩
  by_cases hg : ∃ k, k < n ∧ bad (zs k)
  · obtain ⟨k, hk, hkb⟩ := hg
    exact (total_bad zs n v w h k hk hkb).mono fun e w' ⟨he, hw⟩ => ⟨he, by rw [hw]; exact Below.refl _ _⟩
  have each : ∀ i, 0 ≤ zs i ∧ zs i ≤ 1048576 := fun i => by
    by_cases hi : i < n
    · have : ¬ bad (zs i) := fun hb => hg ⟨i, hi, hb⟩
      unfold bad at this; omega
    · rw [hb i (by omega)]; omega
  refine total_none zs n v w h (by omega) each ?_
  have := sumTo_pos zs (fun i => (each i).1) n
  by_cases e : 0 < sumTo zs n
  · exact absurd ⟨by omega, each, hb, e⟩ hc
  · omega
theorem check_right (zs : Nat → Int) (n : Nat) (v : Value) (w : World) (h : Row w v n fun i => .int .i64 (zs i)) (hc : Curve zs n) :
    Calls Try.prog 54 #[v] w fun e w' => e = .returned (.int .i64 0) ∧ Below w.heap.size w w' := by
  have F := fun w h => total_right zs n v w h hc _ rfl
  generalize sumTo zs n = S at *
  go_enter Try.func54, Try.ntmps54
  go_wp2_with fail
  refine (F _ h).mono ?_
  rintro e w1 ⟨rfl, hb1⟩
  go_wp2_with fail
  go_ret
  exact ⟨rfl, hb1⟩
theorem check_wrong (zs : Nat → Int) (n : Nat) (v : Value) (w : World) (h : Row w v n fun i => .int .i64 (zs i)) (hb : ∀ i, n ≤ i → zs i = 0) (hc : ¬ Curve zs n) :
    Calls Try.prog 54 #[v] w fun e w' => e = .returned (.int .i64 30) ∧ Below w.heap.size w w' := by
  have F := fun w h => total_wrong zs n v w h hb hc
  go_enter Try.func54, Try.ntmps54
  go_wp2_with fail
  refine (F _ h).mono ?_
  rintro e w1 ⟨rfl, hb1⟩
  go_wp2_with fail
  go_ret
  exact ⟨rfl, hb1⟩
end Go.Proofs.Ytdacfnodihannaa
