/-
  Contracts of slices.Index at texts, of sort.Search with roster's closure, and of that closure.
-/
import Derived.Test.YtfphjhmhiaepiaaRunes
import Derived.Test.YtfphjhmhiaepiaaLists
import Derived.Test.YtfphjhmhiaepiaaBut
import Derived.Deep.LoopGhost
namespace Go.Proofs.Ytfphjhmhiaepiaa
open Go.ChangeShapes Go.WideShapes Go.ChangeAt Go.RowKit

set_option maxHeartbeats 1000000 in
theorem idx_any (sl : Nat → ByteArray) (x : ByteArray) (n : Nat) (v : Value) (w : World) (h : Row w v n fun i => .string (sl i)) :
    Calls Try.prog 76 #[v, .string x] w fun e w' => w' = w ∧
      ((e = .returned (.int .i64 (-1)) ∧ ∀ i, i < n → x ≠ sl i) ∨ (∃ k : Nat, k < n ∧ e = .returned (.int .i64 (k : Int)) ∧ x = sl k ∧ ∀ i, i < k → x ≠ sl i)) := by
  obtain ⟨a, cap, rfl, h1, h2, h3⟩ := id h
  unfold maxLen at h2
  go_enter Try.func76, Try.ntmps76
  go_wp2_with fail
  go_loopw [8] (fun c wr => ∃ k : Nat, c = .int .i64 (k : Int) ∧ k ≤ n ∧ (∀ i, i < k → x ≠ sl i) ∧ wr = w) (fun c _ => n - (intOf c).toNat)
  case atStart => exact ⟨0, rfl, Nat.zero_le _, fun i hi => absurd hi (by omega), rfl⟩
  case round =>
    obtain ⟨k, rfl, hk, hg, rfl⟩ := hrel
    by_cases hlt : k < n
    · have t : (k : Int) < (n : Int) := by omega
      obtain ⟨b, off, rfl, hc⟩ := h3 k hlt
      have HG : Hid (∀ i, i < k → x ≠ sl i) := hg
      clear h3 hg h
      obtain ⟨y, HY'⟩ : ∃ y, sl k = y := ⟨_, rfl⟩
      rw [HY'] at hc
      have HY : Hid (sl k = y) := HY'
      clear HY'
      have hb := beq_bytes x y
      by_cases e : x = y
      · rw [decide_eq_true e] at hb
        have HE : Hid (x = y) := e
        clear e
        go_wp2_with fail
        go_ret
        exact ⟨rfl, .inr ⟨k, hlt, rfl, by rw [HY.out]; exact HE.out, HG.out⟩⟩
      · rw [decide_eq_false e] at hb
        have HE : Hid (¬ x = y) := e
        clear e
        go_wp2_with fail
        go_roundw
        case rel => exact ⟨k + 1, by simp, by omega, fun i hi => if e : i = k then by subst e; rw [HY.out]; exact HE.out else HG.out i (by omega), trivial⟩
        case measure => simp [intOf]; omega
    · have hkn : k = n := by omega
      subst hkn
      have t : ¬ (k : Int) < (k : Int) := by omega
      go_wp2_with fail
      go_ret
      exact ⟨rfl, .inl ⟨rfl, hg⟩⟩

set_option maxHeartbeats 1000000 in
theorem search1_any (p s rb nb i n cap : Nat) (nm name : ByteArray) (w : World) (hi : i < n)
    (h0 : w.cell? ⟨rb, 0, none⟩ = some (.pointer (some ⟨p, 0, none⟩))) (h1 : w.cell? ⟨nb, 0, none⟩ = some (.string name)) (h2 : w.cell? ⟨p, 0, none⟩ = some (.slice (some ⟨s, 0, none⟩) n cap)) (h3 : w.cell? ⟨s, i * 2, none⟩ = some (.string nm)) :
    Calls Try.prog 87 #[.int .i64 (i : Int), .pointer (some ⟨rb, 0, none⟩), .pointer (some ⟨nb, 0, none⟩)] w fun e w' => e = .returned (.bool (!Op.bytesLess nm.toList name.toList)) ∧ ∃ q, w' = w.drewN q := by
  have t : (i : Int) < (n : Int) := by omega
  go_enter Try.func87, Try.ntmps87
  go_wp2_with fail
  go_quiet (fail)
  go_wp2_with fail
  go_ret
  exact ⟨rfl, _, rfl⟩

/-- k is the place of a name among n: all ahead of it lie below, none from it on. -/
structure Place (nm : Nat → ByteArray) (n : Nat) (name : ByteArray) (k : Nat) : Prop where
  le : k ≤ n
  low : ∀ j, j < k → Lt (nm j) name
  high : ∀ j, k ≤ j → j < n → ¬ Lt (nm j) name
theorem Place.one {nm : Nat → ByteArray} {n : Nat} {name : ByteArray} {k m : Nat} (h : Place nm n name k) (g : Place nm n name m) : k = m := by
  rcases Nat.lt_trichotomy k m with e | e | e
  · exact absurd (g.low k e) (h.high k (Nat.le_refl _) (Nat.lt_of_lt_of_le e g.le))
  · exact e
  · exact absurd (h.low m e) (g.high m (Nat.le_refl _) (Nat.lt_of_lt_of_le e h.le))

set_option maxRecDepth 1000000 in
set_option maxHeartbeats 2000000 in
theorem sortSearch_any (p rb nb n cap K : Nat) (S : Option Addr) (nm : Nat → ByteArray) (name : ByteArray) (w : World) (hn : n ≤ 1000000) (hK : Place nm n name K)
    (hs : ∀ a b, a < b → b < n → Lt (nm a) (nm b))
    (h0 : w.cell? ⟨rb, 0, none⟩ = some (.pointer (some ⟨p, 0, none⟩))) (h1 : w.cell? ⟨nb, 0, none⟩ = some (.string name)) (h2 : w.cell? ⟨p, 0, none⟩ = some (.slice S n cap)) (h3 : ∀ i, i < n → ∃ s, S = some ⟨s, 0, none⟩ ∧ w.cell? ⟨s, i * 2, none⟩ = some (.string (nm i))) :
    Calls Try.prog 86 #[.int .i64 (n : Int), .func (.func 87) #[] #[.pointer (some ⟨rb, 0, none⟩), .pointer (some ⟨nb, 0, none⟩)]] w fun e w' => e = .returned (.int .i64 (K : Int)) ∧ ∃ q, w' = w.drewN q := by
  have HS : Hid (∀ a b, a < b → b < n → Lt (nm a) (nm b)) := hs
  have HK : Hid (Place nm n name K) := hK
  clear hs hK
  go_enter Try.func86, Try.ntmps86
  go_wp2_with fail
  go_loopg [5, 6] n (fun g a b wr => ∃ lo hi q : Nat, a = .int .i64 (lo : Int) ∧ b = .int .i64 (hi : Int) ∧ lo ≤ hi ∧ hi ≤ n ∧ hi - lo ≤ g ∧ wr = w.drewN q ∧ (∀ j, j < lo → Lt (nm j) name) ∧ (∀ j, hi ≤ j → j < n → ¬ Lt (nm j) name))
  case atStart => exact ⟨0, n, 0, rfl, rfl, Nat.zero_le _, Nat.le_refl _, by omega, rfl, fun j hj => absurd hj (by omega), fun j hj hj' => absurd hj' (by omega)⟩
  case round =>
    obtain ⟨lo, hi, q, rfl, rfl, hlh, hin, hg, rfl, hl, hh⟩ := hrel
    have HL : Hid (∀ j, j < lo → Lt (nm j) name) := hl
    have HH : Hid (∀ j, hi ≤ j → j < n → ¬ Lt (nm j) name) := hh
    clear hl hh
    by_cases hlt : lo < hi
    · obtain ⟨s, rfl, hc⟩ := h3 ((lo + hi) / 2) (by omega)
      have F := search1_any p s rb nb ((lo + hi) / 2) n cap (nm ((lo + hi) / 2)) name (w.drewN q) (by omega) h0 h1 h2 hc
      rw [show (((lo + hi) / 2 : Nat) : Int) = ((lo : Int) + (hi : Int)) / 2 by omega] at F
      obtain ⟨y, HY'⟩ : ∃ y, nm ((lo + hi) / 2) = y := ⟨_, rfl⟩
      rw [HY'] at F
      have HY : Hid (nm ((lo + hi) / 2) = y) := HY'
      clear HY' hc h3 h0 h1 h2
      cases hyx : Op.bytesLess y.toList name.toList
      · rw [hyx] at F
        go_wp2_with fail
        refine F.mono ?_
        rintro e w1 ⟨rfl, q', rfl⟩
        go_wp2_with fail
        go_roundg ((lo + hi) / 2 - lo)
        case measure => omega
        case rel => exact ⟨lo, (lo + hi) / 2, q + q', rfl, by rw [show ((lo : Int) + (hi : Int)) / 2 = (((lo + hi) / 2 : Nat) : Int) by omega], by omega, by omega, Nat.le_refl _, by simp, HL.out, fun j hj hj' k => by
          by_cases e : (lo + hi) / 2 = j
          · subst e; rw [HY.out] at k; unfold Lt at k; rw [hyx] at k; cases k
          · have := (HS.out ((lo + hi) / 2) j (by omega) hj').trans k
            rw [HY.out] at this; unfold Lt at this; rw [hyx] at this; cases this⟩
      · rw [hyx] at F
        go_wp2_with fail
        refine F.mono ?_
        rintro e w1 ⟨rfl, q', rfl⟩
        go_wp2_with fail
        go_roundg (hi - ((lo + hi) / 2 + 1))
        case measure => omega
        case rel => exact ⟨(lo + hi) / 2 + 1, hi, q + q', by rw [show ((lo : Int) + (hi : Int)) / 2 + 1 = (((lo + hi) / 2 + 1 : Nat) : Int) by omega], rfl, by omega, hin, Nat.le_refl _, by simp, fun j hj => by
          by_cases e : (lo + hi) / 2 = j
          · subst e; rw [HY.out]; exact hyx
          · refine (HS.out j ((lo + hi) / 2) (by omega) (by omega)).trans ?_
            rw [HY.out]; exact hyx, HH.out⟩
    · obtain rfl : lo = hi := by omega
      obtain rfl : K = lo := HK.out.one ⟨hin, HL.out, HH.out⟩
      go_wp2_with fail
      go_ret
      exact ⟨rfl, _, rfl⟩


set_option maxRecDepth 1000000 in
set_option maxHeartbeats 2000000 in
theorem search_at (p n cap K : Nat) (S : Option Addr) (nm : Nat → ByteArray) (name : ByteArray) (w : World) (hn : n ≤ 1000000) (hK : Place nm n name K)
    (hs : ∀ a b, a < b → b < n → Lt (nm a) (nm b)) (h2 : w.cell? ⟨p, 0, none⟩ = some (.slice S n cap)) (h3 : ∀ i, i < n → ∃ s, S = some ⟨s, 0, none⟩ ∧ w.cell? ⟨s, i * 2, none⟩ = some (.string (nm i))) :
    Calls Try.prog 75 #[.pointer (some ⟨p, 0, none⟩), .string name] w fun e w' => e = .returned (.tuple #[.int .i64 (K : Int), .bool (decide (K < n ∧ nm K = name))]) ∧ Below w.heap.size w w' := by
  obtain ⟨W, hW⟩ : ∃ W, W = (w.alloc (.cells #[.pointer (some ⟨p, 0, none⟩)] 104)).alloc (.cells #[.string name] 9) := ⟨_, rfl⟩
  have B : Below w.heap.size w W := by rw [hW]; exact ((Below.refl _ w).alloc (Nat.le_refl _) _).alloc (by simp) _
  have k0 : W.cell? ⟨w.heap.size, 0, none⟩ = some (.pointer (some ⟨p, 0, none⟩)) := by rw [hW]; simp
  have k1 : W.cell? ⟨w.heap.size + 1, 0, none⟩ = some (.string name) := by rw [hW]; simp
  have up : ∀ b o v, w.cell? ⟨b, o, none⟩ = some v → W.cell? ⟨b, o, none⟩ = some v := fun b o v h => (B.cell (p := ⟨b, o, none⟩) (World.block_lt_of_cell? _ _ h)).trans h
  have k2 := up _ _ _ h2
  have k3 : ∀ i, i < n → ∃ s, S = some ⟨s, 0, none⟩ ∧ W.cell? ⟨s, i * 2, none⟩ = some (.string (nm i)) := fun i hi => by
    obtain ⟨s, e, h⟩ := h3 i hi
    exact ⟨s, e, up _ _ _ h⟩
  have F := sortSearch_any p w.heap.size (w.heap.size + 1) n cap K S nm name W hn hK hs k0 k1 k2 k3
  have HK : Hid (Place nm n name K) := hK
  have ku := k2
  rw [hW] at ku
  have HW : Hid (W = _) := hW
  clear hs hK h3 up hW
  by_cases hlt : K < n
  · obtain ⟨s, rfl, hc⟩ := k3 K hlt
    have t : (K : Int) < (n : Int) := by omega
    have hb := beq_bytes (nm K) name
    obtain ⟨y, HY'⟩ : ∃ y, nm K = y := ⟨_, rfl⟩
    rw [HY'] at hc hb ⊢
    have HY : Hid (nm K = y) := HY'
    have d : decide (K < n ∧ y = name) = decide (y = name) := by simp [hlt]
    rw [d]
    clear HY' k3 d
    cases hd : decide (y = name)
    all_goals
      rw [hd] at hb
      go_enter Try.func75, Try.ntmps75
      go_wp2_with fail
      rw [← HW.out]
      refine F.mono ?_
      rintro e w1 ⟨rfl, q, rfl⟩
      go_wp2_with fail
      go_quiet (fail)
      go_wp2_with fail
      go_ret2
      exact ⟨rfl, below_more (below_more B _) _⟩
  · have t : ¬ (K : Int) < (n : Int) := by omega
    have t' : decide ((K : Int) < (n : Int)) = false := by simpa using hlt
    have d : decide (K < n ∧ nm K = name) = false := by simp [hlt]
    rw [d]
    clear d k3
    go_enter Try.func75, Try.ntmps75
    go_wp2_with fail
    rw [← HW.out]
    refine F.mono ?_
    rintro e w1 ⟨rfl, q, rfl⟩
    go_wp2_with fail
    go_quiet (fail)
    go_wp2_with fail
    go_ret2
    exact ⟨rfl, below_more (below_more B _) _⟩

theorem made_none (w : World) : Calls Try.prog 73 #[.pointer none] w fun e w' => e = .returned (.bool false) ∧ w' = w := by
  go_enter Try.func73, Try.ntmps73
  go_wp2
  go_ret
  exact ⟨rfl, rfl⟩
theorem made_plain (p cap : Nat) (S : Option Addr) (w : World) (h : w.cell? ⟨p, 1, none⟩ = some (.slice S 0 cap)) : Calls Try.prog 73 #[.pointer (some ⟨p, 0, none⟩)] w fun e w' => e = .returned (.bool false) ∧ w' = w := by
  go_enter Try.func73, Try.ntmps73
  go_wp2
  go_ret
  exact ⟨by simp, rfl⟩
theorem made_yes (p n cap : Nat) (S : Option Addr) (w : World) (hn : 0 < n) (h : w.cell? ⟨p, 1, none⟩ = some (.slice S n cap)) : Calls Try.prog 73 #[.pointer (some ⟨p, 0, none⟩)] w fun e w' => e = .returned (.bool true) ∧ w' = w := by
  have t : (0 : Int) < (n : Int) := by omega
  go_enter Try.func73, Try.ntmps73
  go_wp2
  go_ret
  exact ⟨by simp, rfl⟩
end Go.Proofs.Ytfphjhmhiaepiaa
