/-
  Contracts of body's within, of what Int hands to take, of Int; and of all methods of no form.
-/
import Derived.Test.YtdacmhnniecmhaaDoorBodyTake
import Derived.Test.YtdacmhnniecmhaaDoorBodyNum
namespace Go.Proofs.YtdacmhnniecmhaaDoor
open Go.ChangeShapes Go.WideShapes Go.ChangeAt Go.RowKit Go.Lib

set_option maxHeartbeats 2000000 in
theorem within_ok (low high : Int) (v : Value) (n : Nat) (f : Nat → Int) (w : World) (h : Row w v n fun i => .int .i64 (f i)) (hn : n ≤ 1000000) (hf : ∀ i, i < n → low ≤ f i ∧ f i ≤ high) :
    Calls Tryd.prog 70 #[.int .i64 low, .int .i64 high, v] w fun e w' => e = .returned (.int .i64 0) ∧ w' = w := by
  obtain ⟨a, cap, rfl, r1, r2, r3⟩ := id h
  unfold maxLen at r2
  clear h
  go_enter Tryd.func70, Tryd.ntmps70
  go_wp2_with fail
  go_loopw [11] (fun i wr => ∃ k : Nat, i = .int .i64 (k : Int) ∧ k ≤ n ∧ wr = w) (fun i _ => n - (RowKit.intOf i).toNat)
  case atStart => exact ⟨0, rfl, Nat.zero_le _, rfl⟩
  case round =>
    obtain ⟨k, rfl, hk, rfl⟩ := hrel
    by_cases hp : k < n
    · have t0 : (k : Int) < (n : Int) := by omega
      obtain ⟨b, off, rfl, cc⟩ := r3 k hp
      have hx := hf k hp
      generalize f k = x at *
      have t1 : ¬ x < low := by omega
      have t2 : ¬ high < x := by omega
      clear r3 hf hx
      go_wp2_with fail
      go_roundw
      case rel => exact ⟨k + 1, by simp, by omega, by first | trivial | rfl⟩
      case measure => simp [RowKit.intOf]; omega
    · obtain rfl : k = n := by omega
      have t0 : ¬ (k : Int) < (k : Int) := by omega
      go_wp2_with fail
      go_ret
      exact ⟨rfl, rfl⟩
set_option maxHeartbeats 2000000 in
theorem intRead_good (s : ByteArray) (hs : s.size ≤ maxLen) (N : Nat) (hN : numE s.data.toList = (N, 0)) (low high : Int) (hlo : low ≤ (N : Int)) (hhi : (N : Int) ≤ high) (b1 b2 : Nat) (w : World) (c1 : w.cell? ⟨b1, 0, none⟩ = some (.int .i64 low)) (c2 : w.cell? ⟨b2, 0, none⟩ = some (.int .i64 high)) :
    Calls Tryd.prog 68 #[.string s, .pointer (some ⟨b1, 0, none⟩), .pointer (some ⟨b2, 0, none⟩)] w fun e w2 => e = .returned (.tuple #[.int .i64 (N : Int), .int .i64 0]) ∧ Below w.heap.size w w2 := by
  have F := fun w => number_any s w hs
  rw [hN] at F
  dsimp only at F
  have hrow : Row (w.alloc (.cells #[.int .i64 (N : Int)] 3)) (.slice (some ⟨w.heap.size, 0, none⟩) 1 1) 1 fun _ => .int .i64 (N : Int) := by
    refine ⟨_, 1, rfl, Nat.le_refl _, by unfold maxLen; omega, fun i hi => ⟨w.heap.size, 0, rfl, ?_⟩⟩
    obtain rfl : i = 0 := by omega
    simp
  have G := within_ok low high _ 1 (fun _ => (N : Int)) _ hrow (by omega) (fun _ _ => ⟨hlo, hhi⟩)
  clear hrow hN
  go_enter Tryd.func68, Tryd.ntmps68
  go_wp2_with fail
  refine (F _).mono ?_
  rintro e w1 ⟨rfl, rfl⟩
  go_wp2_with fail
  refine G.mono ?_
  rintro e w1 ⟨rfl, rfl⟩
  go_wp2_with fail
  go_ret2
  exact ⟨rfl, (Below.refl _ _).alloc (Nat.le_refl _) _⟩
set_option maxHeartbeats 2000000 in
theorem intRead_bad (s : ByteArray) (hs : s.size ≤ maxLen) (hN : numE s.data.toList = (0, 112)) (b1 b2 : Nat) (w : World) :
    Calls Tryd.prog 68 #[.string s, .pointer (some ⟨b1, 0, none⟩), .pointer (some ⟨b2, 0, none⟩)] w fun e w2 => e = .returned (.tuple #[.int .i64 0, .int .i64 112]) ∧ Below w.heap.size w w2 := by
  have F := fun w => number_any s w hs
  rw [hN] at F
  dsimp only at F
  clear hN
  go_enter Tryd.func68, Tryd.ntmps68
  go_wp2_with fail
  refine (F _).mono ?_
  rintro e w1 ⟨rfl, rfl⟩
  go_wp2_with fail
  go_ret2
  exact ⟨rfl, Below.refl _ _⟩
/-- Two boxes laid one behind the other. -/
abbrev boxes (w : World) (x y : Int) : World := (w.alloc (.cells #[.int .i64 x] 3)).alloc (.cells #[.int .i64 y] 3)
theorem boxes_below (w : World) (x y : Int) : Below w.heap.size w (boxes w x y) := ((Below.refl _ w).alloc (Nat.le_refl _) _).alloc (by simp) _
theorem boxes_size (w : World) (x y : Int) : (boxes w x y).heap.size = w.heap.size + 2 := by simp [boxes]
theorem boxes_0 (w : World) (x y : Int) : (boxes w x y).cell? ⟨w.heap.size, 0, none⟩ = some (.int .i64 x) := by simp [boxes]
theorem boxes_1 (w : World) (x y : Int) : (boxes w x y).cell? ⟨w.heap.size + 1, 0, none⟩ = some (.int .i64 y) := by simp [boxes]
theorem But.after {S : Nat → Prop} {a b c : World} (h : Below a.heap.size a b) (k : But S b c) : But S a c := (But.of_below h).trans k (fun _ _ e => e)
set_option maxHeartbeats 2000000 in
theorem int_good {n0 : Nat} {w : World} {fb bm n : Nat} {tv : Value} {tags : List Int} {L : Int → Option (ByteArray × Bool)} {at_ : Int} (h : Frm n0 w fb bm n tv tags L at_ 0) (hn : n ≤ 1000000) (t : Int) (h1 : -9223372036854775808 ≤ t) (h2 : t ≤ 9223372036854775807) (s : ByteArray) (b : Bool) (hL : L t = some (s, b)) (hs : s.size ≤ maxLen) (N : Nat) (hN : numE s.data.toList = (N, 0)) (low high : Int) (hlo : low ≤ (N : Int)) (hhi : (N : Int) ≤ high) :
    Calls Tryd.prog 54 #[.pointer (some ⟨fb, 0, none⟩), .int .i64 t, .int .i64 low, .int .i64 high] w fun e w' => e = .returned (.int .i64 (N : Int)) ∧ Frm n0 w' fb bm (n + 1) tv tags (updI L t (s, true)) at_ 0 ∧ But (Two fb bm) w w' := by
  have BB := boxes_below w low high
  have z0 := boxes_0 w low high
  have z1 := boxes_1 w low high
  have zs := boxes_size w low high
  have R : ∀ w1, Below (boxes w low high).heap.size (boxes w low high) w1 → _ := fun w1 (hb : Below (boxes w low high).heap.size (boxes w low high) w1) => intRead_good s hs N hN low high hlo hhi w.heap.size (w.heap.size + 1) w1 ((hb.cell (p := ⟨w.heap.size, 0, none⟩) (by rw [zs]; simp)).trans z0) ((hb.cell (p := ⟨w.heap.size + 1, 0, none⟩) (by rw [zs]; simp)).trans z1)
  have T := takeI_good (h.still BB) hn t h1 h2 s b hL w.heap.size (w.heap.size + 1) (N : Int) R
  clear R z0 z1 zs h hL
  have HB : Hid (Below w.heap.size w (boxes w low high)) := BB
  clear BB
  go_enter Tryd.func54, Tryd.ntmps54
  go_wp2_with fail
  refine T.mono ?_
  rintro e w1 ⟨rfl, hF, hB⟩
  go_wp2_with fail
  go_ret
  exact ⟨rfl, hF, But.after HB.out hB⟩
set_option maxHeartbeats 2000000 in
theorem int_bad {n0 : Nat} {w : World} {fb bm n : Nat} {tv : Value} {tags : List Int} {L : Int → Option (ByteArray × Bool)} {at_ : Int} (h : Frm n0 w fb bm n tv tags L at_ 0) (t : Int) (h1 : -9223372036854775808 ≤ t) (h2 : t ≤ 9223372036854775807) (s : ByteArray) (b : Bool) (hL : L t = some (s, b)) (hs : s.size ≤ maxLen) (hN : numE s.data.toList = (0, 112)) (low high : Int) :
    Calls Tryd.prog 54 #[.pointer (some ⟨fb, 0, none⟩), .int .i64 t, .int .i64 low, .int .i64 high] w fun e w' => e = .returned (.int .i64 0) ∧ Frm n0 w' fb bm n tv tags L t 112 ∧ But (Two fb bm) w w' := by
  have BB := boxes_below w low high
  have T := takeI_bad (h.still BB) t h1 h2 s b hL w.heap.size (w.heap.size + 1) 0 112 (by omega) (fun w1 _ => intRead_bad s hs hN _ _ w1)
  clear h hL
  have HB : Hid (Below w.heap.size w (boxes w low high)) := BB
  clear BB
  go_enter Tryd.func54, Tryd.ntmps54
  go_wp2_with fail
  refine T.mono ?_
  rintro e w1 ⟨rfl, hF, hB⟩
  go_wp2_with fail
  go_ret
  exact ⟨rfl, hF, But.after HB.out hB⟩
end Go.Proofs.YtdacmhnniecmhaaDoor
