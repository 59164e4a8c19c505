/-
  Contracts of the library's swapRange and rotate, at offers: two blocks of places change.
-/
import Derived.Test.YtbjibmfehphffaaRoRank
import Derived.Test.YtbjibmfehphffaaStMerge
namespace Go.Proofs.Ytbjibmfehphffaa.RO
open Go.ChangeShapes Go.WideShapes Go.ChangeAt Go.RowKit Go.Proofs.Ytbjibmfehphffaa.ST

set_option maxRecDepth 100000 in
set_option maxHeartbeats 4000000 in
theorem range_any (L : Nat → Of) (f : Nat → Nat) (n a b k cap bk : Nat) (w : World) (h : HoldO w bk n (fun k => L (f k))) (hab : a + k ≤ b) (hb : b + k ≤ n) (hn : n ≤ 1000000) (fv : Value) :
    Calls Try.prog 62 #[.slice (some ⟨bk, 0, none⟩) n cap, .int .i64 (a : Int), .int .i64 (b : Int), .int .i64 (k : Int), fv] w
      fun e w' => (∃ v, e = .returned v) ∧ Hid (Sor w w' bk n L (swr f a b k)) := by
  have HH : Hid (Sor w w bk n L (swr f a b 0)) := by rw [swr_zero]; exact ⟨h, But.refl _ _⟩
  clear h
  go_enter Try.func62, Try.ntmps62
  go_wp2_with fail
  go_loopw [10] (fun x wr => ∃ i : Nat, x = .int .i64 (i : Int) ∧ i ≤ k ∧ Hid (Sor w wr bk n L (swr f a b i))) (fun x _ => k - (RowKit.intOf x).toNat)
  case atStart => exact ⟨0, rfl, Nat.zero_le _, HH⟩
  case round =>
    obtain ⟨i, rfl, hi, HI⟩ := hrel
    by_cases hlt : i < k
    · have t : (i : Int) < (k : Int) := by omega
      obtain ⟨p, hp⟩ : ∃ p, a + i = p := ⟨_, rfl⟩
      obtain ⟨q, hq⟩ : ∃ q, b + i = q := ⟨_, rfl⟩
      have HX := HI.out.1.cell q (by omega)
      have HY := HI.out.1.cell p (by omega)
      have z := fun o => HI.out.1.thaw o
      have HNX : Hid (swr f a b (i + 1) = sw (swr f a b i) p q) := by rw [← hp, ← hq]; exact swr_next f (by omega)
      have HSWP : Hid (∀ W, Below wr.heap.size wr W → HoldO (put5 (put5 W bk (p * 5) (L (swr f a b i q))) bk (q * 5) (L (swr f a b i p))) bk n (fun k => L (sw (swr f a b i) p q k)) ∧ But (fun k => k = bk) wr (put5 (put5 W bk (p * 5) (L (swr f a b i q))) bk (q * 5) (L (swr f a b i p)))) := HI.out.1.swap (by omega) (by omega) (by omega)
      have tp : (p : Int) < (n : Int) := by omega
      have tq : (q : Int) < (n : Int) := by omega
      have ep : (a : Int) + (i : Int) = (p : Int) := by omega
      have eq : (b : Int) + (i : Int) = (q : Int) := by omega
      have hne : ¬ p * 5 = q * 5 := by omega
      obtain ⟨x, hx⟩ : ∃ x, L (swr f a b i q) = x := ⟨_, rfl⟩
      obtain ⟨y, hy⟩ : ∃ y, L (swr f a b i p) = y := ⟨_, rfl⟩
      rw [hx] at HX HSWP
      rw [hy] at HY HSWP
      clear hx hy hp hq
      obtain ⟨x0, x1, x2, x3, x4⟩ := x
      obtain ⟨y0, y1, y2, y3, y4⟩ := y
      obtain ⟨c0, c1, c2, c3, c4⟩ := HX.all
      obtain ⟨d0, d1, d2, d3, d4⟩ := HY.all
      clear HX HY
      simp only at c0 c1 c2 c3 c4 d0 d1 d2 d3 d4
      have z0 := z (p * 5)
      have z1 := z (p * 5 + 1)
      have z2 := z (p * 5 + 2)
      have z3 := z (p * 5 + 3)
      have z4 := z (p * 5 + 4)
      have z5 := z (q * 5)
      have z6 := z (q * 5 + 1)
      have z7 := z (q * 5 + 2)
      have z8 := z (q * 5 + 3)
      have z9 := z (q * 5 + 4)
      simp only [put5] at HSWP
      clear z
      go_wp2_with fail
      go_region
      go_wp2_with fail
      go_roundw
      case rel =>
        have G := HSWP.out wr (Below.refl _ _)
        exact ⟨i + 1, by simp, by omega, by rw [HNX.out]; exact ⟨G.1.below (below_drewN _ 1 _), (HI.out.2.trans G.2 (fun _ _ e => e)).drew⟩⟩
      case measure => simp [RowKit.intOf] <;> omega
    · have t : ¬ (i : Int) < (k : Int) := by omega
      obtain rfl : i = k := by omega
      go_wp2_with fail
      go_end0
      exact ⟨⟨_, rfl⟩, HI⟩
set_option maxRecDepth 100000 in
set_option maxHeartbeats 4000000 in
theorem rotate_any (L : Nat → Of) (f : Nat → Nat) (n a m b cap bk : Nat) (w : World) (h : HoldO w bk n (fun k => L (f k))) (ham : a < m) (hmb : m < b) (hb : b ≤ n) (hn : n ≤ 1000000) (fv : Value) :
    Calls Try.prog 60 #[.slice (some ⟨bk, 0, none⟩) n cap, .int .i64 (a : Int), .int .i64 (m : Int), .int .i64 (b : Int), fv] w
      fun e w' => (∃ v, e = .returned v) ∧ Hid (Sor w w' bk n L (rot a m b f)) := by
  have HH : Hid (Sor w w bk n L f ∧ rot (m - (m - a)) m (m + (b - m)) f = rot a m b f) := ⟨⟨h, But.refl _ _⟩, by rw [show m - (m - a) = a by omega, show m + (b - m) = b by omega]⟩
  clear h
  obtain ⟨i0, hi0⟩ : ∃ i0, m - a = i0 := ⟨_, rfl⟩
  obtain ⟨j0, hj0⟩ : ∃ j0, b - m = j0 := ⟨_, rfl⟩
  rw [hi0, hj0] at HH
  have e1 : (m : Int) - (a : Int) = (i0 : Int) := by omega
  have e2 : (b : Int) - (m : Int) = (j0 : Int) := by omega
  have hi1 : 0 < i0 := by omega
  have hj1 : 0 < j0 := by omega
  have hi2 : i0 ≤ m := by omega
  have hj2 : m + j0 ≤ n := by omega
  clear hi0 hj0
  go_enter Try.func60, Try.ntmps60
  go_wp2_with fail
  go_loopw [10, 11] (fun x y wr => ∃ (i j : Nat) (f' : Nat → Nat), x = .int .i64 (i : Int) ∧ y = .int .i64 (j : Int) ∧ 0 < i ∧ 0 < j ∧ i ≤ m ∧ m + j ≤ n ∧ Hid (Sor w wr bk n L f' ∧ rot (m - i) m (m + j) f' = rot a m b f)) (fun x y _ => (RowKit.intOf x).toNat + (RowKit.intOf y).toNat)
  case atStart => exact ⟨i0, j0, f, rfl, rfl, hi1, hj1, hi2, hj2, HH⟩
  case round =>
    obtain ⟨i, j, f', rfl, rfl, hi, hj, him, hjn, HI⟩ := hrel
    clear e1 e2
    rcases Nat.lt_trichotomy i j with c | c | c
    · have t1 : ¬ (i : Int) = (j : Int) := by omega
      have t2 : ¬ (j : Int) < (i : Int) := by omega
      obtain ⟨p, hp⟩ : ∃ p, m - i = p := ⟨_, rfl⟩
      obtain ⟨q, hq⟩ : ∃ q, m + j - i = q := ⟨_, rfl⟩
      obtain ⟨d, hd⟩ : ∃ d, j - i = d := ⟨_, rfl⟩
      have F := range_any L f' n p q i cap bk wr HI.out.1.1 (by omega) (by omega) hn fv
      have HN : Hid (rot (m - i) m (m + d) (swr f' p q i) = rot a m b f) := by
        rw [← hd, ← hp, ← hq]
        exact (rot_less f' him hi c).symm.trans HI.out.2
      have e1 : (m : Int) - (i : Int) = (p : Int) := by omega
      have e2 : (m : Int) + (j : Int) - (i : Int) = (q : Int) := by omega
      have e3 : (j : Int) - (i : Int) = (d : Int) := by omega
      have hd1 : 0 < d := by omega
      have hd2 : m + d ≤ n := by omega
      have hd3 : d < j := by omega
      clear hp hq hd
      go_wp2_with fail
      refine F.mono ?_
      rintro e w2 ⟨⟨v, rfl⟩, H2⟩
      go_wp2_with fail
      go_roundw
      case rel => exact ⟨i, d, _, rfl, rfl, hi, hd1, him, hd2, ⟨H2.out.1, HI.out.1.2.trans H2.out.2 (fun _ _ e => e)⟩, HN.out⟩
      case measure => simp [RowKit.intOf] <;> omega
    · have t1 : (i : Int) = (j : Int) := by omega
      obtain ⟨p, hp⟩ : ∃ p, m - i = p := ⟨_, rfl⟩
      have F := range_any L f' n p m i cap bk wr HI.out.1.1 (by omega) (by omega) hn fv
      have e1 : (m : Int) - (i : Int) = (p : Int) := by omega
      have HN : Hid (swr f' p m i = rot a m b f) := by
        rw [← hp, ← rot_same f' him]
        have := HI.out.2
        rw [← c] at this
        exact this
      subst c
      clear hp t1
      go_wp2_with fail
      refine F.mono ?_
      rintro e w2 ⟨⟨v, rfl⟩, H2⟩
      go_wp2_with fail
      go_end0
      exact ⟨⟨_, rfl⟩, by rw [← HN.out]; exact ⟨H2.out.1, HI.out.1.2.trans H2.out.2 (fun _ _ e => e)⟩⟩
    · have t1 : ¬ (i : Int) = (j : Int) := by omega
      have t2 : (j : Int) < (i : Int) := by omega
      obtain ⟨p, hp⟩ : ∃ p, m - i = p := ⟨_, rfl⟩
      obtain ⟨d, hd⟩ : ∃ d, i - j = d := ⟨_, rfl⟩
      have F := range_any L f' n p m j cap bk wr HI.out.1.1 (by omega) (by omega) hn fv
      have HN : Hid (rot (m - d) m (m + j) (swr f' p m j) = rot a m b f) := by
        rw [← hd, ← hp]
        exact (rot_more f' him hj c).symm.trans HI.out.2
      have e1 : (m : Int) - (i : Int) = (p : Int) := by omega
      have e3 : (i : Int) - (j : Int) = (d : Int) := by omega
      have hd1 : 0 < d := by omega
      have hd2 : d ≤ m := by omega
      have hd3 : d < i := by omega
      clear hp hd
      go_wp2_with fail
      refine F.mono ?_
      rintro e w2 ⟨⟨v, rfl⟩, H2⟩
      go_wp2_with fail
      go_roundw
      case rel => exact ⟨d, j, _, rfl, rfl, hd1, hj, hd2, hjn, ⟨H2.out.1, HI.out.1.2.trans H2.out.2 (fun _ _ e => e)⟩, HN.out⟩
      case measure => simp [RowKit.intOf] <;> omega
end Go.Proofs.Ytbjibmfehphffaa.RO
