/-
  Contract of the law's told: positions tell what the document's list does.
-/
import Derived.Test.YtbmmokdccfajmaaPoRefMove
import Derived.Test.YtbmmokdccfajmaaPoAwake
namespace Go.Proofs.Ytbmmokdccfajmaa.PO
open Go.ChangeShapes Go.WideShapes Go.ChangeAt Go.RowKit Go.Lib RU

theorem to_bounds2 {b : Pk} (g : Good b) (a s d : Int) (hd : d = 1 ∨ d = 2) : 0 ≤ toW b a s d ∧ toW b a s d ≤ 9223372036854775807 := by
  cases h : hasB b a s
  · rw [(to_no h d).2]; omega
  · rw [(to_yes h d).2]; exact (g.val h hd).2
theorem int_any {B : Nat} {w : World} {r : Bool} {u : Value} {z : Int} {m : Nat} (h : IsNum B w r u z m) (h0 : 0 ≤ z) (h1 : z ≤ 9223372036854775807) : Calls Try.prog 21 #[.agg #[.bool r, u]] w fun e w' => e = .returned (.tuple #[.int .i64 z, .bool true]) ∧ Below w.heap.size w w' := by
  refine (intR_any r u z m w h).mono ?_
  rintro e w' ⟨x, rfl, hb, hx⟩
  rw [decide_eq_true (show -9223372036854775808 ≤ z ∧ z ≤ 9223372036854775807 by omega), hx (by omega)]
  exact ⟨rfl, hb⟩
set_option maxRecDepth 100000 in
set_option maxHeartbeats 8000000 in
theorem lawTold_any {w : World} {n : Nat} {b : Pk} (K : PosAt w n b) {al : Option Addr} {m lc : Nat} {X : Nat → Ex} (h : Ops w (.slice al m lc) m X) (hm : m ≤ 41) (hX : ∀ i, i < m → Fin (X i)) (a s : Int)
    (e1 : SQ X a s 1 m = toQ b a s 1) (e2 : SW X a s 1 m = toW b a s 1) (e3 : SQ X a s 2 m = toQ b a s 2) (e4 : SW X a s 2 m = toW b a s 2) :
    Calls Try.prog 10 #[.pointer (some ⟨n + 1, 0, none⟩), .slice al m lc, .int .i64 a, .int .i64 s] w fun e w' => e = .returned (.bool true) ∧ Below w.heap.size w w' := by
  have G1 := sum_any h hm hX a s 1
  have G2 : Hid (∀ w', Below w.heap.size w w' → _) := fun w' hb => sum_any (h.below hb) hm hX a s 2
  have b1 := to_bounds K.good a s 1 (by omega)
  have b2 := to_bounds2 K.good a s 1 (by omega)
  have b3 := to_bounds K.good a s 2 (by omega)
  have b4 := to_bounds2 K.good a s 2 (by omega)
  have G3 : Hid (∀ w', Below w.heap.size w w' → _) := fun w' hb => bought_any (K.below hb) a s
  have G4 : Hid (∀ w', Below w.heap.size w w' → _) := fun w' hb => sold_any (K.below hb) a s
  have G5 : Hid (∀ w', Below w.heap.size w w' → _) := fun w' hb => net_any (K.below hb) a s
  rw [e1, e2] at G1
  rw [e3, e4] at G2
  clear e1 e2 e3 e4 h hX K
  generalize toQ b a s 1 = z1 at *
  generalize toW b a s 1 = z2 at *
  generalize toQ b a s 2 = z3 at *
  generalize toW b a s 2 = z4 at *
  go_enter Try.func10, Try.ntmps10
  go_wp2_with fail
  refine G1.mono ?_
  rintro e w1 ⟨r1, u1, r2, u2, rfl, hb1, n1, n2⟩
  obtain ⟨a1, m1, c1, rfl⟩ := num_slice n1
  obtain ⟨a2, m2, c2, rfl⟩ := num_slice n2
  have HB1 : Hid (Below w.heap.size w w1) := hb1
  have H1 : Hid (IsNum 0 w1 r1 (.slice a1 m1 c1) z1 200 ∧ IsNum 0 w1 r2 (.slice a2 m2 c2) z2 200) := ⟨num_mono n1 (Nat.zero_le _), num_mono n2 (Nat.zero_le _)⟩
  clear G1 hb1 n1 n2
  go_upto_region 2 with fail
  have M1 : Hid (Nm 0 ((w1.alloc (.cells #[.bool r1, .slice a1 m1 c1] 51)).alloc (.cells #[.bool r2, .slice a2 m2 c2] 51)) w1.heap.size r1 (.slice a1 m1 c1) z1 200) := (Nm.new _ H1.out.1).below ((Below.refl _ _).alloc (Nat.le_refl _) _)
  have M2 : Hid (Nm 0 ((w1.alloc (.cells #[.bool r1, .slice a1 m1 c1] 51)).alloc (.cells #[.bool r2, .slice a2 m2 c2] 51)) (w1.heap.size + 1) r2 (.slice a2 m2 c2) z2 200) := by
    have := Nm.new (w := w1.alloc (.cells #[.bool r1, .slice a1 m1 c1] 51)) 51 (H1.out.2.below ((Below.refl _ _).alloc (Nat.le_refl _) _))
    rw [World.size_alloc] at this
    exact this
  have HB2 : Hid (Below w.heap.size w ((w1.alloc (.cells #[.bool r1, .slice a1 m1 c1] 51)).alloc (.cells #[.bool r2, .slice a2 m2 c2] 51))) := (HB1.out.alloc HB1.out.size _).alloc (by have := HB1.out.size; simp; omega) _
  generalize (w1.alloc (.cells #[.bool r1, .slice a1 m1 c1] 51)).alloc (.cells #[.bool r2, .slice a2 m2 c2] 51) = w2 at *
  obtain ⟨g2, hg2⟩ : ∃ g, g = w1.heap.size + 1 := ⟨_, rfl⟩
  rw [← hg2] at M2
  rw [← hg2]
  clear hg2
  obtain ⟨g1, hg1⟩ : ∃ g, g = w1.heap.size := ⟨_, rfl⟩
  rw [← hg1] at M1
  rw [← hg1]
  clear hg1 HB1 H1
  have G := G2.out w2 HB2.out
  go_wp2_with fail
  refine G.mono ?_
  rintro e w3 ⟨r3, u3, r4, u4, rfl, hb3, n1, n2⟩
  obtain ⟨a3, m3, c3, rfl⟩ := num_slice n1
  obtain ⟨a4, m4, c4, rfl⟩ := num_slice n2
  have HB3 : Hid (Below w.heap.size w w3) := HB2.out.trans (hb3.mono HB2.out.size)
  have H3 : Hid (IsNum 0 w3 r3 (.slice a3 m3 c3) z3 200 ∧ IsNum 0 w3 r4 (.slice a4 m4 c4) z4 200) := ⟨num_mono n1 (Nat.zero_le _), num_mono n2 (Nat.zero_le _)⟩
  have M1' : Hid (Nm 0 w3 g1 r1 (.slice a1 m1 c1) z1 200) := M1.out.below hb3
  have M2' : Hid (Nm 0 w3 g2 r2 (.slice a2 m2 c2) z2 200) := M2.out.below hb3
  clear G G2 hb3 n1 n2 M1 M2 HB2
  go_upto_region 3 with fail
  have bb : Below w3.heap.size w3 ((w3.alloc (.cells #[.bool r3, .slice a3 m3 c3] 51)).alloc (.cells #[.bool r4, .slice a4 m4 c4] 51)) := ((Below.refl _ _).alloc (Nat.le_refl _) _).alloc (by simp) _
  have M1 : Hid (Nm 0 _ g1 r1 (.slice a1 m1 c1) z1 200) := M1'.out.below bb
  have M2 : Hid (Nm 0 _ g2 r2 (.slice a2 m2 c2) z2 200) := M2'.out.below bb
  have M3 : Hid (Nm 0 ((w3.alloc (.cells #[.bool r3, .slice a3 m3 c3] 51)).alloc (.cells #[.bool r4, .slice a4 m4 c4] 51)) w3.heap.size r3 (.slice a3 m3 c3) z3 200) := (Nm.new _ H3.out.1).below ((Below.refl _ _).alloc (Nat.le_refl _) _)
  have M4 : Hid (Nm 0 ((w3.alloc (.cells #[.bool r3, .slice a3 m3 c3] 51)).alloc (.cells #[.bool r4, .slice a4 m4 c4] 51)) (w3.heap.size + 1) r4 (.slice a4 m4 c4) z4 200) := by
    have := Nm.new (w := w3.alloc (.cells #[.bool r3, .slice a3 m3 c3] 51)) 51 (H3.out.2.below ((Below.refl _ _).alloc (Nat.le_refl _) _))
    rw [World.size_alloc] at this
    exact this
  have HB : Hid (Below w.heap.size w ((w3.alloc (.cells #[.bool r3, .slice a3 m3 c3] 51)).alloc (.cells #[.bool r4, .slice a4 m4 c4] 51))) := HB3.out.trans (bb.mono HB3.out.size)
  clear bb M1' M2'
  generalize (w3.alloc (.cells #[.bool r3, .slice a3 m3 c3] 51)).alloc (.cells #[.bool r4, .slice a4 m4 c4] 51) = w4 at *
  obtain ⟨g4, hg4⟩ : ∃ g, g = w3.heap.size + 1 := ⟨_, rfl⟩
  rw [← hg4] at M4
  rw [← hg4]
  clear hg4
  obtain ⟨g3, hg3⟩ : ∃ g, g = w3.heap.size := ⟨_, rfl⟩
  rw [← hg3] at M3
  rw [← hg3]
  clear hg3 HB3 H3
  have G := G3.out _ HB.out
  go_wp2_with fail
  refine G.mono ?_
  rintro e w5 ⟨rfl, hb⟩
  replace M1 : Hid _ := M1.out.below hb
  replace M2 : Hid _ := M2.out.below hb
  replace M3 : Hid _ := M3.out.below hb
  replace M4 : Hid _ := M4.out.below hb
  replace HB : Hid (Below w.heap.size w w5) := HB.out.trans (hb.mono HB.out.size)
  clear G hb
  have G := G4.out _ HB.out
  go_wp2_with fail
  refine G.mono ?_
  rintro e w6 ⟨rfl, hb⟩
  replace M1 : Hid _ := M1.out.below hb
  replace M2 : Hid _ := M2.out.below hb
  replace M3 : Hid _ := M3.out.below hb
  replace M4 : Hid _ := M4.out.below hb
  replace HB : Hid (Below w.heap.size w w6) := HB.out.trans (hb.mono HB.out.size)
  clear G hb
  have G := int_any M1.out.nm b1.1 b1.2
  have k0 := M1.out.c0
  have k1 := M1.out.c1
  go_wp2_with fail
  refine G.mono ?_
  rintro e w7 ⟨rfl, hb⟩
  replace M2 : Hid _ := M2.out.below hb
  replace M3 : Hid _ := M3.out.below hb
  replace M4 : Hid _ := M4.out.below hb
  replace HB : Hid (Below w.heap.size w w7) := HB.out.trans (hb.mono HB.out.size)
  clear G hb k0 k1
  have G := int_any M2.out.nm b2.1 b2.2
  have k0 := M2.out.c0
  have k1 := M2.out.c1
  go_wp2_with fail
  refine G.mono ?_
  rintro e w8 ⟨rfl, hb⟩
  replace M3 : Hid _ := M3.out.below hb
  replace M4 : Hid _ := M4.out.below hb
  replace HB : Hid (Below w.heap.size w w8) := HB.out.trans (hb.mono HB.out.size)
  clear G hb k0 k1
  have G := int_any M3.out.nm b3.1 b3.2
  have k0 := M3.out.c0
  have k1 := M3.out.c1
  go_wp2_with fail
  refine G.mono ?_
  rintro e w9 ⟨rfl, hb⟩
  replace M4 : Hid _ := M4.out.below hb
  replace HB : Hid (Below w.heap.size w w9) := HB.out.trans (hb.mono HB.out.size)
  clear G hb k0 k1
  have G := int_any M4.out.nm b4.1 b4.2
  have k0 := M4.out.c0
  have k1 := M4.out.c1
  go_wp2_with fail
  refine G.mono ?_
  rintro e w10 ⟨rfl, hb⟩
  replace HB : Hid (Below w.heap.size w w10) := HB.out.trans (hb.mono HB.out.size)
  clear G hb k0 k1
  have G := G5.out _ HB.out
  go_wp2_with fail
  refine G.mono ?_
  rintro e w11 ⟨rfl, hb⟩
  replace HB : Hid (Below w.heap.size w w11) := HB.out.trans (hb.mono HB.out.size)
  clear G hb
  go_wp2_with fail
  go_ret
  exact ⟨by simp, HB.out⟩
end Go.Proofs.Ytbmmokdccfajmaa.PO
