/-
  For every four ints, handed as one struct, the Go function CheckedLess, over the landed program, returns true and leaves its argument and all old memory as they were. No condition.
-/
import Derived.Test.YtjcbjhnnmkmjkaaLess
import Derived.Test.YtjcbjhnnmkmjkaaDown
import Derived.Lib.SmallJoins
namespace Go.Proofs.Ytjcbjhnnmkmjkaa
open Go.ChangeShapes Go.WideShapes Go.ChangeAt Go.RowKit

theorem IsNum.setCell {B : Nat} {w : World} {s : Bool} {sl : Value} {z : Int} {n : Nat} (h : IsNum B w s sl z n) {p : Addr} (hp : p.block < B) (u : Value) : IsNum B (w.setCell p u) s sl z n := by
  obtain ⟨h0, l, h1, h2⟩ := h
  exact ⟨h0, l, h1.setCell hp u, h2⟩
theorem IsNum.low {B : Nat} {w : World} {s : Bool} {sl : Value} {z : Int} {n : Nat} (h : IsNum B w s sl z n) : IsNum 0 w s sl z n := by
  obtain ⟨h0, l, h1, h2⟩ := h
  exact ⟨h0, l, h1.mono (Nat.zero_le _), h2⟩

set_option maxHeartbeats 4000000 in
theorem checkedLess_walk (a b c d : Int) (a1 : -9223372036854775808 ≤ a) (a2 : a ≤ 9223372036854775807) (b1 : -9223372036854775808 ≤ b) (b2 : b ≤ 9223372036854775807) (c1 : -9223372036854775808 ≤ c) (c2 : c ≤ 9223372036854775807) (d1 : -9223372036854775808 ≤ d) (d2 : d ≤ 9223372036854775807) (w : World) :
    Calls Try.prog 7 #[.agg #[.int .i64 a, .int .i64 b, .int .i64 c, .int .i64 d]] w fun e w' => e = .returned (.bool true) ∧ Below w.heap.size w w' := by
  go_enter Try.func7, Try.ntmps7
  go_wp2_with fail
  refine (awake_any _).mono ?_
  rintro e W ⟨rfl, hb1⟩
  have B1 : Below w.heap.size w W := ((Below.refl _ _).alloc (Nat.le_refl _) _).trans (hb1.mono (by simp))
  have p0 := hb1.cell (p := ⟨w.heap.size, 0, none⟩) (by simp)
  have p1 := hb1.cell (p := ⟨w.heap.size, 1, none⟩) (by simp)
  have p2 := hb1.cell (p := ⟨w.heap.size, 2, none⟩) (by simp)
  have p3 := hb1.cell (p := ⟨w.heap.size, 3, none⟩) (by simp)
  simp at p0 p1 p2 p3
  clear hb1
  go_upto_region 3 with fail
  go_cut [3] from 7 to 33 (fun p wx => ∃ g r v, p = .pointer (some ⟨g, 0, none⟩) ∧ wx.cell? ⟨g, 0, none⟩ = some (.bool r) ∧ wx.cell? ⟨g, 1, none⟩ = some v ∧ IsNum 0 wx r v (a * b) 128 ∧ Below W.heap.size W wx)
  case first =>
    have e0 := World.new_ne W _ p0
    have e1 := World.new_ne W _ p1
    have e2 := World.new_ne W _ p2
    have e3 := World.new_ne W _ p3
    go_region_held3 (fun w' => w'.cell? ⟨w.heap.size, 0, none⟩ = some (.int .i64 a) ∧ w'.cell? ⟨w.heap.size, 1, none⟩ = some (.int .i64 b) ∧ w'.cell? ⟨w.heap.size, 2, none⟩ = some (.int .i64 c) ∧ w'.cell? ⟨w.heap.size, 3, none⟩ = some (.int .i64 d)) (go_keep) (first
      | (go_at_call_of 10 (Value.int IntKind.i64 a); refine (of_any a _ a1 a2).mono ?_; rintro e x1 ⟨va, rfl, hx1, la, ra1, ra2, ra3, ra4⟩; have E1 : Below W.heap.size W x1 := (by first | exact (Below.refl _ _).drew.trans hx1 | exact ((Below.refl _ _).drew.alloc (Nat.le_refl _) _).trans (hx1.mono (by simp))); obtain ⟨hc1, hf1⟩ := bcell2 hx1; have u10 := (E1.cell (World.block_lt_of_cell? _ _ p0)).trans p0; have u11 := (E1.cell (World.block_lt_of_cell? _ _ p1)).trans p1; have u12 := (E1.cell (World.block_lt_of_cell? _ _ p2)).trans p2; have u13 := (E1.cell (World.block_lt_of_cell? _ _ p3)).trans p3; have n10 := World.new_ne x1 _ u10; have n11 := World.new_ne x1 _ u11; have n12 := World.new_ne x1 _ u12; have n13 := World.new_ne x1 _ u13; have na : IsNum 0 x1 (decide (a < 0)) va a 64 := ⟨rfl, la, ra1.mono (Nat.zero_le _), ra2, ra3, ra4⟩; clear ra1 ra2 ra3 ra4; obtain ⟨ava, mva, cva, rfl⟩ : ∃ a n c, va = Value.slice a n c := (by obtain ⟨_, l, ⟨a, c, e, _⟩, _⟩ := na; exact ⟨a, _, c, e⟩); have z1 := hx1.size; (try simp at z1))
      | (go_at_call_of 10 (Value.int IntKind.i64 b); refine (of_any b _ b1 b2).mono ?_; rintro e x2 ⟨vb, rfl, hx2, lb, rb1, rb2, rb3, rb4⟩; have E2 : Below x1.heap.size x1 x2 := (by first | exact hx2 | exact ((Below.refl _ _).alloc (Nat.le_refl _) _).trans (hx2.mono (by simp))); obtain ⟨hc2, hf2⟩ := bcell2 hx2; have u20 := (E2.cell (World.block_lt_of_cell? _ _ u10)).trans u10; have u21 := (E2.cell (World.block_lt_of_cell? _ _ u11)).trans u11; have u22 := (E2.cell (World.block_lt_of_cell? _ _ u12)).trans u12; have u23 := (E2.cell (World.block_lt_of_cell? _ _ u13)).trans u13; have n20 := World.new_ne x2 _ u20; have n21 := World.new_ne x2 _ u21; have n22 := World.new_ne x2 _ u22; have n23 := World.new_ne x2 _ u23; have nb : IsNum 0 x2 (decide (b < 0)) vb b 64 := ⟨rfl, lb, rb1.mono (Nat.zero_le _), rb2, rb3, rb4⟩; clear rb1 rb2 rb3 rb4; obtain ⟨avb, mvb, cvb, rfl⟩ : ∃ a n c, vb = Value.slice a n c := (by obtain ⟨_, l, ⟨a, c, e, _⟩, _⟩ := nb; exact ⟨a, _, c, e⟩); have na2 := na.below E2; have z2 := hx2.size; (try simp at z2); (try have y1 : W.heap.size < x1.heap.size := by omega))
      | (go_at_call 19; refine (mulR_any _ _ _ _ a b 64 64 _ (na2.below ?_) (nb.below ?_) (by decide) (by decide)).mono ?_; (first | exact Below.refl _ _ | exact (Below.refl _ _).alloc (Nat.le_refl _) _); (first | exact Below.refl _ _ | exact (Below.refl _ _).alloc (Nat.le_refl _) _); rintro e x3 ⟨r3, v3, rfl, hx3, n3⟩; have E3 : Below x2.heap.size x2 x3 := (by first | exact hx3 | exact ((Below.refl _ _).alloc (Nat.le_refl _) _).trans (hx3.mono (by simp))); obtain ⟨hc3, hf3⟩ := bcell2 hx3; have u30 := (E3.cell (World.block_lt_of_cell? _ _ u20)).trans u20; have u31 := (E3.cell (World.block_lt_of_cell? _ _ u21)).trans u21; have u32 := (E3.cell (World.block_lt_of_cell? _ _ u22)).trans u22; have u33 := (E3.cell (World.block_lt_of_cell? _ _ u23)).trans u23; have n30 := World.new_ne x3 _ u30; have n31 := World.new_ne x3 _ u31; have n32 := World.new_ne x3 _ u32; have n33 := World.new_ne x3 _ u33; obtain ⟨av3, mv3, cv3, rfl⟩ : ∃ a n c, v3 = Value.slice a n c := (by obtain ⟨_, l, ⟨a, c, e, _⟩, _⟩ := n3; exact ⟨a, _, c, e⟩); have z3 := hx3.size; (try simp at z3); (try have y2 : W.heap.size < x2.heap.size := by omega); (try have y3 : x1.heap.size < x2.heap.size := by omega)))
    · have E13 : Below W.heap.size W x3 := (E1.trans (E2.mono E1.size)).trans (E3.mono (Nat.le_trans E1.size E2.size))
      clear hc1 hf1 hc2 hf2 hc3 hf3
      go_wp2_with fail
      go_meet
      case rel => exact ⟨x3.heap.size, r3, _, rfl, by go_simp, by go_simp, (n3.below ((Below.refl _ _).alloc (Nat.le_refl _) _)).low, E13.alloc E13.size _⟩
    · have E13 : Below W.heap.size W x3 := (E1.trans (E2.mono E1.size)).trans (E3.mono (Nat.le_trans E1.size E2.size))
      have v0 := hc3 x2.heap.size 0 (by simp)
      have v1 := hc3 x2.heap.size 1 (by simp)
      simp at v0 v1
      clear hc1 hf1 hc2 hf2 hc3 hf3
      go_wp2_with fail
      go_meet
      case rel => exact ⟨x2.heap.size, r3, _, rfl, by simp [v0, go_sem], by simp [v1, go_sem], ((n3.setCell (by simp; try omega) _).setCell (by simp; try omega) _).low, (E13.setCell (Nat.le_trans E1.size E2.size) _).setCell (Nat.le_trans E1.size E2.size) _⟩
    · have E13 : Below W.heap.size W x3 := (E1.trans (E2.mono E1.size)).trans (E3.mono (Nat.le_trans E1.size E2.size))
      have v0 := (hc3 x1.heap.size 0 y3).trans (hc2 x1.heap.size 0 (by simp))
      have v1 := (hc3 x1.heap.size 1 y3).trans (hc2 x1.heap.size 1 (by simp))
      simp at v0 v1
      clear hc1 hf1 hc2 hf2 hc3 hf3
      go_wp2_with fail
      go_meet
      case rel => exact ⟨x1.heap.size, r3, _, rfl, by simp [v0, go_sem], by simp [v1, go_sem], ((n3.setCell (by simp; try omega) _).setCell (by simp; try omega) _).low, (E13.setCell E1.size _).setCell E1.size _⟩
    · have E13 : Below W.heap.size W x3 := (E1.trans (E2.mono E1.size)).trans (E3.mono (Nat.le_trans E1.size E2.size))
      have v0 := (hc3 W.heap.size 0 y2).trans ((hc2 W.heap.size 0 y1).trans (hc1 W.heap.size 0 (by simp)))
      have v1 := (hc3 W.heap.size 1 y2).trans ((hc2 W.heap.size 1 y1).trans (hc1 W.heap.size 1 (by simp)))
      simp at v0 v1
      clear hc1 hf1 hc2 hf2 hc3 hf3
      go_wp2_with fail
      go_meet
      case rel => exact ⟨W.heap.size, r3, _, rfl, by simp [v0, go_sem], by simp [v1, go_sem], ((n3.setCell (by simp; try omega) _).setCell (by simp; try omega) _).low, (E13.setCell (Nat.le_refl _) _).setCell (Nat.le_refl _) _⟩
  case rest =>
    obtain ⟨g, r, v, rfl, g0, g1, nab, C1⟩ := hcut
    obtain ⟨av, mv, cv, rfl⟩ : ∃ a n c, v = Value.slice a n c := by
      obtain ⟨_, l, ⟨a, c, e, _⟩, _⟩ := nab
      exact ⟨a, _, c, e⟩
    have q0 := (C1.cell (World.block_lt_of_cell? _ _ p0)).trans p0
    have q1 := (C1.cell (World.block_lt_of_cell? _ _ p1)).trans p1
    have q2 := (C1.cell (World.block_lt_of_cell? _ _ p2)).trans p2
    have q3 := (C1.cell (World.block_lt_of_cell? _ _ p3)).trans p3
    have B2 : Below w.heap.size w wc := B1.trans (C1.mono B1.size)
    clear p0 p1 p2 p3 C1 B1
    obtain ⟨V, hV⟩ : ∃ V, V = wc := ⟨_, rfl⟩
    subst hV
    go_upto_region 4 with fail
    go_cut [4] from 7 to 33 (fun p wx => ∃ g r v, p = .pointer (some ⟨g, 0, none⟩) ∧ wx.cell? ⟨g, 0, none⟩ = some (.bool r) ∧ wx.cell? ⟨g, 1, none⟩ = some v ∧ IsNum 0 wx r v (c * d) 128 ∧ Below V.heap.size V wx)
    case first =>
      have e0 := World.new_ne V _ q0
      have e1 := World.new_ne V _ q1
      have e2 := World.new_ne V _ q2
      have e3 := World.new_ne V _ q3
      go_region_held3 (fun w' => w'.cell? ⟨w.heap.size, 0, none⟩ = some (.int .i64 a) ∧ w'.cell? ⟨w.heap.size, 1, none⟩ = some (.int .i64 b) ∧ w'.cell? ⟨w.heap.size, 2, none⟩ = some (.int .i64 c) ∧ w'.cell? ⟨w.heap.size, 3, none⟩ = some (.int .i64 d)) (go_keep) (first
        | (go_at_call_of 10 (Value.int IntKind.i64 c); refine (of_any c _ c1 c2).mono ?_; rintro e t1 ⟨va, rfl, hx1, la, ra1, ra2, ra3, ra4⟩; have E1 : Below V.heap.size V t1 := (by first | exact (Below.refl _ _).drew.trans hx1 | exact ((Below.refl _ _).drew.alloc (Nat.le_refl _) _).trans (hx1.mono (by simp))); obtain ⟨hc1, hf1⟩ := bcell2 hx1; have u10 := (E1.cell (World.block_lt_of_cell? _ _ q0)).trans q0; have u11 := (E1.cell (World.block_lt_of_cell? _ _ q1)).trans q1; have u12 := (E1.cell (World.block_lt_of_cell? _ _ q2)).trans q2; have u13 := (E1.cell (World.block_lt_of_cell? _ _ q3)).trans q3; have n10 := World.new_ne t1 _ u10; have n11 := World.new_ne t1 _ u11; have n12 := World.new_ne t1 _ u12; have n13 := World.new_ne t1 _ u13; have na : IsNum 0 t1 (decide (c < 0)) va c 64 := ⟨rfl, la, ra1.mono (Nat.zero_le _), ra2, ra3, ra4⟩; clear ra1 ra2 ra3 ra4; obtain ⟨ava, mva, cva, rfl⟩ : ∃ a n c, va = Value.slice a n c := (by obtain ⟨_, l, ⟨a, c, e, _⟩, _⟩ := na; exact ⟨a, _, c, e⟩); have z1 := hx1.size; (try simp at z1))
        | (go_at_call_of 10 (Value.int IntKind.i64 d); refine (of_any d _ d1 d2).mono ?_; rintro e t2 ⟨vb, rfl, hx2, lb, rb1, rb2, rb3, rb4⟩; have E2 : Below t1.heap.size t1 t2 := (by first | exact hx2 | exact ((Below.refl _ _).alloc (Nat.le_refl _) _).trans (hx2.mono (by simp))); obtain ⟨hc2, hf2⟩ := bcell2 hx2; have u20 := (E2.cell (World.block_lt_of_cell? _ _ u10)).trans u10; have u21 := (E2.cell (World.block_lt_of_cell? _ _ u11)).trans u11; have u22 := (E2.cell (World.block_lt_of_cell? _ _ u12)).trans u12; have u23 := (E2.cell (World.block_lt_of_cell? _ _ u13)).trans u13; have n20 := World.new_ne t2 _ u20; have n21 := World.new_ne t2 _ u21; have n22 := World.new_ne t2 _ u22; have n23 := World.new_ne t2 _ u23; have nb : IsNum 0 t2 (decide (d < 0)) vb d 64 := ⟨rfl, lb, rb1.mono (Nat.zero_le _), rb2, rb3, rb4⟩; clear rb1 rb2 rb3 rb4; obtain ⟨avb, mvb, cvb, rfl⟩ : ∃ a n c, vb = Value.slice a n c := (by obtain ⟨_, l, ⟨a, c, e, _⟩, _⟩ := nb; exact ⟨a, _, c, e⟩); have na2 := na.below E2; have z2 := hx2.size; (try simp at z2); (try have y1 : V.heap.size < t1.heap.size := by omega))
        | (go_at_call 19; refine (mulR_any _ _ _ _ c d 64 64 _ (na2.below ?_) (nb.below ?_) (by decide) (by decide)).mono ?_; (first | exact Below.refl _ _ | exact (Below.refl _ _).alloc (Nat.le_refl _) _); (first | exact Below.refl _ _ | exact (Below.refl _ _).alloc (Nat.le_refl _) _); rintro e t3 ⟨r3, v3, rfl, hx3, n3⟩; have E3 : Below t2.heap.size t2 t3 := (by first | exact hx3 | exact ((Below.refl _ _).alloc (Nat.le_refl _) _).trans (hx3.mono (by simp))); obtain ⟨hc3, hf3⟩ := bcell2 hx3; have u30 := (E3.cell (World.block_lt_of_cell? _ _ u20)).trans u20; have u31 := (E3.cell (World.block_lt_of_cell? _ _ u21)).trans u21; have u32 := (E3.cell (World.block_lt_of_cell? _ _ u22)).trans u22; have u33 := (E3.cell (World.block_lt_of_cell? _ _ u23)).trans u23; have n30 := World.new_ne t3 _ u30; have n31 := World.new_ne t3 _ u31; have n32 := World.new_ne t3 _ u32; have n33 := World.new_ne t3 _ u33; obtain ⟨av3, mv3, cv3, rfl⟩ : ∃ a n c, v3 = Value.slice a n c := (by obtain ⟨_, l, ⟨a, c, e, _⟩, _⟩ := n3; exact ⟨a, _, c, e⟩); have z3 := hx3.size; (try simp at z3); (try have y2 : V.heap.size < t2.heap.size := by omega); (try have y3 : t1.heap.size < t2.heap.size := by omega)))
      · have E13 : Below V.heap.size V t3 := (E1.trans (E2.mono E1.size)).trans (E3.mono (Nat.le_trans E1.size E2.size))
        clear hc1 hf1 hc2 hf2 hc3 hf3
        go_wp2_with fail
        go_meet
        case rel => exact ⟨t3.heap.size, r3, _, rfl, by go_simp, by go_simp, (n3.below ((Below.refl _ _).alloc (Nat.le_refl _) _)).low, E13.alloc E13.size _⟩
      · have E13 : Below V.heap.size V t3 := (E1.trans (E2.mono E1.size)).trans (E3.mono (Nat.le_trans E1.size E2.size))
        have v0 := hc3 t2.heap.size 0 (by simp)
        have v1 := hc3 t2.heap.size 1 (by simp)
        simp at v0 v1
        clear hc1 hf1 hc2 hf2 hc3 hf3
        go_wp2_with fail
        go_meet
        case rel => exact ⟨t2.heap.size, r3, _, rfl, by simp [v0, go_sem], by simp [v1, go_sem], ((n3.setCell (by simp; try omega) _).setCell (by simp; try omega) _).low, (E13.setCell (Nat.le_trans E1.size E2.size) _).setCell (Nat.le_trans E1.size E2.size) _⟩
      · have E13 : Below V.heap.size V t3 := (E1.trans (E2.mono E1.size)).trans (E3.mono (Nat.le_trans E1.size E2.size))
        have v0 := (hc3 t1.heap.size 0 y3).trans (hc2 t1.heap.size 0 (by simp))
        have v1 := (hc3 t1.heap.size 1 y3).trans (hc2 t1.heap.size 1 (by simp))
        simp at v0 v1
        clear hc1 hf1 hc2 hf2 hc3 hf3
        go_wp2_with fail
        go_meet
        case rel => exact ⟨t1.heap.size, r3, _, rfl, by simp [v0, go_sem], by simp [v1, go_sem], ((n3.setCell (by simp; try omega) _).setCell (by simp; try omega) _).low, (E13.setCell E1.size _).setCell E1.size _⟩
      · have E13 : Below V.heap.size V t3 := (E1.trans (E2.mono E1.size)).trans (E3.mono (Nat.le_trans E1.size E2.size))
        have v0 := (hc3 V.heap.size 0 y2).trans ((hc2 V.heap.size 0 y1).trans (hc1 V.heap.size 0 (by simp)))
        have v1 := (hc3 V.heap.size 1 y2).trans ((hc2 V.heap.size 1 y1).trans (hc1 V.heap.size 1 (by simp)))
        simp at v0 v1
        clear hc1 hf1 hc2 hf2 hc3 hf3
        go_wp2_with fail
        go_meet
        case rel => exact ⟨V.heap.size, r3, _, rfl, by simp [v0, go_sem], by simp [v1, go_sem], ((n3.setCell (by simp; try omega) _).setCell (by simp; try omega) _).low, (E13.setCell (Nat.le_refl _) _).setCell (Nat.le_refl _) _⟩
    case rest =>
      obtain ⟨h, r', v', rfl, h0, h1, ncd, C2⟩ := hcut
      obtain ⟨av', mv', cv', rfl⟩ : ∃ a n c, v' = Value.slice a n c := by
        obtain ⟨_, l, ⟨a, c, e, _⟩, _⟩ := ncd
        exact ⟨a, _, c, e⟩
      have s0 := (C2.cell (World.block_lt_of_cell? _ _ q0)).trans q0
      have s1 := (C2.cell (World.block_lt_of_cell? _ _ q1)).trans q1
      have s2 := (C2.cell (World.block_lt_of_cell? _ _ q2)).trans q2
      have s3 := (C2.cell (World.block_lt_of_cell? _ _ q3)).trans q3
      have k0 := (C2.cell (World.block_lt_of_cell? _ _ g0)).trans g0
      have k1 := (C2.cell (World.block_lt_of_cell? _ _ g1)).trans g1
      have nab2 := nab.below C2
      have B3 : Below w.heap.size w wc := B2.trans (C2.mono B2.size)
      clear q0 q1 q2 q3 g0 g1 nab C2 B2
      go_wp2_with fail
      go_region_held3 (fun w' => w'.cell? ⟨w.heap.size, 0, none⟩ = some (.int .i64 a) ∧ w'.cell? ⟨w.heap.size, 1, none⟩ = some (.int .i64 b) ∧ w'.cell? ⟨w.heap.size, 2, none⟩ = some (.int .i64 c) ∧ w'.cell? ⟨w.heap.size, 3, none⟩ = some (.int .i64 d) ∧ w'.cell? ⟨g, 0, none⟩ = some (.bool r) ∧ w'.cell? ⟨g, 1, none⟩ = some (.slice av mv cv) ∧ w'.cell? ⟨h, 0, none⟩ = some (.bool r') ∧ w'.cell? ⟨h, 1, none⟩ = some (.slice av' mv' cv')) (go_keep) (first
        | (go_at_call 24; refine (less_any a b c d _ a1 a2 b1 b2 c1 c2 d1 d2).mono ?_; rintro e w5 ⟨rfl, hb5⟩; have D5 := (Below.refl wc.heap.size wc).drew.trans hb5; have j0 := (D5.cell (World.block_lt_of_cell? _ _ s0)).trans s0; have j1 := (D5.cell (World.block_lt_of_cell? _ _ s1)).trans s1; have j2 := (D5.cell (World.block_lt_of_cell? _ _ s2)).trans s2; have j3 := (D5.cell (World.block_lt_of_cell? _ _ s3)).trans s3; have j4 := (D5.cell (World.block_lt_of_cell? _ _ k0)).trans k0; have j5 := (D5.cell (World.block_lt_of_cell? _ _ k1)).trans k1; have j6 := (D5.cell (World.block_lt_of_cell? _ _ h0)).trans h0; have j7 := (D5.cell (World.block_lt_of_cell? _ _ h1)).trans h1)
        | (go_at_call 25; refine (belowR_any r r' _ _ (a * b) (c * d) 128 128 _ (nab2.below D5) (ncd.below D5) (by decide) (by decide)).mono ?_; rintro e w6 ⟨rfl, hb6⟩; have D6 := D5.trans (hb6.mono D5.size); have i0 := (D6.cell (World.block_lt_of_cell? _ _ s0)).trans s0; have i1 := (D6.cell (World.block_lt_of_cell? _ _ s1)).trans s1; have i2 := (D6.cell (World.block_lt_of_cell? _ _ s2)).trans s2; have i3 := (D6.cell (World.block_lt_of_cell? _ _ s3)).trans s3; have i4 := (D6.cell (World.block_lt_of_cell? _ _ k0)).trans k0; have i5 := (D6.cell (World.block_lt_of_cell? _ _ k1)).trans k1; have i6 := (D6.cell (World.block_lt_of_cell? _ _ h0)).trans h0; have i7 := (D6.cell (World.block_lt_of_cell? _ _ h1)).trans h1))
      clear nab2 ncd
      go_wp2_with fail
      go_ret
      exact ⟨by simp, B3.trans (D6.mono B3.size)⟩

theorem checkedLess_own : ownKnob Try.prog.godebug = none := by kernel_rfl
set_option maxRecDepth 100000 in
theorem checkedLess_lifted (os : Os) (started : os.Started) (H : Type) (enc : TypeId × Value → H) :
    ReturnsInHanded {} Try.checked os 7 .any (Rows.checkedLessSpec.pre6 enc Try.prog Try.f7 Rows.checkedLessRow.domain false) (Rows.checkedLessSpec.post enc Try.prog Try.f7 false true false false) := by
  refine returnsInHanded_of_change (C := Try.checked) checkedLess_own started (by kernel_rfl) Try.func7
    (ChangeSpec.witness6 (enc := enc) (C := Try.checked) false ⟨#[], #[.agg #[.int .i64 0, .int .i64 0, .int .i64 0, .int .i64 0]], []⟩ 8 (by kernel_rfl) (by kernel_rfl) (by kernel_rfl) (by kernel_rfl)) ?_
  intro W base args ds gs before hval0 hW hcnd _
  have hval : ∀ (j : Nat) t v, Try.f7.params[j]? = some t → args[j]? = some v → Value.okWide Try.prog W .any base t v := hval0
  have hW' := hW
  obtain ⟨p, q, hA0, hV, rfl, hfz, hnd⟩ := hW
  have hA : DataW.TrodAll enc Try.prog W 0 (fun _ => true) true Try.f7.params.toList args.toList ds p := hA0
  rw [Try.params7] at hA hval
  obtain ⟨v0, vs0, d0, ds0, p0, q0, hargs, rfl, rfl, h0, r0⟩ := trodAll_cons hA
  obtain ⟨rfl, rfl, rfl⟩ := trodAll_nil r0
  obtain rfl : args = #[v0] := by cases args; simp_all
  obtain ⟨rfl, rfl⟩ := trodVars_none hV
  obtain ⟨x0, x1, x2, x3, y0, y1, y2, y3, m, rfl, rfl, rfl, hy0, hy1, hy2, hy3⟩ := Joins.open_agg4 Try.underlying44 (by kernel_rfl) (by kernel_rfl) (hval 0 44 v0 rfl rfl) h0
  obtain ⟨a, ea, rfl, wa⟩ := DataW.trod_int Try.underlying3 hy0
  obtain ⟨b, eb, rfl, wb⟩ := DataW.trod_int Try.underlying3 hy1
  obtain ⟨c, ec, rfl, wc⟩ := DataW.trod_int Try.underlying3 hy2
  obtain ⟨d, ed, rfl, wd⟩ := DataW.trod_int Try.underlying3 hy3
  simp only [List.cons.injEq, and_true] at ea eb ec ed
  subst ea eb ec ed
  clear hA0 hval0
  simp only [List.append_nil] at hW'
  have ba := bounds_i64 wa
  have bb := bounds_i64 wb
  have bc := bounds_i64 wc
  have bd := bounds_i64 wd
  refine (checkedLess_walk a b c d ba.1 ba.2 bb.1 bb.2 bc.1 bc.2 bd.1 bd.2 W).mono fun e W' ⟨he, bel⟩ => ?_
  subst he
  exact ⟨_, rfl, _, _, _, [], [], [], hW', trodAll_mk1 (shut_bool Try.underlying4 _), (trodAll_cons_mk (Joins.shut_agg4 (y0 := (.lit (.int .i64 a), [])) (y1 := (.lit (.int .i64 b), [])) (y2 := (.lit (.int .i64 c), [])) (y3 := (.lit (.int .i64 d), [])) Try.underlying44 (by kernel_rfl) (by kernel_rfl) ⟨1, by simp [DataW.trod, Try.underlying3, wa]⟩ ⟨1, by simp [DataW.trod, Try.underlying3, wb]⟩ ⟨1, by simp [DataW.trod, Try.underlying3, wc]⟩ ⟨1, by simp [DataW.trod, Try.underlying3, wd]⟩) trodAll_mk0), rfl, bel.frame _, fun h => by cases h⟩

/-- THE STATEMENT. -/
theorem checkedLess_proved : Rows.CheckedLessSaid :=
  OpenClaim.holds_of_wide 7 Try.f7 rfl rfl rfl rfl rfl rfl rfl ⟨rfl, rfl, rfl, rfl, rfl⟩ rfl rfl rfl rfl rfl (by kernel_rfl) Try.func7 (by kernel_rfl)
    (of_decide_eq_true (by kernel_rfl)) (by unfold Func.isWrapper; first | (rw [if_pos (by decide +kernel)]; kernel_rfl) | (rw [if_neg (by decide +kernel)]; exact ⟨rfl, rfl⟩))
    (fun os started H enc _ => checkedLess_lifted os started H enc)
#print axioms checkedLess_proved
end Go.Proofs.Ytjcbjhnnmkmjkaa
