/-
  The contract of the reference's Number.
-/
import Derived.Deep.RegionWith
import Derived.BigQuiet
import Derived.Test.YtdbkoflejimibaaGreatDoorGC
import Derived.Test.YtdbkoflejimibaaGreatDoorGN
namespace Go.Proofs.YtdbkoflejimibaaGreatDoor
open Go.ChangeShapes Go.WideShapes Go.ChangeAt Go.RowKit Go.Lib

/-- A sign and a slice lie at block B. -/
def At2 (B : Nat) (r : Bool) (v : Value) (w : World) : Prop := w.cell? ⟨B, 0, none⟩ = some (.bool r) ∧ w.cell? ⟨B, 1, none⟩ = some v ∧ w.frozen? ⟨B, 0, none⟩ = false ∧ w.frozen? ⟨B, 1, none⟩ = false
theorem At2.still {B : Nat} {r : Bool} {v : Value} {w w' : World} (h : At2 B r v w) (k : Below w.heap.size w w') : At2 B r v w' := by
  have lt := World.block_lt_of_cell? _ _ h.1
  exact ⟨(k.cell lt).trans h.1, (k.cell (p := ⟨B, 1, none⟩) lt).trans h.2.1, (k.frozen lt).trans h.2.2.1, (k.frozen (p := ⟨B, 1, none⟩) lt).trans h.2.2.2⟩
theorem set2 {B : Nat} {r : Bool} {v : Value} {w : World} (h : At2 B r v w) (r' : Bool) (v' : Value) : At2 B r' v' ((w.setCell ⟨B, 0, none⟩ (.bool r')).setCell ⟨B, 1, none⟩ v') := by
  refine ⟨?_, ?_, ?_, ?_⟩
  · rw [World.cell?_setCell_other]
    · exact World.cell?_setCell_same _ _ _ h.1
    · simp
  · refine World.cell?_setCell_same _ _ _ (show (w.setCell ⟨B, 0, none⟩ (.bool r')).cell? ⟨B, 1, none⟩ = some v from ?_)
    rw [World.cell?_setCell_other]
    · exact h.2.1
    · simp
  · rw [World.frozen?_setCell, World.frozen?_setCell]
    exact h.2.2.1
  · rw [World.frozen?_setCell, World.frozen?_setCell]
    exact h.2.2.2
theorem IsNum.setCell {B : Nat} {w : World} {s : Bool} {sl : Value} {z : Int} {n : Nat} (h : IsNum B w s sl z n) {p : Addr} (hp : p.block < B) (u : Value) : IsNum B (w.setCell p u) s sl z n := by
  obtain ⟨h0, l, h1, h2⟩ := h
  exact ⟨h0, l, h1.setCell hp u, h2⟩
theorem num_shape {B : Nat} {w : World} {s : Bool} {v : Value} {z : Int} {n : Nat} (h : IsNum B w s v z n) : ∃ a m c, v = Value.slice a m c := by
  obtain ⟨_, l, ⟨a, c, e, _⟩, _⟩ := h
  exact ⟨a, _, c, e⟩
theorem num_low {B : Nat} {w : World} {s : Bool} {v : Value} {z : Int} {n : Nat} (h : IsNum B w s v z n) : IsNum 0 w s v z n := by
  obtain ⟨h0, l, h1, h2⟩ := h
  exact ⟨h0, l, h1.mono (Nat.zero_le _), h2⟩
theorem num_nought11 (w : World) : IsNum 0 w false (.slice none 0 0) 0 0 := ⟨by simp, [], reads_nil 0 w, canon_nil, by simp [val], by simp⟩
theorem ofN_any (z : Int) (w : World) (a1 : -9223372036854775808 ≤ z) (a2 : z ≤ 9223372036854775807) :
    Calls Tryz.prog 62 #[.int .i64 z] w fun e w' => ∃ r v, e = .returned (.agg #[.bool r, v]) ∧ Below w.heap.size w w' ∧ IsNum 0 w' r v z 64 := by
  refine (of_any z w a1 a2).mono ?_
  rintro e w' ⟨v, rfl, hb, l, h1, h2, h3, h4⟩
  exact ⟨_, v, rfl, hb, rfl, l, h1.mono (Nat.zero_le _), h2, h3, h4⟩
theorem below_drew1 {n : Nat} {w w1 : World} (h : Below n w.drew w1) : Below n w w1 := ⟨h.os, h.tape, h.output, h.size, h.block⟩
/-- What all digits say, where it has room. -/
def toldN (o : Option Nat) : Int := match o with
  | some v => if v ≤ 9223372036854775807 then (v : Int) else -1
  | none => -1
theorem toldN_some (v : Nat) : toldN (some v) = if v ≤ 9223372036854775807 then (v : Int) else -1 := rfl
theorem toldN_none : toldN none = -1 := rfl
set_option maxRecDepth 1000000 in
set_option maxHeartbeats 8000000 in
theorem refNum_good (s : ByteArray) (w : World) (h0 : 0 < s.size) (h19 : s.size ≤ 19) (hh : ¬ ((s[0]'h0).toNat = 48 ∧ 1 < s.size)) :
    Calls Tryz.prog 34 #[.string s] w fun e w' => e = .returned (.int .i64 (toldN (valA s.data.toList 0))) ∧ Below w.heap.size w w' := by
  obtain ⟨R, hR⟩ : ∃ R, valA s.data.toList 0 = R := ⟨_, rfl⟩
  rw [hR]
  obtain ⟨Z, hZ⟩ : ∃ Z : Int, toldN R = Z := ⟨_, rfl⟩
  rw [hZ]
  have HZ : Hid (toldN R = Z) := hZ
  clear hZ
  obtain ⟨c0, hc0⟩ : ∃ c, (s[0]'h0).toNat = c := ⟨_, rfl⟩
  have z0 : (0 : Int) < (s.size : Int) := by omega
  have z1 : ¬ (s.size : Int) < 1 := by omega
  have z2 : ¬ (19 : Int) < (s.size : Int) := by omega
  rw [hc0] at hh
  have z3 : (decide ((1 : Int) < (s.size : Int)) && ((c0 : Int) == 48)) = false := by
    by_cases g : c0 = 48
    · have : ¬ 1 < s.size := fun k => hh ⟨g, k⟩
      rw [decide_eq_false (by omega), Bool.false_and]
    · rw [beq_false_of_ne (show (c0 : Int) ≠ 48 by omega), Bool.and_false]
  clear hh
  have F0 : At2 w.heap.size false (.slice none 0 0) (w.alloc (.cells #[.bool false, .slice none 0 0] 118)) := ⟨by simp, by simp, by simp, by simp⟩
  have HF0 : Hid (At2 w.heap.size false (.slice none 0 0) (w.alloc (.cells #[.bool false, .slice none 0 0] 118))) := F0
  clear F0
  have H : Calls Tryz.prog 34 #[.string s] w fun e w' => e = .returned (.int .i64 Z) ∧ Below w.heap.size w w' := by
    go_enter Tryz.func34, Tryz.ntmps34
    go_upto_region 1 with fail
    go_cut [24] from 7 to 24 (fun c wx => c = .bool false ∧ wx = w)
    case first =>
      clear HF0 HZ hR
      by_cases g : (1 : Int) < (s.size : Int)
      · have q0 : ((c0 : Int) == 48) = false := by
          rw [decide_eq_true g, Bool.true_and] at z3
          exact z3
        clear z3
        go_wp2_with fail
        go_meet
        case rel => exact ⟨rfl, rfl⟩
      · clear z3
        go_wp2_with fail
        go_meet
        case rel => exact ⟨rfl, rfl⟩
    case rest =>
      obtain ⟨rfl, rfl⟩ := hcut
      clear z3 z1 z2 z0 hc0
      go_wp2_with fail
      go_loopw [4] (fun i wr => ∃ (k num : Nat) (r : Bool) (v : Value), i = .int .i64 (k : Int) ∧ k ≤ s.size ∧ valA (s.data.toList.drop k) num = R ∧ At2 wc.heap.size r v wr ∧ IsNum 0 wr r v (num : Int) (65 * k) ∧ Below wc.heap.size wc wr) (fun i _ => s.size - (RowKit.intOf i).toNat)
      case atStart => exact ⟨0, 0, false, _, rfl, Nat.zero_le _, by simpa using hR, HF0.out, num_nought11 _, (Below.refl _ _).alloc (Nat.le_refl _) _⟩
      case round =>
        clear hR HF0
        obtain ⟨k, num, r, v, rfl, hk, hg, hA, hN, hB⟩ := hrel
        obtain ⟨av, mv, cv, rfl⟩ := num_shape hN
        obtain ⟨u0, u1, g0, g1⟩ := id hA
        by_cases hp : k < s.size
        · have t0 : (k : Int) < (s.size : Int) := by omega
          rw [drop_byte s hp, valA] at hg
          obtain ⟨c, hc⟩ : ∃ c, (s[k]'hp).toNat = c := ⟨_, rfl⟩
          have hc8 : c < 256 := by rw [← hc]; exact UInt8.toNat_lt _
          rw [hc] at hg
          by_cases c1 : (c : Int) < 48
          · have HG : Hid (-1 = Z) := by
              rw [if_pos (by omega)] at hg
              have := HZ.out
              rw [← hg, toldN_none] at this
              exact this
            have HB : Hid (Below wc.heap.size wc wr) := hB
            clear hg hB hA hN
            go_wp2_with fail
            go_ret
            exact ⟨by rw [← HG.out]; rfl, HB.out⟩
          by_cases c2 : (57 : Int) < (c : Int)
          · have HG : Hid (-1 = Z) := by
              rw [if_pos (by omega)] at hg
              have := HZ.out
              rw [← hg, toldN_none] at this
              exact this
            have HB : Hid (Below wc.heap.size wc wr) := hB
            clear hg hB hA hN
            go_wp2_with fail
            go_ret
            exact ⟨by rw [← HG.out]; rfl, HB.out⟩
          rw [if_neg (by omega)] at hg
          obtain ⟨d, hd⟩ : ∃ d, c - 48 = d := ⟨_, rfl⟩
          rw [hd] at hg
          obtain rfl : c = d + 48 := by omega
          have d9 : d ≤ 9 := by omega
          have r1 : ((d + 48 : Nat) : Int) - 48 = (d : Int) := by omega
          have HG : Hid (valA (s.data.toList.drop (k + 1)) (10 * num + d) = R) := hg
          have HB : Hid (Below wc.heap.size wc wr) := hB
          have HA : Hid (At2 wc.heap.size r (.slice av mv cv) wr) := hA
          have HN : Hid (IsNum 0 wr r (.slice av mv cv) (num : Int) (65 * k)) := hN
          clear hg hB hA hN hd
          have r2 : IntKind.u8.wrap ((d : Int) + 48 - 48) = (d : Int) := by rw [IntKind.wrap_u8]; omega
          have r3 : IntKind.u8.wrap (d : Int) = (d : Int) := by rw [IntKind.wrap_u8]; omega
          have r4 : IntKind.i64.wrap (d : Int) = (d : Int) := by rw [IntKind.wrap_i64]; omega
          have hk19 : k ≤ 18 := by omega
          clear HZ
          go_wp2_with fail
          go_region_with (first
            | (go_at_call_of 62 (Value.int IntKind.i64 10); refine (ofN_any 10 _ (by omega) (by omega)).mono ?_; rintro e x1 ⟨ra, va, rfl, hx1, na⟩; have hx1' := below_drew1 hx1; have A1 := HA.out.still hx1'; have N1 := HN.out.below hx1'; obtain ⟨a0, a1, a2, a3⟩ := id A1; obtain ⟨ava, mva, cva, rfl⟩ := num_shape na; clear u0 u1 g0 g1)
            | (go_at_call 61; refine (mulR_any _ _ _ _ (num : Int) 10 (65 * k) 64 _ N1 na (by omega) (by omega)).mono ?_; rintro e x2 ⟨rb, vb, rfl, hx2, nb⟩; have A2 := A1.still hx2; obtain ⟨b0, b1, b2, b3⟩ := id A2; obtain ⟨avb, mvb, cvb, rfl⟩ := num_shape nb; clear a0 a1 a2 a3)
            | (go_at_call_of 62 (Value.int IntKind.i64 (d : Int)); refine (ofN_any (d : Int) _ (by omega) (by omega)).mono ?_; rintro e x3 ⟨rc, vc, rfl, hx3, nc⟩; have A3 := A2.still hx3; have N3 := nb.below hx3; obtain ⟨d0, d1, d2, d3⟩ := id A3; obtain ⟨avc, mvc, cvc, rfl⟩ := num_shape nc; clear b0 b1 b2 b3)
            | (go_at_call 60; refine (addR_any _ _ _ _ ((num : Int) * 10) (d : Int) (65 * k + 64) 64 _ N3 nc (by omega) (by omega)).mono ?_; rintro e x4 ⟨re, ve, rfl, hx4, ne⟩; have A4 := A3.still hx4; obtain ⟨e0, e1, e2, e3⟩ := id A4; obtain ⟨ave, mve, cve, rfl⟩ := num_shape ne; clear d0 d1 d2 d3))
          all_goals (
            have HN4 : Hid (IsNum 0 ((x4.setCell ⟨wc.heap.size, 0, none⟩ (.bool re)).setCell ⟨wc.heap.size, 1, none⟩ (.slice ave mve cve)) re (.slice ave mve cve) (((10 * num + d : Nat) : Int)) (65 * (k + 1))) := by
              have e1 : ((10 * num + d : Nat) : Int) = (num : Int) * 10 + (d : Int) := by omega
              rw [e1]
              exact num_low (((ne.wide (m := 65 * (k + 1)) (by omega)).setCell (p := ⟨wc.heap.size, 0, none⟩) (World.block_lt_of_cell? _ _ A3.1) _).setCell (p := ⟨wc.heap.size, 1, none⟩) (World.block_lt_of_cell? _ _ A3.2.1) _)
            have B4 : Below wc.heap.size wc x4 := HB.out.trans (((hx1'.trans (hx2.mono hx1'.size)).trans (hx3.mono (hx1'.trans (hx2.mono hx1'.size)).size)).trans (hx4.mono ((hx1'.trans (hx2.mono hx1'.size)).trans (hx3.mono (hx1'.trans (hx2.mono hx1'.size)).size)).size) |>.mono HB.out.size)
            have HB4 : Hid (Below wc.heap.size wc ((x4.setCell ⟨wc.heap.size, 0, none⟩ (.bool re)).setCell ⟨wc.heap.size, 1, none⟩ (.slice ave mve cve))) := (B4.setCell (Nat.le_refl _) _).setCell (Nat.le_refl _) _
            have HA4 : Hid (At2 wc.heap.size re (.slice ave mve cve) ((x4.setCell ⟨wc.heap.size, 0, none⟩ (.bool re)).setCell ⟨wc.heap.size, 1, none⟩ (.slice ave mve cve))) := set2 A4 re (.slice ave mve cve)
            clear hx1 hx1' hx2 hx3 hx4 na nb nc N1 N3 ne A1 A2 A3 A4 B4 e0 e1 e2 e3
            go_wp2_with fail
            go_roundw
            case rel => exact ⟨k + 1, 10 * num + d, re, _, by simp, by omega, HG.out, HA4.out, HN4.out, HB4.out⟩
            case measure => simp [RowKit.intOf]; omega)
        · obtain rfl : k = s.size := by omega
          have t0 : ¬ (s.size : Int) < (s.size : Int) := by omega
          rw [size_eq, List.drop_length, valA] at hg
          have F := intR_any r (.slice av mv cv) (num : Int) (65 * s.size) wr hN
          have HB : Hid (Below wc.heap.size wc wr) := hB
          have HG : Hid (some num = R) := hg
          clear hg hB hA hN
          by_cases hm : num ≤ 9223372036854775807
          · rw [decide_eq_true (show -9223372036854775808 ≤ (num : Int) ∧ (num : Int) ≤ 9223372036854775807 by omega)] at F
            have HO : Hid (Z = (num : Int)) := by
              have := HZ.out
              rw [← HG.out, toldN_some, if_pos hm] at this
              exact this.symm
            clear HZ HG
            go_wp2_with fail
            refine F.mono ?_
            rintro e w1 ⟨x, rfl, hb1, hx⟩
            have HX : Hid (x = (num : Int)) := hx ⟨by omega, by omega⟩
            clear hx
            go_wp2_with fail
            go_ret
            exact ⟨by rw [HO.out, ← HX.out]; rfl, HB.out.trans (hb1.mono HB.out.size)⟩
          · rw [decide_eq_false (show ¬ (-9223372036854775808 ≤ (num : Int) ∧ (num : Int) ≤ 9223372036854775807) by omega)] at F
            have HO : Hid (Z = -1) := by
              have := HZ.out
              rw [← HG.out, toldN_some, if_neg hm] at this
              exact this.symm
            clear HZ HG
            go_wp2_with fail
            refine F.mono ?_
            rintro e w1 ⟨x, rfl, hb1, hx⟩
            clear hx
            go_wp2_with fail
            go_ret
            exact ⟨by rw [HO.out]; rfl, HB.out.trans (hb1.mono HB.out.size)⟩
  exact H
end Go.Proofs.YtdbkoflejimibaaGreatDoor
/-
  The contract of the reference's Numbers, out of its Number's.
-/
namespace Go.Proofs.YtdbkoflejimibaaGreatDoor
open Go.ChangeShapes Go.WideShapes Go.ChangeAt Go.RowKit Go.Lib

set_option maxHeartbeats 2000000 in
theorem refNum_bad (s : ByteArray) (w : World) (hh : s.size = 0 ∨ 19 < s.size ∨ ∃ h0 : 0 < s.size, (s[0]'h0).toNat = 48 ∧ 1 < s.size) (hs : s.size ≤ maxLen) :
    Calls Tryz.prog 34 #[.string s] w fun e w' => e = .returned (.int .i64 (-1)) ∧ Below w.heap.size w w' := by
  unfold maxLen at hs
  by_cases h19 : 19 < s.size
  · have z1 : ¬ (s.size : Int) < 1 := by omega
    have z2 : (19 : Int) < (s.size : Int) := by omega
    clear hh
    go_enter Tryz.func34, Tryz.ntmps34
    go_wp2_with fail
    go_ret
    exact ⟨rfl, Below.refl _ _⟩
  · by_cases h0 : s.size = 0
    · have z1 : (s.size : Int) < 1 := by omega
      clear hh
      go_enter Tryz.func34, Tryz.ntmps34
      go_wp2_with fail
      go_ret
      exact ⟨rfl, Below.refl _ _⟩
    · obtain ⟨hp, hc, h1⟩ : ∃ h0 : 0 < s.size, (s[0]'h0).toNat = 48 ∧ 1 < s.size := by
        rcases hh with h | h | h
        · exact absurd h h0
        · exact absurd h h19
        · exact h
      have z1 : ¬ (s.size : Int) < 1 := by omega
      have z2 : ¬ (19 : Int) < (s.size : Int) := by omega
      have z3 : (1 : Int) < (s.size : Int) := by omega
      have z4 : (0 : Int) < (s.size : Int) := by omega
      go_enter Tryz.func34, Tryz.ntmps34
      go_wp2_with fail
      go_ret
      exact ⟨rfl, Below.refl _ _⟩
/-- The reference's Number of any text. -/
theorem refNumber_any (s : ByteArray) (w : World) (hs : s.size ≤ maxLen) :
    Calls Tryz.prog 34 #[.string s] w fun e w' => e = .returned (.int .i64 (numZ s.data.toList)) ∧ Below w.heap.size w w' := by
  by_cases hb : s.size = 0 ∨ 19 < s.size ∨ ∃ h0 : 0 < s.size, (s[0]'h0).toNat = 48 ∧ 1 < s.size
  · rw [numZ_bad]
    · exact refNum_bad s w hb hs
    · rw [← size_eq]
      rcases hb with h | h | ⟨h0, h1, h2⟩
      · exact .inl (by omega)
      · exact .inr (.inl h)
      · exact .inr (.inr ⟨h2, by rw [head_byte s h0]; exact UInt8.toNat_inj.1 h1⟩)
  · have h0 : 0 < s.size := by
      rcases Nat.eq_zero_or_pos s.size with h | h
      · exact absurd (.inl h) hb
      · exact h
    have e : numZ s.data.toList = toldN (valA s.data.toList 0) := by
      refine numZ_good ?_
      rw [← size_eq]
      rintro (h | h | ⟨h1, h2⟩)
      · omega
      · exact hb (.inr (.inl h))
      · rw [head_byte s h0] at h2
        exact hb (.inr (.inr ⟨h0, by rw [h2]; rfl, h1⟩))
    rw [e]
    refine refNum_good s w h0 ?_ (fun h => hb (.inr (.inr ⟨h0, h⟩)))
    rcases Nat.lt_or_ge 19 s.size with h | h
    · exact absurd (.inr (.inl h)) hb
    · exact h
end Go.Proofs.YtdbkoflejimibaaGreatDoor
