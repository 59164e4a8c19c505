/-
  The law's told: both books tell the same, and of an account that there is not nothing.
-/
import Derived.Test.YtcjdbfmglckdkaaRkTwo
namespace Go.Proofs.Ytcjdbfmglckdkaa.RK
open Go.ChangeShapes Go.WideShapes Go.ChangeAt Go.RowKit Go.Lib

theorem used_on {w : World} {B p g h : Nat} {b : Bk} (K : BookAt w B p g h b) (a : Nat) (ha : a < b.nA) (X : World) (hX : Below w.heap.size w X) : Calls Try.prog 18 #[.pointer (some ⟨p, 0, none⟩), .int .i64 (a : Int)] X fun e w' => e = .returned (.int .i64 (used b a)) ∧ Below w.heap.size w w' :=
  (used_yes (K.below hX) a ha).mono fun _ _ h => ⟨h.1, hX.trans (h.2.mono hX.size)⟩
theorem left_on {w : World} {B p g h : Nat} {b : Bk} (K : BookAt w B p g h b) (a : Nat) (ha : a < b.nA) (X : World) (hX : Below w.heap.size w X) : Calls Try.prog 20 #[.pointer (some ⟨p, 0, none⟩), .int .i64 (a : Int)] X fun e w' => e = .returned (.int .i64 (b.L a - used b a)) ∧ Below w.heap.size w w' :=
  (left_yes (K.below hX) a ha).mono fun _ _ h => ⟨h.1, hX.trans (h.2.mono hX.size)⟩
theorem real_on {w : World} {B p g h : Nat} {b : Bk} (K : BookAt w B p g h b) (a : Nat) (ha : a < b.nA) (X : World) (hX : Below w.heap.size w X) : Calls Try.prog 19 #[.pointer (some ⟨p, 0, none⟩), .int .i64 (a : Int)] X fun e w' => e = .returned (.int .i64 (b.D a)) ∧ Below w.heap.size w w' :=
  (real_yes (K.below hX) a ha).mono fun _ _ h => ⟨h.1, by rw [h.2]; exact hX⟩
theorem held_on {w : World} {B p g h : Nat} {b : Bk} (K : BookAt w B p g h b) (i : Nat) (hi : i < b.nS) (X : World) (hX : Below w.heap.size w X) : Calls Try.prog 13 #[.pointer (some ⟨p, 0, none⟩), .int .i64 (i : Int)] X fun e w' => e = .returned (.tuple #[.int .i64 (slA (b.S i)), .int .i64 (slN (b.S i)), .bool (b.S i).isSome]) ∧ Below w.heap.size w w' :=
  (held_yes (K.below hX) i hi).mono fun _ _ h => ⟨h.1, hX.trans (h.2.mono hX.size)⟩
theorem rUsed_on {w : World} {B q d r : Nat} {v : Value} {b : Bk} (K : RefAt w B q d r v b) (a : Nat) (ha : a < b.nA) (X : World) (hX : Below w.heap.size w X) : Calls Try.prog 27 #[.pointer (some ⟨q, 0, none⟩), .int .i64 (a : Int)] X fun e w' => e = .returned (.int .i64 (used b a)) ∧ Below w.heap.size w w' :=
  (rUsed_any (K.below hX) a ha).mono fun _ _ h => ⟨h.1, by rw [h.2]; exact hX⟩
/-- Held of a slot, in the world in which the reference's slot was laid by itself. -/
theorem held_box {W wr : World} {B p g h : Nat} {b : Bk} (K : BookAt W B p g h b) (hB : Below W.heap.size W wr) {j : Nat} (hj : j < b.nS) (x y : Int) {S : Option (Nat × Int)} (e : b.S j = S) :
    Calls Try.prog 13 #[.pointer (some ⟨p, 0, none⟩), .int .i64 (j : Int)] (wr.alloc (.cells #[.int .i64 x, .int .i64 y] 56)) fun e w' => e = .returned (.tuple #[.int .i64 (slA S), .int .i64 (slN S), .bool S.isSome]) ∧ Below wr.heap.size wr w' ∧ w'.cell? ⟨wr.heap.size, 0, none⟩ = some (.int .i64 x) ∧ w'.cell? ⟨wr.heap.size, 1, none⟩ = some (.int .i64 y) := by
  have b1 := (Below.refl wr.heap.size wr).alloc (Nat.le_refl _) (.cells #[.int .i64 x, .int .i64 y] 56)
  have Z : wr.heap.size < (wr.alloc (.cells #[.int .i64 x, .int .i64 y] 56)).heap.size := by simp
  have c0 : (wr.alloc (.cells #[.int .i64 x, .int .i64 y] 56)).cell? ⟨wr.heap.size, 0, none⟩ = some (.int .i64 x) := by simp
  have c1 : (wr.alloc (.cells #[.int .i64 x, .int .i64 y] 56)).cell? ⟨wr.heap.size, 1, none⟩ = some (.int .i64 y) := by simp
  rw [← e]
  refine (held_yes ((K.below hB).below b1) j hj).mono fun _ w' h => ⟨h.1, b1.trans (h.2.mono b1.size), ?_, ?_⟩
  · rw [h.2.cell (p := ⟨wr.heap.size, 0, none⟩) Z]; exact c0
  · rw [h.2.cell (p := ⟨wr.heap.size, 1, none⟩) Z]; exact c1
set_option maxRecDepth 100000 in
set_option maxHeartbeats 8000000 in
theorem told_any {w0 w : World} {P g h q d r : Nat} {v : Value} {b : Bk} (T : Two w0 w P g h q d r v b) (k a s n : Int) : Calls Try.prog 12 #[.pointer (some ⟨P, 0, none⟩), .pointer (some ⟨q, 0, none⟩), .agg #[.int .i64 k, .int .i64 a, .int .i64 s, .int .i64 n]] w fun e w' => e = .returned (.bool true) ∧ Below w.heap.size w w' := by
  have b0 := (Below.refl _ w).alloc (Nat.le_refl _) (.cells #[.int .i64 k, .int .i64 a, .int .i64 s, .int .i64 n] 33)
  have T1 := T.still b0
  have Z : w.heap.size < (w.alloc (.cells #[.int .i64 k, .int .i64 a, .int .i64 s, .int .i64 n] 33)).heap.size := by simp
  have ca : (w.alloc (.cells #[.int .i64 k, .int .i64 a, .int .i64 s, .int .i64 n] 33)).cell? ⟨w.heap.size, 1, none⟩ = some (.int .i64 a) := by simp
  have HB0 : Hid (Below w.heap.size w (w.alloc (.cells #[.int .i64 k, .int .i64 a, .int .i64 s, .int .i64 n] 33))) := b0
  have HT : Hid (Two w0 (w.alloc (.cells #[.int .i64 k, .int .i64 a, .int .i64 s, .int .i64 n] 33)) P g h q d r v b ∧ True ∧ w.heap.size < (w.alloc (.cells #[.int .i64 k, .int .i64 a, .int .i64 s, .int .i64 n] 33)).heap.size ∧ (w.alloc (.cells #[.int .i64 k, .int .i64 a, .int .i64 s, .int .i64 n] 33)).cell? ⟨w.heap.size, 1, none⟩ = some (.int .i64 a)) := ⟨T1, trivial, Z, ca⟩
  obtain ⟨lb, lo, lc, rfl, l2, l3, l4, l5⟩ := T1.rf.lim
  unfold maxLen at l3
  have h0 := T1.rf.cL
  have qlt := T1.rf.qt
  have a2 := T1.bk.good.a2
  have s2 := T1.bk.good.s2
  have ql0 : q < w.heap.size := T.rf.qt
  have e0 := T.rf.cL
  obtain ⟨ob, hob⟩ : ∃ ob, ob = w.heap.size := ⟨_, rfl⟩
  clear T1 T b0 ca l5 Z h0 qlt
  go_enter Try.func12, Try.ntmps12
  go_wp2_with fail
  rw [← hob]
  rw [← hob] at HT
  generalize (w.alloc (.cells #[.int .i64 k, .int .i64 a, .int .i64 s, .int .i64 n] 33)) = W at *
  clear hob e0 ql0
  go_loopw [18] (fun c wr => ∃ i : Nat, c = .int .i64 (i : Int) ∧ i ≤ b.nA ∧ Hid (Below W.heap.size W wr)) (fun c _ => b.nA - (RowKit.intOf c).toNat)
  case atStart => exact ⟨0, rfl, Nat.zero_le _, Below.refl _ _⟩
  case round =>
    obtain ⟨i, rfl, hi, hB⟩ := hrel
    by_cases hlt : i < b.nA
    · have t0 : (i : Int) < (b.nA : Int) := by omega
      have TT := HT.out.1.still hB.out
      have U := used_on TT.bk i hlt
      have V := rUsed_on TT.rf i hlt
      have Re := real_on TT.bk i hlt
      have Le := left_on TT.bk i hlt
      have d0 := TT.rf.cL
      have d1 := TT.rf.cD
      have d2 := TT.rf.don i hlt
      obtain ⟨lb', lo', lc', e', _, _, _, l5⟩ := TT.rf.lim
      injection e' with e1 e2 e3
      injection e1 with e1
      injection e1 with e11 e12
      subst e11 e12
      have d3 := l5 i hlt
      have ub := used_bounds TT.bk.good hlt
      have u1 := ub.1
      have u2 := ub.2
      have u3 := TT.bk.good.l1 i hlt
      have y0 := TT.rf.qt
      have y1 := TT.rf.dt
      have y2 : lb < wr.heap.size := World.block_lt_of_cell? _ _ d3
      clear TT l5 e2 e3 ub
      generalize used b i = y at *
      generalize b.L i = x at *
      generalize b.D i = z at *
      have hwr : IntKind.i64.wrap (x - y) = x - y := by rw [IntKind.wrap_i64]; omega
      go_wp2_with fail
      go_region_held3 (fun w' => w'.cell? ⟨q, 0, none⟩ = some (.slice (some ⟨lb, lo, none⟩) b.nA lc) ∧ w'.cell? ⟨q, 1, none⟩ = some (.slice (some ⟨d, 0, none⟩) b.nA b.nA) ∧ w'.cell? ⟨d, i, none⟩ = some (.int .i64 z) ∧ w'.cell? ⟨lb, lo + i, none⟩ = some (.int .i64 x)) (go_keep) (first
        | (go_at_call 18; refine (U _ (by first | assumption | exact below_drewN _ _ _)).mono ?_; rintro e w5 ⟨rfl, hb5⟩; have f0 := (hb5.cell (p := ⟨q, 0, none⟩) y0).trans d0; have f1 := (hb5.cell (p := ⟨q, 1, none⟩) y0).trans d1; have f2 := (hb5.cell (p := ⟨d, i, none⟩) y1).trans d2; have f3 := (hb5.cell (p := ⟨lb, lo + i, none⟩) y2).trans d3)
        | (go_at_call 27; refine (V _ (by first | assumption | exact below_drewN _ _ _)).mono ?_; rintro e w5 ⟨rfl, hb5⟩; have f0 := (hb5.cell (p := ⟨q, 0, none⟩) y0).trans d0; have f1 := (hb5.cell (p := ⟨q, 1, none⟩) y0).trans d1; have f2 := (hb5.cell (p := ⟨d, i, none⟩) y1).trans d2; have f3 := (hb5.cell (p := ⟨lb, lo + i, none⟩) y2).trans d3)
        | (go_at_call 19; refine (Re _ (by first | assumption | exact below_drewN _ _ _)).mono ?_; rintro e w5 ⟨rfl, hb5⟩; have f0 := (hb5.cell (p := ⟨q, 0, none⟩) y0).trans d0; have f1 := (hb5.cell (p := ⟨q, 1, none⟩) y0).trans d1; have f2 := (hb5.cell (p := ⟨d, i, none⟩) y1).trans d2; have f3 := (hb5.cell (p := ⟨lb, lo + i, none⟩) y2).trans d3)
        | (go_at_call 20; refine (Le _ (by first | assumption | exact below_drewN _ _ _)).mono ?_; rintro e w5 ⟨rfl, hb5⟩; have f0 := (hb5.cell (p := ⟨q, 0, none⟩) y0).trans d0; have f1 := (hb5.cell (p := ⟨q, 1, none⟩) y0).trans d1; have f2 := (hb5.cell (p := ⟨d, i, none⟩) y1).trans d2; have f3 := (hb5.cell (p := ⟨lb, lo + i, none⟩) y2).trans d3))
      go_wp2_with fail
      go_roundw
      case rel => exact ⟨i + 1, by simp, by omega, hB.out.trans (hb5.mono hB.out.size)⟩
      case measure => simp [RowKit.intOf]; omega
    · obtain rfl : i = b.nA := by omega
      have t0 : ¬ (b.nA : Int) < (b.nA : Int) := by omega
      obtain ⟨hc, h1, g1, g2⟩ := (HT.out.1.still hB.out).rf.cH
      unfold maxLen at g2
      have HB : Hid (Below W.heap.size W wr) := hB.out
      clear hB
      go_wp2_with fail
      clear h1
      go_loopw [64] (fun c wr => ∃ i : Nat, c = .int .i64 (i : Int) ∧ i ≤ b.nS ∧ Hid (Below W.heap.size W wr)) (fun c _ => b.nS - (RowKit.intOf c).toNat)
      case atStart => exact ⟨0, rfl, Nat.zero_le _, HB.out⟩
      case round =>
        clear HB
        obtain ⟨j, rfl, hj, hB⟩ := hrel
        by_cases hlt2 : j < b.nS
        · have t1 : (j : Int) < (b.nS : Int) := by omega
          have TT := HT.out.1.still hB.out
          have d0 := TT.rf.acc j hlt2
          have d1 := TT.rf.num j hlt2
          clear TT
          cases eS : b.S j with
          | none =>
            rw [eS] at d0 d1
            obtain ⟨y, hy⟩ : ∃ y : Int, y = -1 := ⟨_, rfl⟩
            have G : Calls Try.prog 13 #[.pointer (some ⟨P, 0, none⟩), .int .i64 (j : Int)] (wr.alloc (.cells #[.int .i64 y, .int .i64 0] 56)) fun e w' => e = .returned (.tuple #[.int .i64 0, .int .i64 0, .bool false]) ∧ Below wr.heap.size wr w' ∧ w'.cell? ⟨wr.heap.size, 0, none⟩ = some (.int .i64 y) ∧ w'.cell? ⟨wr.heap.size, 1, none⟩ = some (.int .i64 0) :=
              held_box HT.out.1.bk hB.out hlt2 (y) (0) eS
            replace d0 : wr.cell? ⟨r, j * 2, none⟩ = some (.int .i64 y) := by rw [hy]; exact d0
            replace d1 : wr.cell? ⟨r, j * 2 + 1, none⟩ = some (.int .i64 0) := d1
            clear eS
            have hmax : max y 0 = 0 := by omega
            have p1 : ¬ (0 : Int) ≤ y := by omega
            have p2 : decide ((0 : Int) ≤ y) = false := decide_eq_false p1
            clear hy
            go_wp2_with fail
            refine G.mono ?_
            rintro e w5 ⟨rfl, hb5, f0, f1⟩
            go_wp2_with fail
            go_roundw
            case rel => exact ⟨j + 1, by simp, by omega, hB.out.trans (hb5.mono hB.out.size)⟩
            case measure => simp [RowKit.intOf]; omega
          | some x =>
            obtain ⟨c, m⟩ := x
            rw [eS] at d0 d1
            have G : Calls Try.prog 13 #[.pointer (some ⟨P, 0, none⟩), .int .i64 (j : Int)] (wr.alloc (.cells #[.int .i64 (c : Int), .int .i64 m] 56)) fun e w' => e = .returned (.tuple #[.int .i64 (c : Int), .int .i64 m, .bool true]) ∧ Below wr.heap.size wr w' ∧ w'.cell? ⟨wr.heap.size, 0, none⟩ = some (.int .i64 (c : Int)) ∧ w'.cell? ⟨wr.heap.size, 1, none⟩ = some (.int .i64 m) :=
              held_box HT.out.1.bk hB.out hlt2 ((c : Int)) (m) eS
            replace d0 : wr.cell? ⟨r, j * 2, none⟩ = some (.int .i64 (c : Int)) := d0
            replace d1 : wr.cell? ⟨r, j * 2 + 1, none⟩ = some (.int .i64 m) := d1
            clear eS
            have hmax : max (c : Int) 0 = (c : Int) := by omega
            have p1 : (0 : Int) ≤ (c : Int) := by omega
            have p2 : decide ((0 : Int) ≤ (c : Int)) = true := decide_eq_true p1
            go_wp2_with fail
            refine G.mono ?_
            rintro e w5 ⟨rfl, hb5, f0, f1⟩
            go_wp2_with fail
            go_roundw
            case rel => exact ⟨j + 1, by simp, by omega, hB.out.trans (hb5.mono hB.out.size)⟩
            case measure => simp [RowKit.intOf]; omega
        · obtain rfl : j = b.nS := by omega
          have t1 : ¬ (b.nS : Int) < (b.nS : Int) := by omega
          have TT := HT.out.1.still hB.out
          have d0 := TT.rf.cL
          have c1 : wr.cell? ⟨ob, 1, none⟩ = some (.int .i64 a) := (hB.out.cell (p := ⟨ob, 1, none⟩) HT.out.2.2.1).trans HT.out.2.2.2
          have y0 := TT.rf.qt
          have BF : Hid (Below w.heap.size w wr) := HB0.out.trans (hB.out.mono HB0.out.size)
          by_cases n1 : a < 0
          · have hA : hasA b a = false := by unfold hasA; rw [decide_eq_false (by omega), Bool.false_and]
            have G1 := fun m => used_no (TT.bk.drewN m) a hA
            have G2 := fun m => real_no (TT.bk.drewN m) a hA
            have G3 := fun m => left_no (TT.bk.drewN m) a hA
            clear TT hA
            go_wp2_with fail
            go_quiet (fail)
            go_wp2_with fail
            refine (G1 _).mono ?_
            rintro e w6 ⟨rfl, rfl⟩
            go_wp2_with fail
            refine (G2 _).mono ?_
            rintro e w7 ⟨rfl, rfl⟩
            go_wp2_with fail
            refine (G3 _).mono ?_
            rintro e w8 ⟨rfl, rfl⟩
            go_wp2_with fail
            go_ret
            exact ⟨by simp, below_more BF.out _⟩
          by_cases n2 : (b.nA : Int) ≤ a
          · have hA : hasA b a = false := by unfold hasA; rw [decide_eq_false (show ¬ a < (b.nA : Int) by omega), Bool.and_false]
            have G1 := fun m => used_no (TT.bk.drewN m) a hA
            have G2 := fun m => real_no (TT.bk.drewN m) a hA
            have G3 := fun m => left_no (TT.bk.drewN m) a hA
            clear TT hA
            go_wp2_with fail
            go_quiet (fail)
            go_wp2_with fail
            refine (G1 _).mono ?_
            rintro e w6 ⟨rfl, rfl⟩
            go_wp2_with fail
            refine (G2 _).mono ?_
            rintro e w7 ⟨rfl, rfl⟩
            go_wp2_with fail
            refine (G3 _).mono ?_
            rintro e w8 ⟨rfl, rfl⟩
            go_wp2_with fail
            go_ret
            exact ⟨by simp, below_more BF.out _⟩
          · clear TT
            go_wp2_with fail
            go_quiet (fail)
            go_wp2_with fail
            go_ret
            exact ⟨rfl, below_more BF.out _⟩
end Go.Proofs.Ytcjdbfmglckdkaa.RK
