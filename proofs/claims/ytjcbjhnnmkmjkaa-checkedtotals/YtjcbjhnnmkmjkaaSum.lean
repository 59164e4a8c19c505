/-
  Contracts of package checked's anything, total and Sum, for every list of at most 200 numbers.
-/
import Derived.Test.YtjcbjhnnmkmjkaaTimes
import Derived.Deep.OwnRows
import Derived.Deep.DeepCutAuto
import Derived.Deep.CutBlock
namespace Go.Proofs.Ytjcbjhnnmkmjkaa
open Go.ChangeShapes Go.WideShapes Go.ChangeAt Go.RowKit Go.Deep

/-- The slice value v reads as the values that f gives, n of them. -/
def Row (w : World) (v : Value) (n : Nat) (f : Nat → Value) : Prop :=
  ∃ a cap, v = .slice a n cap ∧ n ≤ cap ∧ cap ≤ maxLen ∧ (∀ i, i < n → ∃ b off, a = some ⟨b, off, none⟩ ∧ w.cell? ⟨b, off + i, none⟩ = some (f i))
theorem Row.below {w w' : World} {v : Value} {n : Nat} {f : Nat → Value} (h : Row w v n f) (hb : Below w.heap.size w w') : Row w' v n f := by
  obtain ⟨a, cap, rfl, h1, h2, h3⟩ := h
  refine ⟨a, cap, rfl, h1, h2, fun i hi => ?_⟩
  obtain ⟨b, off, e, hc⟩ := h3 i hi
  exact ⟨b, off, e, by rw [hb.cell (World.block_lt_of_cell? _ _ hc)]; exact hc⟩
theorem row_set {w : World} {G k n : Nat} {f : Nat → Value} (h : ∀ i, i < n → w.cell? ⟨G, i, none⟩ = some (f i)) (v : Value) : ∀ i, i < n → (w.setCell ⟨G, k, none⟩ v).cell? ⟨G, i, none⟩ = some (if i = k then v else f i) := by
  intro i hi
  by_cases e : i = k
  · subst e; rw [if_pos rfl]; exact World.cell?_setCell_same _ _ _ (h i hi)
  · rw [if_neg e, World.cell?_setCell_other _ _ _ _ (fun c => e (by cases c; rfl))]; exact h i hi
theorem Try.infoAny : (Try.prog.info? 20).map (fun i => (i.zero, i.size, i.bytes)) = some (some .nilIface, 1, 16) := by kernel_rfl

set_option maxHeartbeats 1000000 in
theorem anything_any (zs : Nat → Int) (n : Nat) (v : Value) (w : World) (h : Row w v n fun i => .int .i64 (zs i)) (hn : n ≤ 200) :
    Calls Try.prog 39 #[v] w fun e w' => ∃ v', e = .returned v' ∧ Below w.heap.size w w' ∧ Row w' v' n fun i => .iface 3 (.int .i64 (zs i)) := by
  obtain ⟨a, cap, rfl, h1, h2, h3⟩ := id h
  have hmk := run_make_row' (P := Try.prog) 64 20 .nilIface 16 Try.underlying64 Try.infoAny rfl .i64 .i64 n (by omega) (by omega)
  obtain ⟨W, hW⟩ : ∃ W, Hid (W = w.alloc (.cells (madeCells #[.nilIface] n) 20)) := ⟨_, rfl⟩
  have c0 : Hid (∀ i, i < n → W.cell? ⟨w.heap.size, i, none⟩ = some .nilIface) := by
    intro i hi
    rw [hW.out, World.cell?_alloc_at _ _ _ _ rfl]
    have : (madeCells #[Value.nilIface] n)[i]? = (madeCells #[Value.nilIface] n).toList[i]? := by simp
    rw [this, toList_madeCells_one]
    simp [hi]
  have hWb : Below w.heap.size w W := by rw [hW.out]; exact (Below.refl _ _).alloc (Nat.le_refl _) _
  go_enter Try.func39, Try.ntmps39
  go_wp2_with fail
  rw [← hW.out]
  have fz : ∀ i, W.frozen? ⟨w.heap.size, i, none⟩ = false := fun i => by rw [hW.out]; go_simp
  have hWs : Hid (w.heap.size < W.heap.size) := by show _ < _; rw [hW.out]; simp
  go_loopw [11] (fun c wr => ∃ k : Nat, c = .int .i64 (k : Int) ∧ k ≤ n ∧ Hid (∀ i, i < n → wr.cell? ⟨w.heap.size, i, none⟩ = some (if i < k then .iface 3 (.int .i64 (zs i)) else .nilIface)) ∧ (∀ i, wr.frozen? ⟨w.heap.size, i, none⟩ = false) ∧ Below w.heap.size w wr) (fun c _ => n - (intOf c).toNat)
  case atStart => exact ⟨0, rfl, Nat.zero_le _, fun i hi => by rw [if_neg (by omega)]; exact c0.out i hi, fz, hWb⟩
  case round =>
    clear fz c0 hWb
    obtain ⟨k, rfl, hk, hcs, hfr, hB⟩ := hrel
    by_cases hlt : k < n
    · have t : (k : Int) < (n : Int) := by omega
      obtain ⟨b, off, rfl, hc⟩ := h3 k hlt
      have hc1 := (hB.cell (World.block_lt_of_cell? _ _ hc)).trans hc
      have hck := hcs.out k hlt
      rw [if_neg (Nat.lt_irrefl k)] at hck
      have hnew := row_set (k := k) hcs.out (.iface 3 (.int .i64 (zs k)))
      have HN : Hid (∀ i, i < n → (wr.setCell ⟨w.heap.size, k, none⟩ (.iface 3 (.int .i64 (zs k)))).cell? ⟨w.heap.size, i, none⟩ = some (if i < k + 1 then .iface 3 (.int .i64 (zs i)) else .nilIface)) := by
        intro i hi
        rw [hnew i hi]
        by_cases e : i = k
        · subst e; rw [if_pos rfl, if_pos (by omega)]
        · rw [if_neg e]
          by_cases l : i < k
          · rw [if_pos l, if_pos (by omega)]
          · rw [if_neg l, if_neg (by omega)]
      clear hnew h3 hc hcs
      go_wp2_with fail
      go_roundw
      case rel => exact ⟨k + 1, by simp, by omega, HN, by simpa using hfr, hB.setCell (Nat.le_refl _) _⟩
      case measure => simp [intOf]; omega
    · have t : ¬ (k : Int) < (n : Int) := by omega
      go_wp2_with fail
      go_ret
      refine ⟨_, rfl, hB, some ⟨w.heap.size, 0, none⟩, n, rfl, Nat.le_refl _, by unfold maxLen; omega, fun i hi => ⟨w.heap.size, 0, rfl, ?_⟩⟩
      have := hcs.out i hi
      rw [if_pos (by omega)] at this
      rw [Nat.zero_add]; exact this

/-- The sum of the first k. -/
def sumTo (zs : Nat → Int) : Nat → Int
  | 0 => 0
  | k + 1 => sumTo zs k + zs k
theorem sumTo_bd (zs : Nat → Int) (n : Nat) (h : ∀ i, i < n → -9223372036854775808 ≤ zs i ∧ zs i ≤ 9223372036854775807) : ∀ k, k ≤ n → -9223372036854775808 * (k : Int) ≤ sumTo zs k ∧ sumTo zs k ≤ 9223372036854775808 * (k : Int)
  | 0, _ => by simp [sumTo]
  | k + 1, hk => by
    have a := sumTo_bd zs n h k (by omega)
    have b := h k (by omega)
    simp only [sumTo]
    omega
theorem sumTo_fits (zs : Nat → Int) (n : Nat) (hn : n ≤ 200) (h : ∀ i, i < n → -9223372036854775808 ≤ zs i ∧ zs i ≤ 9223372036854775807) : Fits (sumTo zs n) := by
  have := sumTo_bd zs n h n (Nat.le_refl _)
  unfold Fits; omega
theorem as_iface_int (n : Int) (w : World) : (Instr.typeAssert (.iface 3 (.int .i64 n)) 20 3 true).run Try.prog w = .ok (.tuple #[.int .i64 n, .bool true]) w := by kernel_rfl

set_option maxRecDepth 100000 in
set_option maxHeartbeats 2000000 in
theorem total_any (zs : Nat → Int) (n : Nat) (v : Value) (w : World) (h : Row w v n fun i => .iface 3 (.int .i64 (zs i))) (hn : n ≤ 200) (hz : ∀ i, i < n → -9223372036854775808 ≤ zs i ∧ zs i ≤ 9223372036854775807) :
    Calls Try.prog 38 #[v] w fun e w' => e = .returned (narrowed (sumTo zs n)) ∧ Below w.heap.size w w' := by
  obtain ⟨a, cap, rfl, h1, h2, h3⟩ := id h
  have HF : Hid (Fits (sumTo zs n)) := sumTo_fits zs n hn hz
  have HZ : Hid (∀ i, i < n → -9223372036854775808 ≤ zs i ∧ zs i ≤ 9223372036854775807) := hz
  clear hz
  go_enter Try.func38, Try.ntmps38
  go_wp2_with fail
  refine (widen_any 0 _ (by decide) (by decide)).mono ?_
  rintro e w1 ⟨rfl, hb1⟩
  have s1 := hb1.size
  go_wp2_with fail
  obtain ⟨W, hW⟩ : ∃ W, Hid (W = w1.alloc (.cells #[.int .u64 (hi 0), .int .u64 (lo 0)] 52)) := ⟨_, rfl⟩
  have d0 : W.cell? ⟨w1.heap.size, 0, none⟩ = some (.int .u64 (hi 0)) := by rw [hW.out]; go_simp
  have d1 : W.cell? ⟨w1.heap.size, 1, none⟩ = some (.int .u64 (lo 0)) := by rw [hW.out]; go_simp
  have d2 : W.frozen? ⟨w1.heap.size, 0, none⟩ = false := by rw [hW.out]; go_simp
  have d3 : W.frozen? ⟨w1.heap.size, 1, none⟩ = false := by rw [hW.out]; go_simp
  have hWb : Below w.heap.size w W := by rw [hW.out]; exact hb1.alloc s1 _
  rw [← hW.out]
  go_loopw [11] (fun c wr => ∃ k : Nat, c = .int .i64 (k : Int) ∧ k ≤ n ∧ wr.cell? ⟨w1.heap.size, 0, none⟩ = some (.int .u64 (hi (sumTo zs k))) ∧ wr.cell? ⟨w1.heap.size, 1, none⟩ = some (.int .u64 (lo (sumTo zs k))) ∧ wr.frozen? ⟨w1.heap.size, 0, none⟩ = false ∧ wr.frozen? ⟨w1.heap.size, 1, none⟩ = false ∧ Below w.heap.size w wr) (fun c _ => n - (intOf c).toNat)
  case atStart => exact ⟨0, rfl, Nat.zero_le _, d0, d1, d2, d3, hWb⟩
  case round =>
    clear d0 d1 d2 d3 hWb hb1
    obtain ⟨k, rfl, hk, e0, e1, e2, e3, hB⟩ := hrel
    by_cases hlt : k < n
    · have t : (k : Int) < (n : Int) := by omega
      obtain ⟨b, off, rfl, hc⟩ := h3 k hlt
      have hc1 := (hB.cell (World.block_lt_of_cell? _ _ hc)).trans hc
      have ta := as_iface_int (zs k)
      have HZk : Hid (-9223372036854775808 ≤ zs k ∧ zs k ≤ 9223372036854775807) := HZ.out k hlt
      have HS : Hid (sumTo zs (k + 1) = sumTo zs k + zs k) := rfl
      clear h3 hc
      generalize sumTo zs k = S at *
      obtain ⟨z, hzk⟩ : ∃ z, zs k = z := ⟨_, rfl⟩
      rw [hzk] at hc1 ta HZk HS
      clear hzk
      go_upto_block 1 with fail
      go_cut [5, 6, 7] from 12 to 25 (fun _ _ _ wx => wx.cell? ⟨w1.heap.size, 0, none⟩ = some (.int .u64 (hi (S + z))) ∧ wx.cell? ⟨w1.heap.size, 1, none⟩ = some (.int .u64 (lo (S + z))) ∧ wx.frozen? ⟨w1.heap.size, 0, none⟩ = false ∧ wx.frozen? ⟨w1.heap.size, 1, none⟩ = false ∧ Below w.heap.size w wx)
      case first =>
        have y0 := World.block_lt_of_cell? _ _ e0
        simp at y0
        go_wp2_with fail
        go_region_with (first
          | (go_at_call 29; refine (widen_any z _ HZk.out.1 HZk.out.2).mono ?_; rintro e w7 ⟨rfl, hb7⟩; obtain ⟨hc7, hf7⟩ := bcell hb7; have z7 := hb7.size; simp at z7; have v70 := hc7 w1.heap.size 0 (by simp; omega); have v71 := hc7 w1.heap.size 1 (by simp; omega); have g70 := hf7 w1.heap.size 0 (by simp; omega); have g71 := hf7 w1.heap.size 1 (by simp; omega); simp [e0, e1, e2, e3] at v70 v71 g70 g71)
          | (go_at_call 28; refine (plus_any _ _ _).mono ?_; rintro e w8 ⟨rfl, hb8⟩; obtain ⟨hc8, hf8⟩ := bcell hb8; have z8 := hb8.size; have v80 := (hc8 w1.heap.size 0 (by omega)).trans v70; have v81 := (hc8 w1.heap.size 1 (by omega)).trans v71; have g80 := (hf8 w1.heap.size 0 (by omega)).trans g70; have g81 := (hf8 w1.heap.size 1 (by omega)).trans g71))
        all_goals
          have hs := hB.size
          go_wp2_with fail
          go_meet
          case rel => exact ⟨by simp [v80, go_sem], by simp [v81, go_sem], by simpa using g80, by simpa using g81, (((hB.drew.trans (hb7.mono (B' := w.heap.size) (by simp; omega))).trans (hb8.mono (B' := w.heap.size) (by omega))).setCell (by simp; omega) _).setCell (by simp; omega) _⟩
      case rest =>
        obtain ⟨j0, j1, j2, j3, jB⟩ := hcut
        rw [← HS.out] at j0 j1
        clear e0 e1 e2 e3 hB ta hc1
        go_wp2_with fail
        go_roundw
        case rel => exact ⟨k + 1, by simp, by omega, j0, j1, j2, j3, jB⟩
        case measure => simp [intOf]; omega
    · have hkn : k = n := by omega
      subst hkn
      have t : ¬ (k : Int) < (k : Int) := by omega
      go_wp2_with fail
      refine (narrow_any _ _ HF.out).mono ?_
      rintro e w9 ⟨rfl, hb9⟩
      go_wp2_with fail
      go_ret
      exact ⟨rfl, hB.trans (hb9.mono hB.size)⟩

set_option maxHeartbeats 400000 in
theorem sum_any (zs : Nat → Int) (n : Nat) (v : Value) (w : World) (h : Row w v n fun i => .int .i64 (zs i)) (hn : n ≤ 200) (hz : ∀ i, i < n → -9223372036854775808 ≤ zs i ∧ zs i ≤ 9223372036854775807) :
    Calls Try.prog 23 #[v] w fun e w' => e = .returned (.tuple #[.int .i64 (ansN (sumTo zs n)), .int .i64 (ansE (sumTo zs n))]) ∧ Below w.heap.size w w' := by
  have HZ : Hid (∀ i, i < n → -9223372036854775808 ≤ zs i ∧ zs i ≤ 9223372036854775807) := hz
  clear hz
  go_enter Try.func23, Try.ntmps23
  go_wp2_with fail
  refine (anything_any zs n v _ h hn).mono ?_
  rintro e w1 ⟨v1, rfl, hb1, r1⟩
  go_wp2_with fail
  refine (total_any zs n v1 _ r1 hn HZ.out).mono ?_
  rintro e w2 ⟨rfl, hb2⟩
  go_wp2_with fail
  refine (answer_any _ _).mono ?_
  rintro e w3 ⟨rfl, rfl⟩
  go_wp2_with fail
  go_ret2
  exact ⟨rfl, hb1.trans (hb2.mono hb1.size)⟩
end Go.Proofs.Ytjcbjhnnmkmjkaa
