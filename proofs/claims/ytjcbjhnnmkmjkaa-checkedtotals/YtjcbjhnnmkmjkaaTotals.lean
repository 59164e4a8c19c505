/-
  For every list of ints the Go function CheckedTotals, over the landed program, returns true and leaves the list and all old memory as they were. No condition.
-/
import Derived.Test.YtjcbjhnnmkmjkaaSum
import Derived.Test.YtjcbjhnnmkmjkaaRefTold
import Derived.Test.YtjcbjhnnmkmjkaaDown
import Derived.ChangeOld
import Derived.ShutString
namespace Go.Proofs.Ytjcbjhnnmkmjkaa
open Go.ChangeShapes Go.WideShapes Go.ChangeAt Go.RowKit

theorem num_setCell {B : Nat} {w : World} {s : Bool} {sl : Value} {z : Int} {n : Nat} (h : IsNum B w s sl z n) {p : Addr} (hp : p.block < B) (u : Value) : IsNum B (w.setCell p u) s sl z n := by
  obtain ⟨h0, l, h1, h2⟩ := h
  exact ⟨h0, l, h1.setCell hp u, h2⟩
theorem num_mono {B C : Nat} {w : World} {s : Bool} {sl : Value} {z : Int} {n : Nat} (h : IsNum B w s sl z n) (hc : C ≤ B) : IsNum C w s sl z n := by
  obtain ⟨h0, l, h1, h2⟩ := h
  exact ⟨h0, l, h1.mono hc, h2⟩
theorem num_slice {B : Nat} {w : World} {s : Bool} {sl : Value} {z : Int} {n : Nat} (h : IsNum B w s sl z n) : ∃ a m c, sl = Value.slice a m c := by
  obtain ⟨_, l, ⟨a, c, e, _⟩, _⟩ := h
  exact ⟨a, _, c, e⟩

set_option maxRecDepth 100000 in
set_option maxHeartbeats 4000000 in
theorem checkedTotals_walk (zs : Nat → Int) (n : Nat) (v : Value) (w : World) (h : Row w v n fun i => .int .i64 (zs i)) (hz : ∀ i, i < n → -9223372036854775808 ≤ zs i ∧ zs i ≤ 9223372036854775807) :
    Calls Try.prog 6 #[v] w fun e w' => e = .returned (.bool true) ∧ Below w.heap.size w w' := by
  obtain ⟨a, cap, rfl, h1, h2, h3⟩ := id h
  unfold maxLen at h2
  have HZ : Hid (∀ i, i < n → -9223372036854775808 ≤ zs i ∧ zs i ≤ 9223372036854775807) := hz
  clear hz
  go_enter Try.func6, Try.ntmps6
  go_wp2_with fail
  refine (awake_any _).mono ?_
  rintro e w1 ⟨rfl, hb1⟩
  have s1 := hb1.size
  by_cases hn : 200 < n
  · have t : (200 : Int) < (n : Int) := by omega
    go_wp2_with fail
    go_ret
    exact ⟨rfl, hb1⟩
  · have t : ¬ (200 : Int) < (n : Int) := by omega
    go_wp2_with fail
    refine (sum_any zs n _ _ (h.below hb1) (by omega) HZ.out).mono ?_
    rintro e w2 ⟨rfl, hb2⟩
    have s2 := hb2.size
    have B2 : Below w.heap.size w w2 := hb1.trans (hb2.mono s1)
    clear hb1 hb2
    go_wp2_with fail
    obtain ⟨W, hW⟩ : ∃ W, Hid (W = w2.alloc (.cells #[.bool false, .slice none 0 0] 25)) := ⟨_, rfl⟩
    have d0 : W.cell? ⟨w2.heap.size, 0, none⟩ = some (.bool false) := by rw [hW.out]; go_simp
    have d1 : W.cell? ⟨w2.heap.size, 1, none⟩ = some (.slice none 0 0) := by rw [hW.out]; go_simp
    have d2 : W.frozen? ⟨w2.heap.size, 0, none⟩ = false := by rw [hW.out]; go_simp
    have d3 : W.frozen? ⟨w2.heap.size, 1, none⟩ = false := by rw [hW.out]; go_simp
    have hWb : Below w.heap.size w W := by rw [hW.out]; exact B2.alloc (by omega) _
    rw [← hW.out]
    go_loopw [22] (fun c wr => ∃ (k : Nat) (r : Bool) (u : Value), c = .int .i64 (k : Int) ∧ k ≤ n ∧ wr.cell? ⟨w2.heap.size, 0, none⟩ = some (.bool r) ∧ wr.cell? ⟨w2.heap.size, 1, none⟩ = some u ∧ wr.frozen? ⟨w2.heap.size, 0, none⟩ = false ∧ wr.frozen? ⟨w2.heap.size, 1, none⟩ = false ∧ IsNum (w2.heap.size + 1) wr r u (sumTo zs k) (64 + k) ∧ Below w.heap.size w wr) (fun c _ => n - (intOf c).toNat)
    case atStart => exact ⟨0, false, _, rfl, Nat.zero_le _, d0, d1, d2, d3, ⟨by simp [sumTo], [], reads_nil _ _, canon_nil, by simp [sumTo, val], by simp⟩, hWb⟩
    case round =>
      clear d0 d1 d2 d3 hWb B2
      obtain ⟨k, r, u, rfl, hk, e0, e1, e2, e3, nk, hB⟩ := hrel
      obtain ⟨au, mu, cu, rfl⟩ := num_slice nk
      by_cases hlt : k < n
      · have t : (k : Int) < (n : Int) := by omega
        obtain ⟨b, off, rfl, hc⟩ := h3 k hlt
        have hc1 := (hB.cell (World.block_lt_of_cell? _ _ hc)).trans hc
        have HZk : Hid (-9223372036854775808 ≤ zs k ∧ zs k ≤ 9223372036854775807) := HZ.out k hlt
        have HS : Hid (sumTo zs (k + 1) = sumTo zs k + zs k) := rfl
        clear h3 hc
        generalize sumTo zs k = S at *
        obtain ⟨z, hzk⟩ : ∃ z, zs k = z := ⟨_, rfl⟩
        rw [hzk] at hc1 HZk HS
        clear hzk
        go_upto_block 1 with fail
        go_cut [7] from 23 to 30 (fun _ wx => ∃ (r : Bool) (u : Value), wx.cell? ⟨w2.heap.size, 0, none⟩ = some (.bool r) ∧ wx.cell? ⟨w2.heap.size, 1, none⟩ = some u ∧ wx.frozen? ⟨w2.heap.size, 0, none⟩ = false ∧ wx.frozen? ⟨w2.heap.size, 1, none⟩ = false ∧ IsNum (w2.heap.size + 1) wx r u (S + z) (64 + (k + 1)) ∧ Below w.heap.size w wx)
        case first =>
          have y0 := World.block_lt_of_cell? _ _ e0
          simp at y0
          have hs := hB.size
          go_wp2_with fail
          go_region_with (first
            | (go_at_call 10; refine (of_any z _ HZk.out.1 HZk.out.2).mono ?_; rintro e w7 ⟨vz, rfl, hb7, lz, p1, p2, p3, p4⟩; obtain ⟨hc7, hf7⟩ := bcell2 hb7; have z7 := hb7.size; simp at z7; have v70 := hc7 w2.heap.size 0 (by simp; omega); have v71 := hc7 w2.heap.size 1 (by simp; omega); have g70 := hf7 w2.heap.size 0 (by simp; omega); have g71 := hf7 w2.heap.size 1 (by simp; omega); simp [e0, e1, e2, e3] at v70 v71 g70 g71; have nz : IsNum 0 w7 (decide (z < 0)) vz z 64 := ⟨rfl, lz, p1.mono (Nat.zero_le _), p2, p3, p4⟩; clear p1 p2 p3 p4; obtain ⟨az, mz, cz', rfl⟩ := num_slice nz; have D7 : Below wr.heap.size wr w7 := (Below.refl _ _).drew.trans hb7; have nk7 := nk.below D7)
            | (go_at_call 15; refine (addR_any r _ _ _ S z (64 + k) 64 _ nk7 nz (by omega) (by decide)).mono ?_; rintro e w8 ⟨r8, u8, rfl, hb8, n8⟩; obtain ⟨a8, m8, c8, rfl⟩ := num_slice n8; obtain ⟨hc8, hf8⟩ := bcell2 hb8; have z8 := hb8.size; have v80 := (hc8 w2.heap.size 0 (by omega)).trans v70; have v81 := (hc8 w2.heap.size 1 (by omega)).trans v71; have g80 := (hf8 w2.heap.size 0 (by omega)).trans g70; have g81 := (hf8 w2.heap.size 1 (by omega)).trans g71))
          all_goals
            have n9 : IsNum (w2.heap.size + 1) w8 r8 (.slice a8 m8 c8) (S + z) (64 + (k + 1)) := (num_mono n8 (by omega)).wide (by omega)
            clear n8 nk7 nz nk
            go_wp2_with fail
            go_meet
            case rel => exact ⟨r8, _, by simp [v80, go_sem], by simp [v81, go_sem], by simpa using g80, by simpa using g81, num_setCell (num_setCell n9 (by simp) _) (by simp) _, (((hB.trans (D7.mono hs)).trans (hb8.mono (B' := w.heap.size) (by omega))).setCell (by simp; omega) _).setCell (by simp; omega) _⟩
        case rest =>
          obtain ⟨r', u', j0, j1, j2, j3, nj, jB⟩ := hcut
          rw [← HS.out] at nj
          clear e0 e1 e2 e3 hB hc1 nk
          go_wp2_with fail
          go_roundw
          case rel => exact ⟨k + 1, r', u', by simp, by omega, j0, j1, j2, j3, nj, jB⟩
          case measure => simp [intOf]; omega
      · have hkn : k = n := by omega
        subst hkn
        have t : ¬ (k : Int) < (k : Int) := by omega
        go_wp2_with fail
        refine (toldR_any r _ (sumTo zs k) _ _ nk).mono ?_
        rintro e w9 ⟨rfl, hb9⟩
        clear nk
        go_wp2_with fail
        refine (told_same _ _ _).mono ?_
        rintro e w10 ⟨rfl, rfl⟩
        go_wp2_with fail
        go_ret
        exact ⟨rfl, hB.trans (hb9.mono hB.size)⟩
/-- A slice of ints that came in reads as a row. -/
theorem row_of_ints {W : World} {x : Addr} {len cap : Nat} {zs : List Int} (hl : len ≤ cap) (hm : cap ≤ maxLen) (hz : zs.length = cap) (hcell : ∀ i, i < zs.length → W.cell? (x.add i) = some (.int .i64 (zs.getD i 0))) : Row W (.slice (some x) len cap) len fun i => .int .i64 (zs.getD i 0) := by
  refine ⟨some x, cap, rfl, hl, hm, fun i hi => ?_⟩
  have hc := hcell i (by omega)
  obtain ⟨b, off, spot⟩ := x
  have hspot : spot = none := by
    simpa [Addr.add] using World.cell?_spot (hcell 0 (by omega))
  subst hspot
  refine ⟨b, off, rfl, ?_⟩
  have e : (⟨b, off, none⟩ : Addr).add i = ⟨b, off + i, none⟩ := by unfold Addr.add; split <;> simp_all
  rw [e] at hc
  exact hc
theorem checkedTotals_own : ownKnob Try.prog.godebug = none := by kernel_rfl
theorem checkedTotals_laidOut : laidOutB Try.prog = true := by kernel_rfl
set_option maxRecDepth 100000 in
theorem checkedTotals_lifted (os : Os) (started : os.Started) (H : Type) (enc : TypeId × Value → H) :
    ReturnsInHanded {} Try.checked os 6 .any (Rows.checkedTotalsSpec.pre6 enc Try.prog Try.f6 Rows.checkedTotalsRow.domain false) (Rows.checkedTotalsSpec.post enc Try.prog Try.f6 false true false false) := by
  refine returnsInHanded_of_change (C := Try.checked) checkedTotals_own started (by kernel_rfl) Try.func6
    (ChangeSpec.witness6 (enc := enc) (C := Try.checked) false ⟨#[], #[.slice none 0 0], []⟩ 8 (by kernel_rfl) (by kernel_rfl) (by kernel_rfl) (by kernel_rfl)) ?_
  intro W base args ds gs before hval0 hW hcnd _
  have hval : ∀ (j : Nat) t v, Try.f6.params[j]? = some t → args[j]? = some v → Value.okWide Try.prog W .any base t v := hval0
  have hW' := hW
  obtain ⟨p, q, hA0, hV, rfl, hfz, hnd⟩ := hW
  have hA : DataW.TrodAll enc Try.prog W 0 (fun _ => true) true Try.f6.params.toList args.toList ds p := hA0
  rw [Try.params6] at hA hval
  obtain ⟨v0, vs0, d0, ds0, p0, q0, hargs, rfl, rfl, h0, r0⟩ := trodAll_cons hA
  obtain ⟨rfl, rfl, rfl⟩ := trodAll_nil r0
  obtain rfl : args = #[v0] := by cases args; simp_all
  obtain ⟨rfl, rfl⟩ := trodVars_none hV
  obtain ⟨a0, len0, cap0, rfl⟩ := okWide_slice Try.underlying40 (hval 0 40 v0 rfl rfl)
  have k0 := h0
  have lt0 : ∀ x ∈ p0, x.block < W.heap.size := by obtain ⟨m, hm⟩ := k0; exact DataW.trod_lt m _ _ _ hm
  obtain ⟨z0, w0, wf0⟩ : ∃ zs : List Int, Row W (.slice a0 len0 cap0) len0 (fun i => .int .i64 (zs.getD i 0)) ∧ ∀ i, i < len0 → -9223372036854775808 ≤ zs.getD i 0 ∧ zs.getD i 0 ≤ 9223372036854775807 := by
    obtain ⟨fuel, hf⟩ := h0
    rcases open_ints Try.underlying40 Try.underlying3 (by kernel_rfl) hf with ⟨hcs, _⟩ | ⟨x, l, c, zs, hcs, _, hl, hm, hz, _, hcell, hwz⟩
    · simp [Value.cells] at hcs
      obtain ⟨rfl, rfl, rfl⟩ := hcs
      exact ⟨[], ⟨none, 0, rfl, Nat.le_refl _, by unfold maxLen; omega, fun i hi => absurd hi (by omega)⟩, fun i hi => absurd hi (by omega)⟩
    · simp [Value.cells] at hcs
      obtain ⟨rfl, rfl, rfl⟩ := hcs
      have hz' : zs.length = cap0 := by simpa using hz
      refine ⟨zs, row_of_ints hl hm hz' hcell, fun i hi => ?_⟩
      have hi' : i < zs.length := by omega
      have e : zs.getD i 0 = zs[i] := by simp [hi']
      rw [e]
      exact bounds_i64 (hwz _ (List.getElem_mem hi'))
  clear hA0 hval0
  refine (checkedTotals_walk (fun i => z0.getD i 0) len0 _ W w0 wf0).mono fun e W' ⟨he, bel⟩ => ?_
  subst he
  exact ⟨_, rfl, _, _, _, [], _, [], hW', trodAll_mk1 (shut_bool Try.underlying4 _), (trodAll_cons_mk (Below.trod checkedTotals_laidOut (by kernel_rfl) (of_decide_eq_true (by kernel_rfl)) k0 bel lt0) trodAll_mk0), rfl, bel.frame _, fun h => by cases h⟩

/-- THE STATEMENT. -/
theorem checkedTotals_proved : Rows.CheckedTotalsSaid :=
  OpenClaim.holds_of_wide 6 Try.f6 rfl rfl rfl rfl rfl rfl rfl ⟨rfl, rfl, rfl, rfl, rfl⟩ rfl rfl rfl rfl rfl (by kernel_rfl) Try.func6 (by kernel_rfl)
    (of_decide_eq_true (by kernel_rfl)) (by unfold Func.isWrapper; first | (rw [if_pos (by decide +kernel)]; kernel_rfl) | (rw [if_neg (by decide +kernel)]; exact ⟨rfl, rfl⟩))
    (fun os started H enc _ => checkedTotals_lifted os started H enc)
#print axioms checkedTotals_proved
end Go.Proofs.Ytjcbjhnnmkmjkaa
