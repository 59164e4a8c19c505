/-
  Contract of the reference's div: the quotient and the rest of two lists of bits, the second not nought.
-/
import Derived.Test.YtkphchldoionjaaRefMul
import Derived.Deep.OwnRows
namespace Go.Proofs.Ytkphchldoionjaa
open Go.ChangeShapes Go.WideShapes Go.ChangeAt Go.RowKit Go.Deep

theorem canon_len (l : List Bool) (h : Canon l) (k : Nat) (hv : val l < 2 ^ k) : l.length ≤ k := by
  by_cases hn : l = []
  · subst hn; simp
  · have h1 := canon_ge l h hn
    have h2 : 2 ^ (l.length - 1) < 2 ^ k := by omega
    have := (Nat.pow_lt_pow_iff_right (by omega : 1 < 2)).1 h2
    omega
theorem bval_drop (l : List Bool) (j : Nat) (hj : j < l.length) : val (l.drop j) = (l.getD j false).toNat + 2 * val (l.drop (j + 1)) := by
  rw [List.drop_eq_getElem_cons hj]
  simp [val, hj]
/-- One digit of the division. -/
theorem div_yes (X R Q D b : Nat) (hq : X / D = Q) (hr : X % D = R) (h : D ≤ b + 2 * R) (hb : b ≤ 1) (hD : 0 < D) : (b + 2 * X) / D = 1 + 2 * Q ∧ (b + 2 * X) % D = b + 2 * R - D := by
  have e := Nat.div_add_mod X D
  have hlt := Nat.mod_lt X hD
  rw [hq, hr] at e
  rw [hr] at hlt
  have e2 : b + 2 * X = D * (1 + 2 * Q) + (b + 2 * R - D) := by
    rw [Nat.mul_add, ← Nat.mul_assoc, Nat.mul_comm D 2, Nat.mul_assoc]
    generalize D * Q = m at *
    omega
  rw [e2, Nat.mul_add_div hD, Nat.mul_add_mod, Nat.div_eq_of_lt (by omega), Nat.mod_eq_of_lt (by omega)]
  exact ⟨rfl, rfl⟩
theorem div_no (X R Q D b : Nat) (hq : X / D = Q) (hr : X % D = R) (h : b + 2 * R < D) (hD : 0 < D) : (b + 2 * X) / D = 2 * Q ∧ (b + 2 * X) % D = b + 2 * R := by
  have e := Nat.div_add_mod X D
  rw [hq, hr] at e
  have e2 : b + 2 * X = D * (2 * Q) + (b + 2 * R) := by
    rw [← Nat.mul_assoc, Nat.mul_comm D 2, Nat.mul_assoc]
    generalize D * Q = m at *
    omega
  rw [e2, Nat.mul_add_div hD, Nat.mul_add_mod, Nat.div_eq_of_lt h, Nat.mod_eq_of_lt h]
  exact ⟨rfl, rfl⟩
theorem drop_set (O : List Bool) (j : Nat) (b : Bool) : (O.set j b).drop (j + 1) = O.drop (j + 1) := by
  rw [List.drop_set]; simp
theorem getD_set_ne (O : List Bool) (i j : Nat) (b : Bool) (h : i ≠ j) : (O.set j b).getD i false = O.getD i false := by
  simp [Ne.symm h]
/-- Cells that hold bits. -/
def Cells (w : World) (G : Nat) (O : List Bool) : Prop := (∀ i, i < O.length → w.cell? ⟨G, i, none⟩ = some (.bool (O.getD i false))) ∧ (∀ i, w.frozen? ⟨G, i, none⟩ = false)
theorem Cells.below {w w' : World} {G : Nat} {O : List Bool} (h : Cells w G O) (hG : G < w.heap.size) (hb : Below w.heap.size w w') : Cells w' G O :=
  ⟨fun i hi => (hb.cell (p := ⟨G, i, none⟩) hG).trans (h.1 i hi), fun i => (hb.frozen (p := ⟨G, i, none⟩) hG).trans (h.2 i)⟩
theorem Cells.set {w : World} {G : Nat} {O : List Bool} (h : Cells w G O) (j : Nat) (b : Bool) : Cells (w.setCell ⟨G, j, none⟩ (.bool b)) G (O.set j b) := by
  refine ⟨fun i hi => ?_, fun i => by rw [World.frozen?_setCell]; exact h.2 i⟩
  have hi' : i < O.length := by simpa using hi
  by_cases e : i = j
  · subst e
    rw [World.cell?_setCell_same _ _ _ (h.1 i hi')]
    simp [hi']
  · rw [World.cell?_setCell_other _ _ _ _ (fun c => e (by cases c; rfl)), h.1 i hi']
    simp [Ne.symm e]
theorem Cells.reads {w : World} {G : Nat} {O : List Bool} (h : Cells w G O) (hn : O.length ≤ 1000000) : Reads G w (.slice (some ⟨G, 0, none⟩) O.length O.length) O :=
  ⟨_, _, rfl, Nat.le_refl _, by unfold maxLen; omega, fun i hi => ⟨G, 0, rfl, Nat.le_refl _, by rw [Nat.zero_add]; exact h.1 i hi⟩⟩
theorem made_cells (w : World) (n : Nat) : Cells (w.alloc (.cells (madeCells #[.bool false] n) 4)) w.heap.size (List.replicate n false) := by
  refine ⟨fun i hi => ?_, fun i => by go_simp⟩
  have hi' : i < n := by simpa using hi
  rw [World.cell?_alloc_at _ _ _ _ rfl]
  have : (madeCells #[Value.bool false] n)[i]? = (madeCells #[Value.bool false] n).toList[i]? := by simp
  rw [this, toList_madeCells_one]
  simp [hi']

set_option maxRecDepth 100000 in
set_option maxHeartbeats 4000000 in
theorem divR_any {B C : Nat} (x y : List Bool) (v u : Value) (w : World) (hv : Reads B w v x) (hu : Reads C w u y) (hx : x.length ≤ 1000) (hy : y.length ≤ 1000) (hy0 : 0 < val y) :
    Calls Try.prog 39 #[v, u] w fun e w' => ∃ q r, e = .returned (.tuple #[q, r]) ∧ Below w.heap.size w w' ∧ (∃ lq, Reads w.heap.size w' q lq ∧ Canon lq ∧ val lq = val x / val y ∧ lq.length ≤ x.length) ∧ ∃ lr, Reads w.heap.size w' r lr ∧ Canon lr ∧ val lr = val x % val y ∧ lr.length ≤ y.length := by
  obtain ⟨a, ca, rfl, h1, h2, hcell⟩ := id hv
  obtain ⟨D, hD⟩ : ∃ D, Hid (val y = D) := ⟨_, rfl⟩
  have hD0 : Hid (0 < D) := by show 0 < D; rw [← hD.out]; exact hy0
  clear hy0
  have hmk := run_make_row' (P := Try.prog) 56 4 (.bool false) 1 Try.underlying56 Try.infoBool rfl .i64 .i64 x.length (by omega) (by omega)
  obtain ⟨W, hW⟩ : ∃ W, Hid (W = w.alloc (.cells (madeCells #[.bool false] x.length) 4)) := ⟨_, rfl⟩
  have c0 : Cells W w.heap.size (List.replicate x.length false) := by rw [hW.out]; exact made_cells w x.length
  have hWb : Below w.heap.size w W := by rw [hW.out]; exact (Below.refl _ _).alloc (Nat.le_refl _) _
  have hWs : w.heap.size < W.heap.size := by rw [hW.out]; simp
  go_enter Try.func39, Try.ntmps39
  go_wp2_with fail
  rw [← hW.out]
  go_loopw [7, 8] (fun rv i wr => ∃ (k : Nat) (O rl : List Bool), i = .int .i64 ((k : Int) - 1) ∧ k ≤ x.length ∧ Hid (O.length = x.length) ∧ Hid (Cells wr w.heap.size O) ∧ Hid (∀ j, j < k → O.getD j false = false) ∧ Hid (val (O.drop k) = val (x.drop k) / D) ∧ Reads (w.heap.size + 1) wr rv rl ∧ Canon rl ∧ Hid (val rl = val (x.drop k) % D) ∧ w.heap.size < wr.heap.size ∧ Below w.heap.size w wr) (fun _ i _ => (intOf i + 1).toNat)
  case atStart => exact ⟨x.length, List.replicate x.length false, [], rfl, Nat.le_refl _, by show _ = _; simp, c0, fun j hj => by simp [hj], by show _ = _; simp [val], reads_nil _ _, canon_nil, by show _ = _; simp [val], hWs, hWb⟩
  case round =>
    clear c0 hWb hWs
    obtain ⟨k, O, rl, rfl, hk, hOl, hO, hOz, hOv, hR, hcan, hrv, hs, hB⟩ := hrel
    obtain ⟨a7, n7, c7, rfl⟩ : ∃ a n c, u7 = Value.slice a n c := by
      obtain ⟨a, c, e, _⟩ := hR
      exact ⟨a, _, c, e⟩
    rcases Nat.eq_zero_or_pos k with rfl | hp
    · have hOr := (hO.out.reads (by rw [hOl.out]; omega)).mono (Nat.le_refl w.heap.size)
      rw [hOl.out] at hOr
      have hqv : Hid (val O = val x / D) := by have := hOv.out; rw [List.drop_zero, List.drop_zero] at this; exact this
      have hrv2 : Hid (val rl = val x % D) := by have := hrv.out; rw [List.drop_zero] at this; exact this
      clear hcell
      go_wp2_with fail
      refine (trim_any O _ _ hOr).mono ?_
      rintro e w2 ⟨v', rfl, rfl, l', t1, t2, t3, t4⟩
      go_wp2_with fail
      go_ret2
      refine ⟨_, _, rfl, hB, ⟨l', t1, t2, ?_, by have := hOl.out; omega⟩, rl, hR.mono (by omega), hcan, ?_, ?_⟩
      · rw [hD.out, t3, hqv.out]
      · rw [hD.out, hrv2.out]
      · refine canon_len rl hcan y.length (Nat.lt_trans ?_ (val_lt y))
        rw [hD.out, hrv2.out]
        exact Nat.mod_lt _ hD0.out
    · obtain ⟨j, rfl⟩ : ∃ j, k = j + 1 := ⟨k - 1, by omega⟩
      have ej : ((j + 1 : Nat) : Int) - 1 = (j : Int) := by omega
      rw [ej]
      clear ej
      have tj : (0 : Int) ≤ (j : Int) := by omega
      have tl : (j : Int) < (x.length : Int) := by omega
      obtain ⟨bl, off, rfl, _, hc⟩ := hcell j (by omega)
      have hc1 := (hB.cell (World.block_lt_of_cell? _ _ hc)).trans hc
      have hxd := bval_drop x j (by omega)
      have hod : Hid (val (O.drop j) = 2 * val (O.drop (j + 1))) := by
        show _ = _
        rw [bval_drop O j (by have := hOl.out; omega), hOz.out j (by omega)]; simp
      have hrlen : rl.length ≤ y.length := by
        refine canon_len rl hcan y.length (Nat.lt_trans ?_ (val_lt y))
        rw [hD.out, hrv.out]
        exact Nat.mod_lt _ hD0.out
      obtain ⟨b, hb⟩ : ∃ b, Hid (x.getD j false = b) := ⟨_, rfl⟩
      rw [hb.out] at hc1 hxd
      have HX : Hid (val (x.drop j) = b.toNat + 2 * val (x.drop (j + 1))) := hxd
      clear hxd hcell hc
      have hb1 : b.toNat ≤ 1 := by cases b <;> simp
      have hB1 : Hid (b.toNat ≤ 1) := hb1
      clear hb1
      go_wp2_with (at_builtin; refine wpList_append_bits rfl _ _ rfl wr.heap.size (w.heap.size + 1) _ _ [b] rl rfl rfl (owns_one wr wr.heap.size b (Nat.le_refl _)) (hR.below ?_) (by simp) (by omega) (by simp) ?_)
      · exact (Below.refl _ _).alloc (Nat.le_refl _) _
      intro v3 w3 hown hgrow
      have hg : Below wr.heap.size wr w3 := ((Below.refl _ _).alloc (Nat.le_refl _) _).grown hgrow (by simp) (fun j hj => by simp [Value.ownBlock] at hj; omega)
      have hR3 : Reads wr.heap.size w3 v3 (b :: rl) := reads_of_owns (by simpa using hown)
      clear hown hgrow
      go_wp2_with fail
      refine (trim_any (b :: rl) _ _ hR3).mono ?_
      rintro e w4 ⟨v4, rfl, rfl, l4, t1, t2, t3, t4⟩
      have hl4 : l4.length ≤ 1001 := by simp at t4; omega
      have H4 : Hid (val l4 = b.toNat + 2 * val rl) := t3
      have hO3 := hO.out.below hs hg
      have hs3 := hg.size
      obtain ⟨a4, n4, c4, rfl⟩ : ∃ a n c, v4 = Value.slice a n c := by
        obtain ⟨a, c, e, _⟩ := t1
        exact ⟨a, _, c, e⟩
      clear t3 t4 hR3 hR hcan
      go_wp2_with fail
      refine (cmp_any l4 y _ _ _ t1 ((hu.below hB).below hg)).mono ?_
      rintro e w5 ⟨rfl, rfl⟩
      by_cases hge : D ≤ b.toNat + 2 * val rl
      · have hcm : decide ((0 : Int) ≤ cmpI (val l4) (val y)) = true := by
          rw [H4.out, hD.out]; unfold cmpI; rw [if_neg (by omega)]; split <;> rfl
        obtain ⟨n1, n2⟩ := div_yes (val (x.drop (j + 1))) (val rl) _ D b.toNat rfl hrv.out.symm hge hB1.out hD0.out
        have hle : Hid (val y ≤ val l4) := by show _ ≤ _; rw [H4.out, hD.out]; exact hge
        have HQ : Hid (val ((O.set j true).drop j) = val (x.drop j) / D) := by
          show _ = _
          rw [bval_drop _ j (by have := hOl.out; simp; omega), drop_set, HX.out, n1, hOv.out]
          have : (O.set j true).getD j false = true := by have := hOl.out; simp [show j < O.length by omega]
          rw [this]; rfl
        have HR : Hid (val l4 - val y = val (x.drop j) % D) := by show _ = _; rw [HX.out, n2, H4.out, hD.out]
        have hck := hO3.1 j (by have := hOl.out; omega)
        have hfk := hO3.2 j
        rw [hOz.out j (by omega)] at hck
        clear n1 n2 hge hOv hod hrv
        generalize cmpI (val l4) (val y) = cm at *
        go_wp2_with fail
        refine (minusR_any l4 y _ _ _ t1 ((hu.below hB).below hg) (by omega) hle.out).mono ?_
        rintro e w6 ⟨v6, rfl, hb6, l6, m1, m2, m3, m4⟩
        have hck6 := (hb6.cell (World.block_lt_of_cell? _ _ hck)).trans hck
        have hlt5 : w.heap.size < w5.heap.size := by omega
        have hfk6 := (hb6.frozen (p := ⟨w.heap.size, j, none⟩) hlt5).trans hfk
        have hO6 := hO3.below hlt5 hb6
        have hOs := hO6.set j true
        have hs6 := hb6.size
        have HO : Hid (Cells (w6.setCell ⟨w.heap.size, j, none⟩ (.bool true)) w.heap.size (O.set j true)) := hOs
        have H6 : Hid (val l6 = val (x.drop j) % D) := m3.trans HR.out
        clear hck hfk hO6 hO3 hOs m3 hO
        go_wp2_with fail
        go_roundw
        case rel => exact ⟨j, O.set j true, l6, rfl, by omega, by show _ = _; rw [List.length_set]; exact hOl.out, HO, fun i hi => (getD_set_ne O i j true (by omega)).trans (hOz.out i (by omega)), HQ, (m1.mono (by omega)).setCell (by simp) _, m2, H6, by simp; omega, ((hB.trans (hg.mono (by omega))).trans (hb6.mono (by omega))).setCell (by simp) _⟩
        case measure => simp [intOf]
      · have hcm : decide ((0 : Int) ≤ cmpI (val l4) (val y)) = false := by
          rw [H4.out, hD.out]; unfold cmpI; rw [if_pos (by omega)]; rfl
        obtain ⟨n1, n2⟩ := div_no (val (x.drop (j + 1))) (val rl) _ D b.toNat rfl hrv.out.symm (by omega) hD0.out
        have HQ : Hid (val (O.drop j) = val (x.drop j) / D) := by show _ = _; rw [hod.out, HX.out, n1, hOv.out]
        have HR : Hid (val l4 = val (x.drop j) % D) := by show _ = _; rw [HX.out, n2, H4.out]
        have HO : Hid (Cells w5 w.heap.size O) := hO3
        clear n1 n2 hge hOv hod hrv hO3 hO
        generalize cmpI (val l4) (val y) = cm at *
        go_wp2_with fail
        go_roundw
        case rel => exact ⟨j, O, l4, rfl, by omega, hOl, HO, fun i hi => hOz.out i (by omega), HQ, t1.mono (by omega), t2, HR, by omega, hB.trans (hg.mono (by omega))⟩
        case measure => simp [intOf]
end Go.Proofs.Ytkphchldoionjaa
