/-
  A thing of layer 14 (Order) in memory: its block, its value, two of them held against each other; the contract of isOrder.
-/
import Derived.Test.YtlgnbnojjfgfmaaPlaces
import Derived.Test.YtlgnbnojjfgfmaaOrder
namespace Go.Proofs.Ytlgnbnojjfgfmaa.PP.O
open Go.ChangeShapes Go.WideShapes Go.ChangeAt Go.RowKit Go.Lib

/-- Which places are names. -/
def nm (j : Nat) : Bool := j == 2 || j == 3
theorem ThAt.all {w : World} {b : Nat} {t : ThP} (h : ThAt nm w b t) : w.cell? ⟨b, 0, none⟩ = some (.int .i64 (t.2 0)) ∧ w.cell? ⟨b, 1, none⟩ = some (.int .i64 (t.2 1)) ∧ w.cell? ⟨b, 2, none⟩ = some (.string (t.1 2)) ∧ w.cell? ⟨b, 3, none⟩ = some (.string (t.1 3)) ∧ w.cell? ⟨b, 4, none⟩ = some (.int .i64 (t.2 4)) ∧ w.cell? ⟨b, 5, none⟩ = some (.int .i64 (t.2 5)) ∧ w.cell? ⟨b, 6, none⟩ = some (.int .i64 (t.2 6)) :=
  ⟨h.cell 0 (by omega), h.cell 1 (by omega), h.cell 2 (by omega), h.cell 3 (by omega), h.cell 4 (by omega), h.cell 5 (by omega), h.cell 6 (by omega)⟩
theorem ThAt.zero {w : World} {b : Nat} (h : ThAt nm w b (zeroT 0)) : w.cell? ⟨b, 0, none⟩ = some (.int .i64 0) ∧ w.cell? ⟨b, 1, none⟩ = some (.int .i64 0) ∧ w.cell? ⟨b, 2, none⟩ = some (.string ⟨#[]⟩) ∧ w.cell? ⟨b, 3, none⟩ = some (.string ⟨#[]⟩) ∧ w.cell? ⟨b, 4, none⟩ = some (.int .i64 0) ∧ w.cell? ⟨b, 5, none⟩ = some (.int .i64 0) ∧ w.cell? ⟨b, 6, none⟩ = some (.int .i64 0) := ThAt.all h
/-- A new block that holds one. -/
abbrev boxT (w : World) (t : ThP) : World := w.alloc (.cells #[.int .i64 (t.2 0), .int .i64 (t.2 1), .string (t.1 2), .string (t.1 3), .int .i64 (t.2 4), .int .i64 (t.2 5), .int .i64 (t.2 6)] 34)
theorem box_below (w : World) (t : ThP) : Below w.heap.size w (boxT w t) := (Below.refl _ w).alloc (Nat.le_refl _) _
theorem box_at (w : World) (t : ThP) : ThAt nm (boxT w t) w.heap.size t := by
  refine ⟨fun j hj => ?_, fun j => by simp⟩
  rcases (show j = 0 ∨ j = 1 ∨ j = 2 ∨ j = 3 ∨ j = 4 ∨ j = 5 ∨ j = 6 by omega) with rfl | rfl | rfl | rfl | rfl | rfl | rfl <;> simp [cellT, nm]
/-- Its value. -/
def thV (t : ThP) : Value := .agg #[.int .i64 (t.2 0), .int .i64 (t.2 1), .string (t.1 2), .string (t.1 3), .int .i64 (t.2 4), .int .i64 (t.2 5), .int .i64 (t.2 6)]
/-- Two are the same. -/
def Same (t u : ThP) : Prop := t.2 0 = u.2 0 ∧ t.2 1 = u.2 1 ∧ t.1 2 = u.1 2 ∧ t.1 3 = u.1 3 ∧ t.2 4 = u.2 4 ∧ t.2 5 = u.2 5 ∧ t.2 6 = u.2 6
theorem Same.refl (t : ThP) : Same t t := ⟨rfl, rfl, rfl, rfl, rfl, rfl, rfl⟩
theorem Same.symm {t u : ThP} (h : Same t u) : Same u t := by
  obtain ⟨h0, h1, h2, h3, h4, h5, h6⟩ := h
  exact ⟨h0.symm, h1.symm, h2.symm, h3.symm, h4.symm, h5.symm, h6.symm⟩
theorem Same.trans {t u v : ThP} (h : Same t u) (k : Same u v) : Same t v := by
  obtain ⟨h0, h1, h2, h3, h4, h5, h6⟩ := h
  obtain ⟨k0, k1, k2, k3, k4, k5, k6⟩ := k
  exact ⟨h0.trans k0, h1.trans k1, h2.trans k2, h3.trans k3, h4.trans k4, h5.trans k5, h6.trans k6⟩
theorem Same.val {t u : ThP} (h : Same t u) : thV t = thV u := by
  obtain ⟨h0, h1, h2, h3, h4, h5, h6⟩ := h
  unfold thV
  rw [h0, h1, h2, h3, h4, h5, h6]
def sameB (t u : ThP) : Bool := decide (t.2 0 = u.2 0 ∧ t.2 1 = u.2 1 ∧ t.1 2 = u.1 2 ∧ t.1 3 = u.1 3 ∧ t.2 4 = u.2 4 ∧ t.2 5 = u.2 5 ∧ t.2 6 = u.2 6)
theorem same_iff {t u : ThP} : sameB t u = true ↔ Same t u := by
  unfold sameB
  rw [decide_eq_true_eq]
  exact Iff.rfl
/-- Nothing but the kind is set. -/
def zeroB (t : ThP) : Bool := sameB t (zeroT (t.2 0))
theorem bytes_iff (a b : ByteArray) : a.toList = b.toList ↔ a = b := by
  have h := beq_bytes a b
  constructor
  · intro e
    rw [e, beq_self_eq_true] at h
    exact of_decide_eq_true h.symm
  · intro e
    rw [e]
set_option maxRecDepth 100000 in
set_option maxHeartbeats 4000000 in
theorem th_eq (t u : ThP) (w : World) : (Op.equalIn 10000 34 (.agg #[.int .i64 (t.2 0), .int .i64 (t.2 1), .string (t.1 2), .string (t.1 3), .int .i64 (t.2 4), .int .i64 (t.2 5), .int .i64 (t.2 6)]) (.agg #[.int .i64 (u.2 0), .int .i64 (u.2 1), .string (u.1 2), .string (u.1 3), .int .i64 (u.2 4), .int .i64 (u.2 5), .int .i64 (u.2 6)])).run Try.prog w = .ok (sameB t u) w := by
  unfold sameB
  obtain ⟨t1, t2⟩ := t
  obtain ⟨u1, u2⟩ := u
  dsimp only
  have q2 : (t1 2).toList = (u1 2).toList ↔ t1 2 = u1 2 := bytes_iff _ _
  have q3 : (t1 3).toList = (u1 3).toList ↔ t1 3 = u1 3 := bytes_iff _ _
  rw [show (10000 : Nat) = 9999 + 1 from rfl, run_equalIn_struct (P := Try.prog) w 9999 _ _ _ (by kernel_rfl) (by kernel_rfl)]
  simp [Program.fieldsOf, Try.underlying34, Op.eqFields, go_sem, Try.underlying3, Try.underlying9]
  simp only [q2, q3]
  by_cases h0 : t2 0 = u2 0
  case neg => simp [h0]
  by_cases h1 : t2 1 = u2 1
  case neg => simp [h1]
  by_cases h2 : t1 2 = u1 2
  case neg => simp [h2]
  by_cases h3 : t1 3 = u1 3
  case neg => simp [h3]
  by_cases h4 : t2 4 = u2 4
  case neg => simp [h4]
  by_cases h5 : t2 5 = u2 5
  case neg => simp [h5]
  by_cases h6 : t2 6 = u2 6
  case neg => simp [h6]
  simp [h0, h1, h2, h3, h4, h5, h6]
set_option maxHeartbeats 1000000 in
theorem isKind_any (k : Int) (w : World) : Calls Try.prog 33 #[.int .i64 k] w fun e w' => e = .returned (.bool (decide (1 ≤ k ∧ k ≤ 3))) ∧ w' = w := by
  by_cases h1 : 1 ≤ k
  · by_cases h2 : k ≤ 3
    · rw [decide_eq_true ⟨h1, h2⟩]
      go_enter Try.func33, Try.ntmps33
      go_wp2
      go_ret
      exact ⟨rfl, rfl⟩
    · rw [decide_eq_false (fun h => h2 h.2)]
      go_enter Try.func33, Try.ntmps33
      go_wp2
      go_ret
      exact ⟨rfl, rfl⟩
  · rw [decide_eq_false (fun h => h1 h.1)]
    go_enter Try.func33, Try.ntmps33
    go_wp2
    go_ret
    exact ⟨rfl, rfl⟩
end Go.Proofs.Ytlgnbnojjfgfmaa.PP.O
