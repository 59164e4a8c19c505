/-
  Contract of the statements' awake.
-/
import Derived.Test.YtbjibmfehphffaaRoSplit
namespace Go.Proofs.Ytbjibmfehphffaa.RO
open Go.ChangeShapes Go.WideShapes Go.ChangeAt Go.RowKit Go.Proofs.Ytbjibmfehphffaa.ST

def exO (i : Nat) : Of := if i = 0 then ⟨0, 10, 2, 30, true⟩ else ⟨1, 20, 1, 25, true⟩
theorem exO_ranked : Ranked exO 2 (sw id 0 1) := by
  refine ⟨Pm.sw id (by omega) (by omega) (by omega) (by omega) (by omega), fun k l h1 h2 h3 => ?_⟩
  obtain rfl : k = 0 := by omega
  obtain rfl : l = 1 := by omega
  rw [sw_i id (by omega), sw_j]
  exact .inl rfl
theorem exO_list {f : Nat → Nat} (h : Ranked exO 2 f) : listO (fun k => exO (f k)) 2 = [exO 1, exO 0] := by
  have e := h.one exO_ranked
  have e0 := e 0 (by omega)
  have e1 := e 1 (by omega)
  rw [sw_i id (by omega)] at e0
  rw [sw_j] at e1
  show [exO (f 0), exO (f 1)] = _
  rw [e0, e1]
  rfl
theorem exO_split : splitL 50 10 [exO 1, exO 0] = [⟨1, 20⟩, ⟨0, 30⟩] := by kernel_rfl
theorem exO_right : spE 50 10 2 exO = 0 := by kernel_rfl
theorem piece_eq (a b c d : Int) (w : World) : (Op.equalIn 10000 45 (.agg #[.int .i64 a, .int .i64 b]) (.agg #[.int .i64 c, .int .i64 d])).run Try.prog w = .ok (decide (a = c ∧ b = d)) w := by
  rw [show (10000 : Nat) = 9999 + 1 from rfl, run_equalIn_struct (P := Try.prog) w 9999 _ _ _ (by kernel_rfl) (by kernel_rfl)]
  simp [Program.fieldsOf, Try.underlying45, Op.eqFields, go_sem, Try.underlying3]
  by_cases h1 : a = c <;> by_cases h2 : b = d <;> simp [h1, h2]
theorem awake_any (w : World) : Calls Try.prog 8 #[] w fun e w' => e = .returned (.bool true) ∧ Below w.heap.size w w' := by
  have R : ∀ W : World, W = w.alloc (.cells #[.int .i64 0, .int .i64 10, .int .i64 2, .int .i64 30, .bool true, .int .i64 1, .int .i64 20, .int .i64 1, .int .i64 25, .bool true] 35) → RowL W (.slice (some ⟨w.heap.size, 0, none⟩) 2 2) 2 exO := by
    rintro W rfl
    refine ⟨_, _, rfl, by omega, fun i hi => ⟨_, _, rfl, fun j hj => ?_⟩⟩
    rcases (show i = 0 ∨ i = 1 by omega) with rfl | rfl <;> rcases (show j = 0 ∨ j = 1 ∨ j = 2 ∨ j = 3 ∨ j = 4 by omega) with rfl | rfl | rfl | rfl | rfl <;> simp [exO, cO]
  have F := split_good 50 10 2 exO _ _ (R _ rfl) exO_right
  have E1 := fun w => piece_eq 1 20 1 20 w
  have E2 := fun w => piece_eq 0 30 0 30 w
  rw [decide_eq_true ⟨rfl, rfl⟩] at E1 E2
  go_enter Try.func8, Try.ntmps8
  go_wp2_with fail
  refine F.mono ?_
  rintro e w1 ⟨f, v1, rfl, HF⟩
  have h1 := HF.out.2.1
  rw [exO_list HF.out.1, exO_split] at h1
  have hB : Below w.heap.size w w1 := ((Below.refl _ _).alloc (Nat.le_refl _) _).trans (HF.out.2.2.mono (by simp))
  have hcs := fun g hg => h1.cells (g := g) hg
  rcases h1.2 with ⟨_, e0⟩ | ⟨g, cap, cur, rfl, hb, hg, _⟩
  · exact absurd e0 (by decide)
  have c0 := hcs g rfl 0 (.int .i64 1) rfl
  have c1 := hcs g rfl 1 (.int .i64 20) rfl
  have c2 := hcs g rfl 2 (.int .i64 0) rfl
  have c3 := hcs g rfl 3 (.int .i64 30) rfl
  rw [Addr.add_lit, Nat.zero_add] at c0 c1 c2 c3
  clear hcs hg h1 HF F R
  go_wp2_with fail
  go_ret
  exact ⟨rfl, hB⟩
end Go.Proofs.Ytbjibmfehphffaa.RO
