/-
  The statements' awake: the chapter's example holds.
-/
import Derived.Test.YtbmmokdccfajmaaPoMove
import Derived.Test.YtbmmokdccfajmaaPoNew
namespace Go.Proofs.Ytbmmokdccfajmaa.PO
open Go.ChangeShapes Go.WideShapes Go.ChangeAt Go.RowKit Go.Lib

/-- What changes only the rows of positions leaves all that is older than they are. -/
theorem PosAt.frame {w a w' : World} {B n : Nat} {b : Pk} {m : Nat} (K : PosAt a n b) (k : But (rows n m) a w') (hn : B ≤ n) (hb : Below B w a) : Below B w w' := by
  have h1 := K.lt (i := n) ⟨Nat.le_refl _, by omega⟩
  exact hb.trans (k.below (by omega) (fun i hi => by have := hi.1; omega))
def pk0 : Pk := newP 1 1
def pk1 : Pk := chB pk0 false 0 0 1 10 100
def pk2 : Pk := chB pk1 false 0 0 2 4 101
theorem awk1 : chE pk0 false 0 0 1 10 100 = 0 := by decide
theorem awk2 : chE pk1 false 0 0 2 4 101 = 0 := by decide
theorem awk3 : toQ pk2 0 0 2 = 4 := by decide
theorem awk4 : toW pk2 0 0 2 = 404 := by decide
theorem awk5 : toQ pk2 0 0 1 - toQ pk2 0 0 2 = 6 := by decide
set_option maxRecDepth 100000 in
set_option maxHeartbeats 2000000 in
theorem awake_any (w : World) : Calls Try.prog 6 #[] w fun e w' => e = .returned (.bool true) ∧ Below w.heap.size w w' := by
  have F1 := new_in 1 1 w (by omega) (by omega) (by omega) (by omega)
  obtain ⟨P, hP⟩ : ∃ P, Hid (w.heap.size = P) := ⟨_, rfl⟩
  rw [hP.out] at F1
  go_enter Try.func6, Try.ntmps6
  go_wp2_with fail
  refine F1.mono ?_
  rintro e w1 ⟨rfl, K1, B1, _⟩
  have HB1 : Hid (Below P w w1) := B1
  clear B1 F1
  have K0 : PosAt w1 P pk0 := K1
  clear K1
  have G0 := fill_any K0 0 0 1 10 100
  rw [awk1] at G0
  go_wp2_with fail
  refine G0.mono ?_
  rintro e w2 ⟨rfl, M0, k0⟩
  have HB2 : Hid (Below P w w2) := K0.frame k0 (Nat.le_refl _) HB1.out
  have K1 : PosAt w2 P pk1 := M0
  clear M0 k0 K0 G0 HB1
  have G1 := fill_any K1 0 0 2 4 101
  rw [awk2] at G1
  go_wp2_with fail
  refine G1.mono ?_
  rintro e w3 ⟨rfl, M1, k1⟩
  have HB3 : Hid (Below P w w3) := K1.frame k1 (Nat.le_refl _) HB2.out
  have K2 : PosAt w3 P pk2 := M1
  clear M1 k1 K1 G1 HB2
  have G2 := sold_any K2 0 0
  rw [awk3, awk4] at G2
  go_wp2_with fail
  refine G2.mono ?_
  rintro e w4 ⟨rfl, k2⟩
  have HB4 : Hid (Below P w w4) := K2.frame (But.of_below k2 (S := rows P 1)) (Nat.le_refl _) HB3.out
  have K3 := K2.below k2
  clear k2 K2 G2 HB3
  have G3 := net_any K3 0 0
  rw [awk5] at G3
  go_wp2_with fail
  refine G3.mono ?_
  rintro e w5 ⟨rfl, k3⟩
  have HB5 : Hid (Below P w w5) := K3.frame (But.of_below k3 (S := rows P 1)) (Nat.le_refl _) HB4.out
  clear k3 K3 G3 HB4
  go_wp2_with fail
  go_ret
  exact ⟨by simp, hP.out ▸ HB5.out⟩
end Go.Proofs.Ytbmmokdccfajmaa.PO
