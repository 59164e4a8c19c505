/-
  The statements' awake: the chapter's example holds.
-/
import Derived.Test.YthkohopnoifibaaSeMove
namespace Go.Proofs.Ythkohopnoifibaa.SE
open Go.ChangeShapes Go.WideShapes Go.ChangeAt Go.RowKit Go.Lib

abbrev txE : ByteArray := { data := #[101] }
abbrev txF : ByteArray := { data := #[102] }
def aw0 : Sn := newS 1
def aw1 : Sn := putS aw0 txE ⟨⟨#[99]⟩, 0, 0, false⟩
def aw2 : Sn := bstS aw1 txE
theorem awk1 : putE aw0 txE = 0 := by decide
theorem awk2 : putE aw1 txE = 41 := by decide
theorem awk3 : putE aw1 txF = 40 := by decide
theorem awk4 : bstE aw1 txE = 0 := by decide
theorem awk5 : bstE aw2 txE = 41 := by decide
set_option maxRecDepth 100000 in
set_option maxHeartbeats 4000000 in
theorem awake_any (w : World) : Calls Try.prog 6 #[] w fun e w' => e = .returned (.bool true) ∧ Below w.heap.size w w' := by
  have F1 := new_in 1 w (by omega) (by omega)
  obtain ⟨P, hP⟩ : ∃ P, Hid (w.heap.size = P) := ⟨_, rfl⟩
  rw [hP.out] at F1
  go_enter Try.func6, Try.ntmps6
  go_wp2_with fail
  refine F1.mono ?_
  rintro e w1 ⟨rfl, K1, B1, _⟩
  have HB1 : Hid (Below P w w1) := B1
  have K0 : SeenAt w1 P aw0 := K1
  clear B1 F1 K1
  have G0 := put_walk K0 txE (by decide) ⟨#[99]⟩ 0 0 false
  rw [awk1] at G0
  go_wp2_with fail
  refine G0.mono ?_
  rintro e w2 ⟨rfl, M0, k0⟩
  have HB2 : Hid (Below P w w2) := K0.frame k0 (Nat.le_refl _) HB1.out
  have K1 : SeenAt w2 P aw1 := M0
  clear M0 k0 K0 G0 HB1
  have G1 := put_walk K1 txE (by decide) ⟨#[]⟩ 0 0 false
  rw [putS_no (by rw [awk2]; omega), awk2] at G1
  go_wp2_with fail
  refine G1.mono ?_
  rintro e w3 ⟨rfl, M0, k0⟩
  have HB3 : Hid (Below P w w3) := K1.frame k0 (Nat.le_refl _) HB2.out
  clear k0 K1 G1 HB2
  have G1 := put_walk M0 txF (by decide) ⟨#[]⟩ 0 0 false
  rw [putS_no (by rw [awk3]; omega), awk3] at G1
  go_wp2_with fail
  refine G1.mono ?_
  rintro e w4 ⟨rfl, M1, k0⟩
  have HB4 : Hid (Below P w w4) := M0.frame k0 (Nat.le_refl _) HB3.out
  clear k0 M0 G1 HB3
  have G1 := bust_any M1 txE (by decide)
  rw [awk4] at G1
  go_wp2_with fail
  refine G1.mono ?_
  rintro e w5 ⟨rfl, M2, k0⟩
  have HB5 : Hid (Below P w w5) := M1.frame k0 (Nat.le_refl _) HB4.out
  have K2 : SeenAt w5 P aw2 := M2
  clear k0 M1 M2 G1 HB4
  have G1 := bust_any K2 txE (by decide)
  rw [awk5] at G1
  go_wp2_with fail
  refine G1.mono ?_
  rintro e w6 ⟨rfl, _, k0⟩
  have HB6 : Hid (Below P w w6) := K2.frame k0 (Nat.le_refl _) HB5.out
  clear k0 K2 G1 HB5
  go_wp2_with fail
  go_ret
  exact ⟨by simp, hP.out ▸ HB6.out⟩
end Go.Proofs.Ythkohopnoifibaa.SE
