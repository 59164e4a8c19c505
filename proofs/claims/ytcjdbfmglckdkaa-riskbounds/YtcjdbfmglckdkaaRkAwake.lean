/-
  The statements' awake: the chapter's example holds.
-/
import Derived.Test.YtcjdbfmglckdkaaRkMove
import Derived.Test.YtcjdbfmglckdkaaRkNew
namespace Go.Proofs.Ytcjdbfmglckdkaa.RK
open Go.ChangeShapes Go.WideShapes Go.ChangeAt Go.RowKit Go.Lib

theorem BookAt.frame {w a : World} {B p g h : Nat} {b : Bk} (K : BookAt a B p g h b) {w' : World} (k : But (own p g h) a w') (hb : Below B w a) : Below B w w' :=
  hb.trans (k.below (Nat.le_trans K.lp (Nat.le_of_lt K.pt)) (fun i hi => by
    rcases hi with e | e | e
    · rw [e]; exact K.lp
    · rw [e]; exact K.lg
    · rw [e]; exact K.lh))
def bk0 : Bk := newB 1 (fun _ => 100) 2
def bk1 : Bk := resB bk0 0 0 60
def bk2 : Bk := resB bk1 0 1 50
def bk3 : Bk := resB bk2 0 1 40
def bk4 : Bk := stlB bk3 0 10
theorem awk1 : resE bk0 0 0 60 = 0 := by decide
theorem awk2 : resE bk1 0 1 50 = 170 := by decide
theorem awk3 : resE bk2 0 1 40 = 0 := by decide
theorem awk4 : stlE bk3 0 10 = 0 := by decide
theorem awk5 : used bk4 0 = 50 := by decide
theorem awk6 : bk4.D 0 = 10 := by decide
theorem awk7 : bk4.nA = 1 := by decide
set_option maxRecDepth 100000 in
set_option maxHeartbeats 2000000 in
theorem awake_any (w : World) : Calls Try.prog 7 #[] w fun e w' => e = .returned (.bool true) ∧ Below w.heap.size w w' := by
  have b0 := (Below.refl _ w).alloc (Nat.le_refl _) (.cells #[.int .i64 100] 3)
  have r0 : Row (w.alloc (.cells #[.int .i64 100] 3)) (.slice (some ⟨w.heap.size, 0, none⟩) 1 1) 1 (fun i => .int .i64 ((fun _ => 100 : Nat → Int) i)) :=
    ⟨_, _, rfl, Nat.le_refl _, by decide, fun i hi => ⟨_, _, rfl, by rw [show i = 0 by omega]; simp⟩⟩
  have F1 := new_in r0 (m := 2) (by omega) (by omega) (by omega) (by omega) w.heap.size b0.size
  obtain ⟨P, hP⟩ : ∃ P, P = (w.alloc (.cells #[.int .i64 100] 3)).heap.size + 2 := ⟨_, rfl⟩
  rw [← hP] at F1
  clear r0 hP
  have HB : Hid (Below w.heap.size w (w.alloc (.cells #[.int .i64 100] 3))) := b0
  clear b0
  go_enter Try.func7, Try.ntmps7
  go_wp2_with fail
  refine F1.mono ?_
  rintro e w1 ⟨B1, ⟨_, i, hi, hbad⟩ | ⟨rfl, _, K1, _⟩⟩
  · exact absurd hbad (by decide)
  have HB1 : Hid (Below w.heap.size w w1) := HB.out.trans (B1.mono HB.out.size)
  clear B1 F1 HB
  obtain ⟨g, h, K0⟩ : ∃ g h, BookAt w1 w.heap.size P g h bk0 := ⟨_, _, K1⟩
  clear K1
  have G0 := res_any K0 0 0 60
  rw [awk1] at G0
  go_wp2_with fail
  refine G0.mono ?_
  rintro e w2 ⟨rfl, M0, k0⟩
  have HB2 : Hid (Below w.heap.size w w2) := K0.frame k0 HB1.out
  have K1 : BookAt w2 w.heap.size P g h bk1 := M0
  clear M0 k0 K0 G0 HB1
  have G1 := res_any K1 0 1 50
  rw [awk2] at G1
  go_wp2_with fail
  refine G1.mono ?_
  rintro e w3 ⟨rfl, M1, k1⟩
  have HB3 : Hid (Below w.heap.size w w3) := K1.frame k1 HB2.out
  have K2 : BookAt w3 w.heap.size P g h bk2 := M1
  clear M1 k1 K1 G1 HB2
  have G2 := res_any K2 0 1 40
  rw [awk3] at G2
  go_wp2_with fail
  refine G2.mono ?_
  rintro e w4 ⟨rfl, M2, k2⟩
  have HB4 : Hid (Below w.heap.size w w4) := K2.frame k2 HB3.out
  have K3 : BookAt w4 w.heap.size P g h bk3 := M2
  clear M2 k2 K2 G2 HB3
  have G3 := stl_any K3 0 10
  rw [awk4] at G3
  go_wp2_with fail
  refine G3.mono ?_
  rintro e w5 ⟨rfl, M3, k3⟩
  have HB5 : Hid (Below w.heap.size w w5) := K3.frame k3 HB4.out
  have K4 : BookAt w5 w.heap.size P g h bk4 := M3
  clear M3 k3 K3 G3 HB4
  have G4 := used_yes K4 0 (by decide)
  rw [awk5] at G4
  go_wp2_with fail
  refine G4.mono ?_
  rintro e w6 ⟨rfl, k6⟩
  have HB6 : Hid (Below w.heap.size w w6) := K4.frame (But.of_below k6) HB5.out
  have K5 := K4.below k6
  clear k6 K4 G4 HB5
  have G5 := real_yes K5 0 (by decide)
  rw [awk6] at G5
  go_wp2_with fail
  refine G5.mono ?_
  rintro e w7 ⟨rfl, rfl⟩
  clear K5 G5
  go_wp2_with fail
  go_ret
  exact ⟨by simp, HB6.out⟩
end Go.Proofs.Ytcjdbfmglckdkaa.RK
