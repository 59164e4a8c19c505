/-
  The statements' awake: the chapter's example holds; contracts of the calls of a roster that is none.
-/
import Derived.Test.YtkmjkgmkbkkfdaaRosterSorted
namespace Go.Proofs.Ytkmjkgmkbkkfdaa
open Go.ChangeShapes Go.WideShapes Go.ChangeAt Go.RowKit Go.Lib

abbrev textA : ByteArray := { data := #[97] }
abbrev textB : ByteArray := { data := #[98] }
abbrev textC : ByteArray := { data := #[99] }
abbrev textE : ByteArray := { data := #[97, 61, 98] }
theorem vldA : vldB textA = true := by decide
theorem vldBb : vldB textB = true := by decide
theorem vldC : vldB textC = true := by decide
theorem vldE : vldB textE = false := by decide
theorem neAB : textA ≠ textB := by decide
theorem neCB : textC ≠ textB := by decide
theorem neCA : textC ≠ textA := by decide
def two4 : Nat → ByteArray := upd (fun _ => none4) 0 textB
theorem lt_two {i : Nat} (h : i < 2) : i = 0 ∨ i = 1 := by omega

set_option maxRecDepth 100000 in
set_option maxHeartbeats 2000000 in
theorem awake4_any (w : World) : Calls Try.prog 8 #[] w fun e w' => e = .returned (.bool true) ∧ Below w.heap.size w w' := by
  have F1 := new_yes 2 w (by omega) (by omega)
  have F2 := fun {w' S c L} (h : Ros w' (w.heap.size + 1) w.heap.size S c 2 (fun _ => none4) L) => put_ok h textB vldBb (fun _ _ e => vld_ne vldBb e.symm) 0 (by omega) rfl (fun j hj => absurd hj (by omega))
  have F3 := fun {w' S c L} (h : Ros w' (w.heap.size + 1) w.heap.size S c 2 two4 L) => put_ok h textA vldA (fun i hi e => by
    rcases lt_two hi with rfl | rfl
    · exact neAB e.symm
    · exact vld_ne vldA e.symm) 1 (by omega) rfl (fun j hj => by
    obtain rfl : j = 0 := by omega
    exact vld_ne vldBb)
  have F4 := fun {w' S c L} (h : Ros w' (w.heap.size + 1) w.heap.size S c 2 (upd two4 1 textA) L) => put_full h textC vldC (fun i hi e => by
    rcases lt_two hi with rfl | rfl
    · exact neCB e.symm
    · exact neCA e.symm) (fun i hi => by
    rcases lt_two hi with rfl | rfl
    · exact vld_ne vldBb
    · exact vld_ne vldA)
  have F5 := fun w => valid_any textE w
  rw [vldE] at F5
  go_enter Try.func8, Try.ntmps8
  go_wp2_with fail
  refine F1.mono ?_
  rintro e w1 ⟨rfl, R1, B1, s1⟩
  have z1 : w.heap.size ≤ w1.heap.size := by omega
  go_wp2_with fail
  refine (F2 R1).mono ?_
  rintro e w2 ⟨rfl, S2, c2, L2, R2, k2, o2⟩
  have B2 : Below w.heap.size w w2 := B1.trans (k2.below z1 (by rintro k (rfl | rfl | e); omega; omega; cases e))
  have z2 := B2.size
  have O2 : ∀ k, own (w.heap.size + 1) w.heap.size S2 k → w.heap.size ≤ k := fun k hk => by
    rcases o2 k hk with (rfl | rfl | e) | e
    · omega
    · omega
    · cases e
    · omega
  clear k2 o2 R1
  go_wp2_with fail
  refine (F3 R2).mono ?_
  rintro e w3 ⟨rfl, S3, c3, L3, R3, k3, o3⟩
  have B3 : Below w.heap.size w w3 := B2.trans (k3.below z2 O2)
  have z3 := B3.size
  clear k3 o3 R2
  go_wp2_with fail
  refine (F4 R3).mono ?_
  rintro e w4 ⟨rfl, hb4⟩
  have B4 : Below w.heap.size w w4 := B3.trans (hb4.mono z3)
  have z4 := B4.size
  clear hb4 R3
  go_wp2_with fail
  refine (F5 _).mono ?_
  rintro e w5 ⟨rfl, hb5⟩
  go_wp2_with fail
  go_ret
  exact ⟨rfl, B4.trans (hb5.mono z4)⟩

/-- No roster: nil, or one that New did not make. -/
def NoRos (w : World) (r : Value) : Prop := r = .pointer none ∨ ∃ p, r = .pointer (some ⟨p, 0, none⟩) ∧ w.cell? ⟨p, 1, none⟩ = some (.slice none 0 0)
theorem made_no {w : World} {r : Value} (h : NoRos w r) : Calls Try.prog 25 #[r] w fun e w' => e = .returned (.bool false) ∧ w' = w := by
  rcases h with rfl | ⟨p, rfl, hc⟩
  · exact made_none w
  · exact made_plain p 0 none w hc
theorem putN {w : World} {r : Value} (h : NoRos w r) (name : ByteArray) : Calls Try.prog 13 #[r, .string name] w fun e w' => e = .returned (.tuple #[.int .i64 0, .int .i64 1]) ∧ w' = w := by
  have F1 := made_no h
  go_enter Try.func13, Try.ntmps13
  go_wp2_with fail
  refine F1.mono ?_
  rintro e w1 ⟨rfl, rfl⟩
  go_wp2_with fail
  go_ret2
  exact ⟨rfl, rfl⟩
theorem findN {w : World} {r : Value} (h : NoRos w r) (name : ByteArray) : Calls Try.prog 17 #[r, .string name] w fun e w' => e = .returned (.tuple #[.int .i64 0, .bool false]) ∧ w' = w := by
  have F1 := made_no h
  go_enter Try.func17, Try.ntmps17
  go_wp2_with fail
  refine F1.mono ?_
  rintro e w1 ⟨rfl, rfl⟩
  go_wp2_with fail
  go_ret2
  exact ⟨rfl, rfl⟩
theorem nameN {w : World} {r : Value} (h : NoRos w r) (i : Int) : Calls Try.prog 19 #[r, .int .i64 i] w fun e w' => e = .returned (.tuple #[.string none4, .bool false]) ∧ w' = w := by
  have F1 := made_no h
  go_enter Try.func19, Try.ntmps19
  go_wp2_with fail
  refine F1.mono ?_
  rintro e w1 ⟨rfl, rfl⟩
  go_wp2_with fail
  go_ret2
  exact ⟨rfl, rfl⟩
theorem dropN {w : World} {r : Value} (h : NoRos w r) (name : ByteArray) : Calls Try.prog 15 #[r, .string name] w fun e w' => e = .returned (.int .i64 1) ∧ w' = w := by
  have F1 := made_no h
  go_enter Try.func15, Try.ntmps15
  go_wp2_with fail
  refine F1.mono ?_
  rintro e w1 ⟨rfl, rfl⟩
  go_wp2_with fail
  go_ret
  exact ⟨rfl, rfl⟩
theorem countN {w : World} {r : Value} (h : NoRos w r) : Calls Try.prog 21 #[r] w fun e w' => e = .returned (.int .i64 0) ∧ w' = w := by
  have F1 := made_no h
  go_enter Try.func21, Try.ntmps21
  go_wp2_with fail
  refine F1.mono ?_
  rintro e w1 ⟨rfl, rfl⟩
  go_wp2_with fail
  go_ret
  exact ⟨rfl, rfl⟩
theorem sortedN {w : World} {r : Value} (h : NoRos w r) : Calls Try.prog 23 #[r] w fun e w' => e = .returned (.slice none 0 0) ∧ w' = w := by
  have F1 := made_no h
  go_enter Try.func23, Try.ntmps23
  go_wp2_with fail
  refine F1.mono ?_
  rintro e w1 ⟨rfl, rfl⟩
  go_wp2_with fail
  go_ret
  exact ⟨rfl, rfl⟩
end Go.Proofs.Ytkmjkgmkbkkfdaa
