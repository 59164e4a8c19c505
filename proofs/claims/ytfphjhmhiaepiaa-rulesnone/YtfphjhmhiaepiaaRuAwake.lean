/-
  The statements' Simple and awake of layer 15.
-/
import Derived.Test.YtfphjhmhiaepiaaRuTell
namespace Go.Proofs.Ytfphjhmhiaepiaa.RU
open Go.ChangeShapes Go.WideShapes Go.ChangeAt Go.RowKit Go.Lib SM

/-- The numbers of a thing, from place 1 on. -/
def nums (l : List Int) (j : Nat) : Int := l.getD (j - 1) 0
/-- The setup that Simple makes. -/
def simpleS : Stp := { nA := 1, nS := 1, nV := 1, A := fun _ => (⟨#[65]⟩, nums [1000000], false), S := fun _ => (⟨#[88]⟩, nums [10, 5, 1000, 100, 1000, 1000000], false), V := fun _ => (⟨#[86]⟩, nums [10, 0, 100], true), P := fun j => [2, 8, 50, 5, 4, 4].getD (j - 3) 0 }
/-- The setup of nothing. -/
def zeroS : Stp := { nA := 0, nS := 0, nV := 0, A := fun _ => (⟨#[]⟩, fun _ => 0, false), S := fun _ => (⟨#[]⟩, fun _ => 0, false), V := fun _ => (⟨#[]⟩, fun _ => 0, false), P := fun _ => 0 }
theorem simple_names : vldB ⟨#[65]⟩ = true ∧ vldB ⟨#[88]⟩ = true ∧ vldB ⟨#[86]⟩ = true := ⟨by decide, by decide, by decide⟩
theorem fresh_one {N : Nat → ByteArray} (h : vldB (N 0) = true) : ∀ i, i < 1 → freshB N i = true := by
  intro i hi
  obtain rfl : i = 0 := by omega
  unfold freshB
  rw [h]
  rfl
theorem simple_right : rightB simpleS = true := by
  obtain ⟨h1, h2, h3⟩ := simple_names
  have k1 : namesB (fun i => (simpleS.A i).1) simpleS.nA 16 = true := names_good rfl (fresh_one h1)
  have k2 : namesB (fun i => (simpleS.S i).1) simpleS.nS 16 = true := names_good rfl (fresh_one h2)
  have k3 : namesB (fun i => (simpleS.V i).1) simpleS.nV 8 = true := names_good rfl (fresh_one h3)
  unfold rightB nmsB
  rw [k1, k2, k3]
  decide
theorem zero_right : rightB zeroS = false := by
  unfold rightB nmsB
  rw [show namesB (fun i => (zeroS.A i).1) zeroS.nA 16 = false from names_count rfl]
  rfl
theorem zero_in (w : World) : SetIn w none none none 0 0 0 zeroS := ⟨RowA.none w _, RowS.none w _, RowV.none w _⟩
theorem simple_szs : Szs simpleS := ⟨fun i _ => by show (1 : Nat) ≤ _; omega, fun i _ => by show (1 : Nat) ≤ _; omega, fun i _ => by show (1 : Nat) ≤ _; omega⟩
set_option maxRecDepth 100000 in
set_option maxHeartbeats 4000000 in
theorem simple_any (w : World) :
    Calls Try.prog 16 #[] w fun e w' => ∃ a1 a2 a3 c1 c2 c3, e = .returned (.agg #[.slice a1 1 c1, .slice a2 1 c2, .slice a3 1 c3, .int .i64 2, .int .i64 8, .int .i64 50, .int .i64 5, .int .i64 4, .int .i64 4]) ∧ SetIn w' a1 a2 a3 c1 c2 c3 simpleS ∧ Below w.heap.size w w' := by
  go_enter Try.func16, Try.ntmps16
  go_wp2
  refine bodyPost_ret (v := .agg #[.slice (some ⟨w.heap.size + 1, 0, none⟩) 1 1, .slice (some ⟨w.heap.size + 1 + 1, 0, none⟩) 1 1, .slice (some ⟨w.heap.size + 1 + 1 + 1, 0, none⟩) 1 1, .int .i64 2, .int .i64 8, .int .i64 50, .int .i64 5, .int .i64 4, .int .i64 4]) (by simp [results, Try.results16, go_sem]) rfl ?_
  refine ⟨_, _, _, _, _, _, rfl, ⟨?_, ?_, ?_⟩, ?_⟩
  · refine ⟨_, _, rfl, Nat.le_refl _, by unfold maxLen; decide, fun i hi => ⟨_, _, rfl, ?_⟩⟩
    obtain rfl : i = 0 := by have : i < 1 := hi; omega
    refine ⟨?_, ?_⟩ <;> rw [World.cell?_alloc_past _ _ _ (by simp), World.cell?_alloc_past _ _ _ (by simp), World.cell?_alloc_at _ _ _ _ (by simp)] <;> rfl
  · refine ⟨_, _, rfl, Nat.le_refl _, by unfold maxLen; decide, fun i hi => ⟨_, _, rfl, ?_⟩⟩
    obtain rfl : i = 0 := by have : i < 1 := hi; omega
    refine ⟨?_, ?_, ?_, ?_, ?_, ?_, ?_⟩ <;> rw [World.cell?_alloc_past _ _ _ (by simp), World.cell?_alloc_at _ _ _ _ (by simp)] <;> rfl
  · refine ⟨_, _, rfl, Nat.le_refl _, by unfold maxLen; decide, fun i hi => ⟨_, _, rfl, ?_⟩⟩
    obtain rfl : i = 0 := by have : i < 1 := hi; omega
    refine ⟨?_, ?_, ?_, ?_, ?_⟩ <;> rw [World.cell?_alloc_at _ _ _ _ (by simp)] <;> rfl
  · exact ((((Below.refl _ _).alloc (Nat.le_refl _) _).alloc (by simp) _).alloc (by simp; omega) _).alloc (by simp; omega) _
set_option maxRecDepth 100000 in
set_option maxHeartbeats 4000000 in
theorem awake15_any (w : World) : Calls Try.prog 5 #[] w fun e w' => e = .returned (.bool true) ∧ Below w.heap.size w w' := by
  have F1 := simple_any w
  have F2 : ∀ {W : World} {a1 a2 a3 : Option Addr} {c1 c2 c3 : Nat}, SetIn W a1 a2 a3 c1 c2 c3 simpleS → Calls Try.prog 9 #[.agg #[.slice a1 1 c1, .slice a2 1 c2, .slice a3 1 c3, .int .i64 2, .int .i64 8, .int .i64 50, .int .i64 5, .int .i64 4, .int .i64 4]] W fun e w' => ∃ p x1 x2 x3 y1 y2 y3 m1 m2 m3, e = .returned (.tuple #[.pointer (some ⟨p, 0, none⟩), .int .i64 0]) ∧ RulAt W.heap.size w' p x1 x2 x3 y1 y2 y3 m1 m2 m3 simpleS ∧ Below W.heap.size W w' := fun h => new_good h simple_right simple_szs
  have F3 : ∀ {B p : Nat} {W : World} {x1 x2 x3 : Option Addr} {y1 y2 y3 m1 m2 m3 : Nat}, RulAt B W p x1 x2 x3 y1 y2 y3 m1 m2 m3 simpleS → Calls Try.prog 14 #[.pointer (some ⟨p, 0, none⟩), .int .i64 0] W fun e w' => e = .returned (.tuple #[.int .i64 990, .int .i64 1010]) ∧ Below W.heap.size W w' := fun h => band_in h 0 (by show 0 < 1; omega) (by decide)
  have F4 : ∀ W : World, Calls Try.prog 10 #[.agg #[.slice none 0 0, .slice none 0 0, .slice none 0 0, .int .i64 0, .int .i64 0, .int .i64 0, .int .i64 0, .int .i64 0, .int .i64 0]] W fun e w' => e = .returned (.int .i64 150) ∧ Below W.heap.size W w' := fun W => by
    have := check_any (zero_in W)
    rw [zero_right] at this
    exact this
  go_enter Try.func5, Try.ntmps5
  go_wp2_with fail
  refine F1.mono ?_
  rintro e w1 ⟨a1, a2, a3, c1, c2, c3, rfl, hI, b1⟩
  have G2 := F2 hI
  have HB1 : Hid (Below w.heap.size w w1) := b1
  clear F1 F2 hI b1
  go_wp2_with fail
  refine G2.mono ?_
  rintro e w2 ⟨p, x1, x2, x3, y1, y2, y3, m1, m2, m3, rfl, hR, b2⟩
  have G3 := F3 hR
  have HB2 : Hid (Below w.heap.size w w2) := HB1.out.trans (b2.mono HB1.out.size)
  clear G2 F3 hR b2
  go_wp2_with fail
  refine G3.mono ?_
  rintro e w3 ⟨rfl, b3⟩
  have HB3 : Hid (Below w.heap.size w w3) := HB2.out.trans (b3.mono HB2.out.size)
  clear G3 b3
  go_wp2_with fail
  refine (F4 _).mono ?_
  rintro e w4 ⟨rfl, b4⟩
  go_wp2_with fail
  go_ret
  exact ⟨rfl, HB3.out.trans (b4.mono HB3.out.size)⟩
end Go.Proofs.Ytfphjhmhiaepiaa.RU
