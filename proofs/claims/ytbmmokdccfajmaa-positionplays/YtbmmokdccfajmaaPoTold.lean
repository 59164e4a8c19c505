/-
  Contracts of position's told, Bought, Sold, Net.
-/
import Derived.Test.YtbmmokdccfajmaaPoBook
namespace Go.Proofs.Ytbmmokdccfajmaa.PO
open Go.ChangeShapes Go.WideShapes Go.ChangeAt Go.RowKit Go.Lib

theorem to_no {b : Pk} {a s : Int} (h : hasB b a s = false) (d : Int) : toQ b a s d = 0 ∧ toW b a s d = 0 := by simp [toQ, toW, h]
theorem to_yes {b : Pk} {a s : Int} (h : hasB b a s = true) (d : Int) : toQ b a s d = vQ b a s d ∧ toW b a s d = vW b a s d := by simp [toQ, toW, h]
set_option maxRecDepth 100000 in
set_option maxHeartbeats 2000000 in
theorem told_no {w : World} {r : Value} {a s d : Int} (F : Calls Try.prog 29 #[r, .int .i64 a, .int .i64 s] w fun e w' => e = .returned (.bool false) ∧ w' = w) :
    Calls Try.prog 22 #[r, .int .i64 a, .int .i64 s, .int .i64 d] w fun e w' => e = .returned (.tuple #[.int .i64 0, .int .i64 0]) ∧ w' = w := by
  go_enter Try.func22, Try.ntmps22
  go_wp2_with fail
  refine F.mono ?_
  rintro e w1 ⟨rfl, rfl⟩
  go_wp2_with fail
  go_ret2
  exact ⟨rfl, rfl⟩
set_option maxRecDepth 100000 in
set_option maxHeartbeats 2000000 in
theorem told_yes {w : World} {n : Nat} {b : Pk} (K : PosAt w n b) (a s k : Nat) (ha : a < b.nA) (hs : s < b.nS) (hk : k ≤ 1) (d : Int) (hd : d - 1 = (k : Int)) :
    Calls Try.prog 22 #[.pointer (some ⟨n + 1, 0, none⟩), .int .i64 (a : Int), .int .i64 (s : Int), .int .i64 d] w fun e w' => e = .returned (.tuple #[.int .i64 (b.V a (s * 4 + k * 2)), .int .i64 (b.V a (s * 4 + k * 2 + 1))]) ∧ Below w.heap.size w w' := by
  have F := has_any K (a : Int) (s : Int)
  rw [show hasB b (a : Int) (s : Int) = true from (has_iff _ _ _).2 ⟨by omega, by omega, by omega, by omega⟩] at F
  have G := fun w => place_any d (by omega) (by omega) w
  rw [hd] at G
  have h0 := K.cA
  have h1 := K.cR a ha
  have c0 := K.cV a (s * 4 + k * 2) ha (by omega)
  have c1 := K.cV a (s * 4 + k * 2 + 1) ha (by omega)
  have a2 := K.good.a2
  have s2 := K.good.s2
  have t1 : (a : Int) < (b.nA : Int) := by omega
  have t2 : (s : Int) < (b.nS : Int) := by omega
  have t3 : (k : Int) < 2 := by omega
  clear K
  generalize b.V a (s * 4 + k * 2) = x at *
  generalize b.V a (s * 4 + k * 2 + 1) = y at *
  go_enter Try.func22, Try.ntmps22
  go_wp2_with fail
  refine F.mono ?_
  rintro e w1 ⟨rfl, rfl⟩
  go_wp2_with fail
  go_region_held3 (fun w' => w'.cell? ⟨n + 1, 0, none⟩ = some (.slice (some ⟨n, 0, none⟩) b.nA b.nA) ∧ w'.cell? ⟨n, a, none⟩ = some (.slice (some ⟨n + 2 + a, 0, none⟩) b.nS b.nS) ∧ w'.cell? ⟨n + 2 + a, s * 4 + k * 2, none⟩ = some (.int .i64 x) ∧ w'.cell? ⟨n + 2 + a, s * 4 + k * 2 + 1, none⟩ = some (.int .i64 y)) (go_keep) (first
    | (go_at_call 30; refine (G _).mono ?_; rintro e w6 ⟨rfl, rfl⟩))
  all_goals
    go_wp2_with fail
    go_quiet (fail)
    go_wp2_with fail
    go_ret2
    exact ⟨rfl, below_more ((Below.refl _ _).alloc (Nat.le_refl _) _).drew _⟩
theorem told_any {w : World} {n : Nat} {b : Pk} (K : PosAt w n b) (a s d : Int) (hd : d = 1 ∨ d = 2) :
    Calls Try.prog 22 #[.pointer (some ⟨n + 1, 0, none⟩), .int .i64 a, .int .i64 s, .int .i64 d] w fun e w' => e = .returned (.tuple #[.int .i64 (toQ b a s d), .int .i64 (toW b a s d)]) ∧ Below w.heap.size w w' := by
  cases h : hasB b a s
  · have F := has_any K a s
    rw [h] at F
    rw [(to_no h d).1, (to_no h d).2]
    refine (told_no F).mono ?_
    rintro e w1 ⟨rfl, rfl⟩
    exact ⟨rfl, Below.refl _ _⟩
  · rw [(to_yes h d).1, (to_yes h d).2]
    obtain ⟨h1, h2, h3, h4⟩ := (has_iff b a s).1 h
    obtain ⟨c, rfl⟩ := Int.eq_ofNat_of_zero_le h1
    obtain ⟨t, rfl⟩ := Int.eq_ofNat_of_zero_le h3
    exact told_yes K c t (d - 1).toNat (by omega) (by omega) (by omega) d (by omega)
theorem bought_on {w : World} {r : Value} {a s x y : Int} (F : Calls Try.prog 22 #[r, .int .i64 a, .int .i64 s, .int .i64 1] w fun e w' => e = .returned (.tuple #[.int .i64 x, .int .i64 y]) ∧ Below w.heap.size w w') :
    Calls Try.prog 11 #[r, .int .i64 a, .int .i64 s] w fun e w' => e = .returned (.tuple #[.int .i64 x, .int .i64 y]) ∧ Below w.heap.size w w' := by
  go_enter Try.func11, Try.ntmps11
  go_wp2_with fail
  refine F.mono ?_
  rintro e w1 ⟨rfl, hb⟩
  go_wp2_with fail
  go_ret2
  exact ⟨rfl, hb⟩
theorem bought_any {w : World} {n : Nat} {b : Pk} (K : PosAt w n b) (a s : Int) :
    Calls Try.prog 11 #[.pointer (some ⟨n + 1, 0, none⟩), .int .i64 a, .int .i64 s] w fun e w' => e = .returned (.tuple #[.int .i64 (toQ b a s 1), .int .i64 (toW b a s 1)]) ∧ Below w.heap.size w w' :=
  bought_on (told_any K a s 1 (by omega))
theorem boughtN {w : World} {r : Value} (h : NoPos w r) (a s : Int) :
    Calls Try.prog 11 #[r, .int .i64 a, .int .i64 s] w fun e w' => e = .returned (.tuple #[.int .i64 0, .int .i64 0]) ∧ Below w.heap.size w w' :=
  bought_on ((told_no (has_none h a s)).mono (by rintro e w1 ⟨rfl, rfl⟩; exact ⟨rfl, Below.refl _ _⟩))
theorem sold_on {w : World} {r : Value} {a s x y : Int} (F : Calls Try.prog 22 #[r, .int .i64 a, .int .i64 s, .int .i64 2] w fun e w' => e = .returned (.tuple #[.int .i64 x, .int .i64 y]) ∧ Below w.heap.size w w') :
    Calls Try.prog 12 #[r, .int .i64 a, .int .i64 s] w fun e w' => e = .returned (.tuple #[.int .i64 x, .int .i64 y]) ∧ Below w.heap.size w w' := by
  go_enter Try.func12, Try.ntmps12
  go_wp2_with fail
  refine F.mono ?_
  rintro e w1 ⟨rfl, hb⟩
  go_wp2_with fail
  go_ret2
  exact ⟨rfl, hb⟩
theorem sold_any {w : World} {n : Nat} {b : Pk} (K : PosAt w n b) (a s : Int) :
    Calls Try.prog 12 #[.pointer (some ⟨n + 1, 0, none⟩), .int .i64 a, .int .i64 s] w fun e w' => e = .returned (.tuple #[.int .i64 (toQ b a s 2), .int .i64 (toW b a s 2)]) ∧ Below w.heap.size w w' :=
  sold_on (told_any K a s 2 (by omega))
theorem soldN {w : World} {r : Value} (h : NoPos w r) (a s : Int) :
    Calls Try.prog 12 #[r, .int .i64 a, .int .i64 s] w fun e w' => e = .returned (.tuple #[.int .i64 0, .int .i64 0]) ∧ Below w.heap.size w w' :=
  sold_on ((told_no (has_none h a s)).mono (by rintro e w1 ⟨rfl, rfl⟩; exact ⟨rfl, Below.refl _ _⟩))
theorem net_on {w : World} {r : Value} {a s x y z u : Int} (hx : 0 ≤ x ∧ x ≤ 9223372036854775807) (hz : 0 ≤ z ∧ z ≤ 9223372036854775807)
    (F : Calls Try.prog 11 #[r, .int .i64 a, .int .i64 s] w fun e w' => e = .returned (.tuple #[.int .i64 x, .int .i64 y]) ∧ Below w.heap.size w w')
    (G : ∀ w', Below w.heap.size w w' → Calls Try.prog 12 #[r, .int .i64 a, .int .i64 s] w' fun e w'' => e = .returned (.tuple #[.int .i64 z, .int .i64 u]) ∧ Below w'.heap.size w' w'') :
    Calls Try.prog 13 #[r, .int .i64 a, .int .i64 s] w fun e w' => e = .returned (.int .i64 (x - z)) ∧ Below w.heap.size w w' := by
  go_enter Try.func13, Try.ntmps13
  go_wp2_with fail
  refine F.mono ?_
  rintro e w1 ⟨rfl, hb⟩
  have HB : Hid (Below w.heap.size w w1) := hb
  have G1 := G w1 hb
  clear G hb
  go_wp2_with fail
  refine G1.mono ?_
  rintro e w2 ⟨rfl, hb2⟩
  have HB2 : Hid (Below w.heap.size w w2) := HB.out.trans (hb2.mono HB.out.size)
  clear hb2
  go_wp2_with fail
  go_ret
  exact ⟨rfl, HB2.out⟩
theorem to_bounds {b : Pk} (g : Good b) (a s d : Int) (hd : d = 1 ∨ d = 2) : 0 ≤ toQ b a s d ∧ toQ b a s d ≤ 9223372036854775807 := by
  cases h : hasB b a s
  · rw [(to_no h d).1]; omega
  · rw [(to_yes h d).1]; exact (g.val h hd).1
theorem net_any {w : World} {n : Nat} {b : Pk} (K : PosAt w n b) (a s : Int) :
    Calls Try.prog 13 #[.pointer (some ⟨n + 1, 0, none⟩), .int .i64 a, .int .i64 s] w fun e w' => e = .returned (.int .i64 (toQ b a s 1 - toQ b a s 2)) ∧ Below w.heap.size w w' :=
  net_on (to_bounds K.good a s 1 (by omega)) (to_bounds K.good a s 2 (by omega)) (bought_any K a s) (fun _ hb => sold_any (K.below hb) a s)
theorem NoPos.below {w w' : World} {r : Value} (h : NoPos w r) (k : Below w.heap.size w w') : NoPos w' r := by
  rcases h with rfl | ⟨q, rfl, h⟩
  · exact .inl rfl
  · exact .inr ⟨q, rfl, by rw [k.cell (p := ⟨q, 0, none⟩) (World.block_lt_of_cell? _ _ h)]; exact h⟩
theorem netN {w : World} {r : Value} (h : NoPos w r) (a s : Int) :
    Calls Try.prog 13 #[r, .int .i64 a, .int .i64 s] w fun e w' => e = .returned (.int .i64 0) ∧ Below w.heap.size w w' :=
  net_on (x := 0) (z := 0) (by omega) (by omega) (boughtN h a s) (fun _ hb => soldN (h.below hb) a s)
end Go.Proofs.Ytbmmokdccfajmaa.PO
