/-
  Cells of a block; a child in memory; contracts of child's made, Open, Claim, Cover, Status, upTo.
-/
import Derived.Test.YtkkimkhkoiempaaChMath
import Derived.Test.YtkkimkhkoiempaaMaNext
import Derived.Test.YtkkimkhkoiempaaBut
namespace Go.Proofs.Ytkkimkhkoiempaa.CH
open Go.ChangeShapes Go.WideShapes Go.ChangeAt Go.RowKit Go.Lib MA

/-- Block b holds the k values that f tells, and may be written. -/
structure Box (k : Nat) (w : World) (b : Nat) (f : Nat → Value) : Prop where
  cell : ∀ j, j < k → w.cell? ⟨b, j, none⟩ = some (f j)
  fz : ∀ j, w.frozen? ⟨b, j, none⟩ = false
  lt : b < w.heap.size
theorem Box.kept {k : Nat} {w w' : World} {b : Nat} {f : Nat → Value} {S : Nat → Prop} (h : Box k w b f) (x : But S w w') (hS : ¬ S b) : Box k w' b f :=
  ⟨fun j hj => (x.cell h.lt hS).trans (h.cell j hj), fun j => (x.frozen h.lt hS).trans (h.fz j), Nat.lt_of_lt_of_le h.lt x.size⟩
theorem Box.below {k : Nat} {w w' : World} {b : Nat} {f : Nat → Value} (h : Box k w b f) (x : Below w.heap.size w w') : Box k w' b f := h.kept (S := fun _ => False) (But.of_below x) id
theorem Box.set {k : Nat} {w : World} {b : Nat} {f : Nat → Value} (h : Box k w b f) {i : Nat} (hi : i < k) (v : Value) : Box k (w.setCell ⟨b, i, none⟩ v) b (upd f i v) := by
  refine ⟨fun j hj => ?_, fun j => by rw [World.frozen?_setCell]; exact h.fz j, by simpa using h.lt⟩
  by_cases e : j = i
  · subst e
    rw [upd_same]
    exact World.cell?_setCell_same _ _ _ (h.cell j hj)
  · rw [upd_other _ _ e, World.cell?_setCell_other _ _ _ _ (by simp only [ne_eq, Addr.mk.injEq]; omega)]
    exact h.cell j hj
theorem Box.same {k : Nat} {w : World} {b : Nat} {f g : Nat → Value} (h : Box k w b f) (e : ∀ j, j < k → f j = g j) : Box k w b g :=
  ⟨fun j hj => by rw [← e j hj]; exact h.cell j hj, h.fz, h.lt⟩
/-- A child's cells. -/
def chF (x : Ch) : Nat → Value
  | 0 => .string x.id
  | 1 => .string x.ve
  | 2 => .int .i64 x.sd
  | 3 => .int .i64 x.st
  | 4 => .int .i64 x.q
  | 5 => .int .i64 x.p
  | 6 => .int .i64 x.nq
  | 7 => .int .i64 x.np
  | 8 => .int .i64 x.c
  | _ => .int .i64 0
/-- What is told of it, as a value; with the claim m. -/
abbrev tV (x : Ch) : Value := .agg #[.string x.id, .string x.ve, .int .i64 x.sd, .int .i64 x.st, .int .i64 x.q, .int .i64 x.p, .int .i64 x.nq, .int .i64 x.np, .int .i64 x.c]
abbrev sV (x : Ch) (m : Int) : Value := .agg #[.string x.id, .string x.ve, .int .i64 x.sd, .int .i64 x.st, .int .i64 x.q, .int .i64 x.p, .int .i64 x.nq, .int .i64 x.np, .int .i64 x.c, .int .i64 m]
/-- The child that is none. -/
def ch0 : Ch := ⟨⟨#[]⟩, ⟨#[]⟩, 0, 0, 0, 0, 0, 0, 0⟩
/-- The world holds a child at block n. -/
structure ChAt (w : World) (n : Nat) (x : Ch) : Prop where
  box : Box 9 w n (chF x)
  good : Good x
theorem ChAt.kept {w w' : World} {n : Nat} {x : Ch} {S : Nat → Prop} (h : ChAt w n x) (k : But S w w') (hS : ¬ S n) : ChAt w' n x := ⟨h.box.kept k hS, h.good⟩
theorem ChAt.below {w w' : World} {n : Nat} {x : Ch} (h : ChAt w n x) (k : Below w.heap.size w w') : ChAt w' n x := ⟨h.box.below k, h.good⟩
theorem ChAt.lt {w : World} {n : Nat} {x : Ch} (h : ChAt w n x) : n < w.heap.size := h.box.lt
/-- A child that is none. -/
def NoCh (w : World) (r : Value) : Prop := r = .pointer none ∨ ∃ q, r = .pointer (some ⟨q, 0, none⟩) ∧ w.cell? ⟨q, 3, none⟩ = some (.int .i64 0)
theorem NoCh.below {w w' : World} {r : Value} (h : NoCh w r) (k : Below w.heap.size w w') : NoCh w' r := by
  rcases h with rfl | ⟨q, rfl, h⟩
  · exact .inl rfl
  · exact .inr ⟨q, rfl, (k.cell (p := ⟨q, 3, none⟩) (World.block_lt_of_cell? _ _ h)).trans h⟩
theorem made_yes {w : World} {n : Nat} {x : Ch} (K : ChAt w n x) : Calls Try.prog 34 #[.pointer (some ⟨n, 0, none⟩)] w fun e w' => e = .returned (.bool true) ∧ w' = w := by
  have h3 : w.cell? ⟨n, 3, none⟩ = some (.int .i64 x.st) := K.box.cell 3 (by omega)
  have t : ¬ x.st = 0 := by have := K.good.s; omega
  have t1 : (x.st == 0) = false := beq_false_of_ne t
  have t2 : (x.st != 0) = true := by simp [bne, t1]
  clear K
  go_enter Try.func34, Try.ntmps34
  go_wp2
  go_ret
  exact ⟨rfl, rfl⟩
theorem made_no {w : World} {r : Value} (h : NoCh w r) : Calls Try.prog 34 #[r] w fun e w' => e = .returned (.bool false) ∧ w' = w := by
  rcases h with rfl | ⟨q, rfl, h⟩
  · go_enter Try.func34, Try.ntmps34
    go_wp2
    go_ret
    exact ⟨rfl, rfl⟩
  · go_enter Try.func34, Try.ntmps34
    go_wp2
    go_ret
    exact ⟨by simp, rfl⟩
theorem open_yes {w : World} {n : Nat} {x : Ch} (K : ChAt w n x) : Calls Try.prog 13 #[.pointer (some ⟨n, 0, none⟩)] w fun e w' => e = .returned (.bool (opB x.st)) ∧ w' = w := by
  have h3 : w.cell? ⟨n, 3, none⟩ = some (.int .i64 x.st) := K.box.cell 3 (by omega)
  have F := made_yes K
  have G := open_any x.st w
  generalize opB x.st = o at *
  clear K
  go_enter Try.func13, Try.ntmps13
  go_wp2_with fail
  refine F.mono ?_
  rintro e w1 ⟨rfl, rfl⟩
  go_wp2_with fail
  refine G.mono ?_
  rintro e w2 ⟨rfl, rfl⟩
  go_wp2_with fail
  go_ret
  exact ⟨rfl, rfl⟩
theorem openN {w : World} {r : Value} (h : NoCh w r) : Calls Try.prog 13 #[r] w fun e w' => e = .returned (.bool false) ∧ w' = w := by
  have F := made_no h
  clear h
  go_enter Try.func13, Try.ntmps13
  go_wp2_with fail
  refine F.mono ?_
  rintro e w1 ⟨rfl, rfl⟩
  go_wp2_with fail
  go_ret
  exact ⟨rfl, rfl⟩
theorem claimN {w : World} {r : Value} (h : NoCh w r) : Calls Try.prog 12 #[r] w fun e w' => e = .returned (.int .i64 0) ∧ ∃ m, w' = w.drewN m := by
  have F := openN h
  clear h
  go_enter Try.func12, Try.ntmps12
  go_wp2_with fail
  refine F.mono ?_
  rintro e w1 ⟨rfl, rfl⟩
  go_wp2_with fail
  go_ret
  exact ⟨rfl, 0, rfl⟩
set_option maxHeartbeats 4000000 in
theorem claim_yes {w : World} {n : Nat} {x : Ch} (K : ChAt w n x) : Calls Try.prog 12 #[.pointer (some ⟨n, 0, none⟩)] w fun e w' => e = .returned (.int .i64 (clm x)) ∧ ∃ m, w' = w.drewN m := by
  have F := open_yes K
  by_cases o : x.st ≤ 5
  · rw [clm_op o K.good]
    rw [(op_iff K.good).2 o] at F
    have h4 : w.cell? ⟨n, 4, none⟩ = some (.int .i64 x.q) := K.box.cell 4 (by omega)
    have h6 : w.cell? ⟨n, 6, none⟩ = some (.int .i64 x.nq) := K.box.cell 6 (by omega)
    have h8 : w.cell? ⟨n, 8, none⟩ = some (.int .i64 x.c) := K.box.cell 8 (by omega)
    have b1 : -1099511627776 ≤ max x.q x.nq - x.c ∧ max x.q x.nq - x.c ≤ 2199023255552 := by
      have := K.good.c
      have := K.good.q
      by_cases e : x.st = 5
      · have := K.good.n5 e; omega
      · have := K.good.n0 e; omega
    have hwr : IntKind.i64.wrap (max x.q x.nq - x.c) = max x.q x.nq - x.c := by rw [IntKind.wrap_i64]; omega
    clear K o
    generalize x.q = q at *
    generalize x.nq = nq at *
    generalize x.c = c at *
    go_enter Try.func12, Try.ntmps12
    go_wp2_with fail
    refine F.mono ?_
    rintro e w1 ⟨rfl, rfl⟩
    go_wp2_with fail
    go_quiet (fail)
    go_wp2_with fail
    go_ret
    exact ⟨rfl, _, rfl⟩
  · rw [clm_dn (by omega)]
    have e : opB x.st = false := Bool.eq_false_iff.2 (fun e => o ((op_iff K.good).1 e))
    rw [e] at F
    clear K e
    go_enter Try.func12, Try.ntmps12
    go_wp2_with fail
    refine F.mono ?_
    rintro e w1 ⟨rfl, rfl⟩
    go_wp2_with fail
    go_ret
    exact ⟨rfl, 0, rfl⟩
theorem coverN {w : World} {r : Value} (h : NoCh w r) : Calls Try.prog 15 #[r] w fun e w' => e = .returned (.int .i64 0) ∧ ∃ m, w' = w.drewN m := by
  have F := made_no h
  clear h
  go_enter Try.func15, Try.ntmps15
  go_wp2_with fail
  refine F.mono ?_
  rintro e w1 ⟨rfl, rfl⟩
  go_wp2_with fail
  go_ret
  exact ⟨rfl, 0, rfl⟩
set_option maxHeartbeats 4000000 in
theorem cover_yes {w : World} {n : Nat} {x : Ch} (K : ChAt w n x) : Calls Try.prog 15 #[.pointer (some ⟨n, 0, none⟩)] w fun e w' => e = .returned (.int .i64 (max x.p x.np)) ∧ ∃ m, w' = w.drewN m := by
  have F := made_yes K
  have h5 : w.cell? ⟨n, 5, none⟩ = some (.int .i64 x.p) := K.box.cell 5 (by omega)
  have h7 : w.cell? ⟨n, 7, none⟩ = some (.int .i64 x.np) := K.box.cell 7 (by omega)
  clear K
  generalize x.p = p at *
  generalize x.np = np at *
  go_enter Try.func15, Try.ntmps15
  go_wp2_with fail
  refine F.mono ?_
  rintro e w1 ⟨rfl, rfl⟩
  go_wp2_with fail
  go_quiet (fail)
  go_wp2_with fail
  go_ret
  exact ⟨rfl, _, rfl⟩
def upB (n m : Int) : Bool := decide (1 ≤ n) && decide (n ≤ m)
theorem up_iff (n m : Int) : upB n m = true ↔ 1 ≤ n ∧ n ≤ m := by
  unfold upB
  rw [Bool.and_eq_true, decide_eq_true_eq, decide_eq_true_eq]
theorem upTo_any (n m : Int) (w : World) : Calls Try.prog 22 #[.int .i64 n, .int .i64 m] w fun e w' => e = .returned (.bool (upB n m)) ∧ w = w' := by
  obtain ⟨z, hz⟩ : ∃ z, Hid (upB n m = z) := ⟨_, rfl⟩
  rw [hz.out]
  by_cases k : 1 ≤ n
  · have hq : Hid (z = decide (n ≤ m)) := by rw [← hz.out]; show upB n m = _; unfold upB; rw [decide_eq_true k, Bool.true_and]
    clear hz
    go_enter Try.func22, Try.ntmps22
    go_wp2_with fail
    go_ret
    exact ⟨by rw [hq.out]; rfl, rfl⟩
  · have hq : Hid (z = false) := by rw [← hz.out]; show upB n m = _; unfold upB; rw [decide_eq_false k, Bool.false_and]
    clear hz
    go_enter Try.func22, Try.ntmps22
    go_wp2_with fail
    go_ret
    exact ⟨by rw [hq.out]; rfl, rfl⟩
/-- A child's cells and its claim, one by one put into a block. -/
def put10 (w : World) (b : Nat) (x : Ch) (m : Int) : World := (((((((((w.setCell ⟨b, 0, none⟩ (.string x.id)).setCell ⟨b, 1, none⟩ (.string x.ve)).setCell ⟨b, 2, none⟩ (.int .i64 x.sd)).setCell ⟨b, 3, none⟩ (.int .i64 x.st)).setCell ⟨b, 4, none⟩ (.int .i64 x.q)).setCell ⟨b, 5, none⟩ (.int .i64 x.p)).setCell ⟨b, 6, none⟩ (.int .i64 x.nq)).setCell ⟨b, 7, none⟩ (.int .i64 x.np)).setCell ⟨b, 8, none⟩ (.int .i64 x.c)).setCell ⟨b, 9, none⟩ (.int .i64 m)
def put9 (w : World) (b : Nat) (x : Ch) : World := ((((((((w.setCell ⟨b, 0, none⟩ (.string x.id)).setCell ⟨b, 1, none⟩ (.string x.ve)).setCell ⟨b, 2, none⟩ (.int .i64 x.sd)).setCell ⟨b, 3, none⟩ (.int .i64 x.st)).setCell ⟨b, 4, none⟩ (.int .i64 x.q)).setCell ⟨b, 5, none⟩ (.int .i64 x.p)).setCell ⟨b, 6, none⟩ (.int .i64 x.nq)).setCell ⟨b, 7, none⟩ (.int .i64 x.np)).setCell ⟨b, 8, none⟩ (.int .i64 x.c)
/-- The cells with the claim. -/
def rfF (x : Ch) (m : Int) : Nat → Value := fun j => if j = 9 then .int .i64 m else chF x j
theorem Box.put10 {w : World} {b : Nat} {f : Nat → Value} (h : Box 10 w b f) (x : Ch) (m : Int) : Box 10 (CH.put10 w b x m) b (rfF x m) ∧ But (fun k => k = b) w (CH.put10 w b x m) := by
  refine ⟨?_, ?_⟩
  · refine ((((((((((h.set (i := 0) (by omega) _).set (i := 1) (by omega) _).set (i := 2) (by omega) _).set (i := 3) (by omega) _).set (i := 4) (by omega) _).set (i := 5) (by omega) _).set (i := 6) (by omega) _).set (i := 7) (by omega) _).set (i := 8) (by omega) _).set (i := 9) (by omega) _).same fun j hj => ?_
    rcases (show j = 0 ∨ j = 1 ∨ j = 2 ∨ j = 3 ∨ j = 4 ∨ j = 5 ∨ j = 6 ∨ j = 7 ∨ j = 8 ∨ j = 9 by omega) with rfl | rfl | rfl | rfl | rfl | rfl | rfl | rfl | rfl | rfl <;> rfl
  · exact ((((((((((But.refl (fun k => k = b) w).setCell b 0 _ (fun _ => rfl)).setCell b 1 _ (fun _ => rfl)).setCell b 2 _ (fun _ => rfl)).setCell b 3 _ (fun _ => rfl)).setCell b 4 _ (fun _ => rfl)).setCell b 5 _ (fun _ => rfl)).setCell b 6 _ (fun _ => rfl)).setCell b 7 _ (fun _ => rfl)).setCell b 8 _ (fun _ => rfl)).setCell b 9 _ (fun _ => rfl)
theorem Box.put9 {w : World} {b : Nat} {f : Nat → Value} (h : Box 9 w b f) (x : Ch) : Box 9 (CH.put9 w b x) b (chF x) ∧ But (fun k => k = b) w (CH.put9 w b x) := by
  refine ⟨?_, ?_⟩
  · refine (((((((((h.set (i := 0) (by omega) _).set (i := 1) (by omega) _).set (i := 2) (by omega) _).set (i := 3) (by omega) _).set (i := 4) (by omega) _).set (i := 5) (by omega) _).set (i := 6) (by omega) _).set (i := 7) (by omega) _).set (i := 8) (by omega) _).same fun j hj => ?_
    rcases (show j = 0 ∨ j = 1 ∨ j = 2 ∨ j = 3 ∨ j = 4 ∨ j = 5 ∨ j = 6 ∨ j = 7 ∨ j = 8 by omega) with rfl | rfl | rfl | rfl | rfl | rfl | rfl | rfl | rfl <;> rfl
  · exact (((((((((But.refl (fun k => k = b) w).setCell b 0 _ (fun _ => rfl)).setCell b 1 _ (fun _ => rfl)).setCell b 2 _ (fun _ => rfl)).setCell b 3 _ (fun _ => rfl)).setCell b 4 _ (fun _ => rfl)).setCell b 5 _ (fun _ => rfl)).setCell b 6 _ (fun _ => rfl)).setCell b 7 _ (fun _ => rfl)).setCell b 8 _ (fun _ => rfl)
end Go.Proofs.Ytkkimkhkoiempaa.CH
