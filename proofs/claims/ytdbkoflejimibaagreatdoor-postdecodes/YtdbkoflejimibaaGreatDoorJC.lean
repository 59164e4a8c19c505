/-
  A thing of layer 14 (Reply) in memory: its block, its value, two of them held against each other; the contract of isReply.
-/
import Derived.Test.YtdbkoflejimibaaGreatDoorJA
import Derived.Test.YtdbkoflejimibaaGreatDoorGA
namespace Go.Proofs.YtdbkoflejimibaaGreatDoor.PP.R
open Go.ChangeShapes Go.WideShapes Go.ChangeAt Go.RowKit Go.Lib

/-- Which places are names. -/
def nm (j : Nat) : Bool := j == 2 || j == 3 || j == 6
theorem ThAt.all {w : World} {b : Nat} {t : ThP} (h : ThAt nm w b t) : w.cell? ⟨b, 0, none⟩ = some (.int .i64 (t.2 0)) ∧ w.cell? ⟨b, 1, none⟩ = some (.int .i64 (t.2 1)) ∧ w.cell? ⟨b, 2, none⟩ = some (.string (t.1 2)) ∧ w.cell? ⟨b, 3, none⟩ = some (.string (t.1 3)) ∧ w.cell? ⟨b, 4, none⟩ = some (.int .i64 (t.2 4)) ∧ w.cell? ⟨b, 5, none⟩ = some (.int .i64 (t.2 5)) ∧ w.cell? ⟨b, 6, none⟩ = some (.string (t.1 6)) :=
  ⟨h.cell 0 (by omega), h.cell 1 (by omega), h.cell 2 (by omega), h.cell 3 (by omega), h.cell 4 (by omega), h.cell 5 (by omega), h.cell 6 (by omega)⟩
theorem ThAt.zero {w : World} {b : Nat} (h : ThAt nm w b (zeroT 0)) : w.cell? ⟨b, 0, none⟩ = some (.int .i64 0) ∧ w.cell? ⟨b, 1, none⟩ = some (.int .i64 0) ∧ w.cell? ⟨b, 2, none⟩ = some (.string ⟨#[]⟩) ∧ w.cell? ⟨b, 3, none⟩ = some (.string ⟨#[]⟩) ∧ w.cell? ⟨b, 4, none⟩ = some (.int .i64 0) ∧ w.cell? ⟨b, 5, none⟩ = some (.int .i64 0) ∧ w.cell? ⟨b, 6, none⟩ = some (.string ⟨#[]⟩) := ThAt.all h
/-- A new block that holds one. -/
abbrev boxT (w : World) (t : ThP) : World := w.alloc (.cells #[.int .i64 (t.2 0), .int .i64 (t.2 1), .string (t.1 2), .string (t.1 3), .int .i64 (t.2 4), .int .i64 (t.2 5), .string (t.1 6)] 32)
theorem box_below (w : World) (t : ThP) : Below w.heap.size w (boxT w t) := (Below.refl _ w).alloc (Nat.le_refl _) _
theorem box_at (w : World) (t : ThP) : ThAt nm (boxT w t) w.heap.size t := by
  refine ⟨fun j hj => ?_, fun j => by simp⟩
  rcases (show j = 0 ∨ j = 1 ∨ j = 2 ∨ j = 3 ∨ j = 4 ∨ j = 5 ∨ j = 6 by omega) with rfl | rfl | rfl | rfl | rfl | rfl | rfl <;> simp [cellT, nm]
/-- Its value. -/
def thV (t : ThP) : Value := .agg #[.int .i64 (t.2 0), .int .i64 (t.2 1), .string (t.1 2), .string (t.1 3), .int .i64 (t.2 4), .int .i64 (t.2 5), .string (t.1 6)]
/-- Two are the same. -/
def Same (t u : ThP) : Prop := t.2 0 = u.2 0 ∧ t.2 1 = u.2 1 ∧ t.1 2 = u.1 2 ∧ t.1 3 = u.1 3 ∧ t.2 4 = u.2 4 ∧ t.2 5 = u.2 5 ∧ t.1 6 = u.1 6
theorem Same.refl (t : ThP) : Same t t := ⟨rfl, rfl, rfl, rfl, rfl, rfl, rfl⟩
theorem Same.symm {t u : ThP} (h : Same t u) : Same u t := by
  obtain ⟨h0, h1, h2, h3, h4, h5, h6⟩ := h
  exact ⟨h0.symm, h1.symm, h2.symm, h3.symm, h4.symm, h5.symm, h6.symm⟩
theorem Same.trans {t u v : ThP} (h : Same t u) (k : Same u v) : Same t v := by
  obtain ⟨h0, h1, h2, h3, h4, h5, h6⟩ := h
  obtain ⟨k0, k1, k2, k3, k4, k5, k6⟩ := k
  exact ⟨h0.trans k0, h1.trans k1, h2.trans k2, h3.trans k3, h4.trans k4, h5.trans k5, h6.trans k6⟩
theorem Same.val {t u : ThP} (h : Same t u) : thV t = thV u := by
  obtain ⟨h0, h1, h2, h3, h4, h5, h6⟩ := h
  unfold thV
  rw [h0, h1, h2, h3, h4, h5, h6]
def sameB (t u : ThP) : Bool := decide (t.2 0 = u.2 0 ∧ t.2 1 = u.2 1 ∧ t.1 2 = u.1 2 ∧ t.1 3 = u.1 3 ∧ t.2 4 = u.2 4 ∧ t.2 5 = u.2 5 ∧ t.1 6 = u.1 6)
theorem same_iff {t u : ThP} : sameB t u = true ↔ Same t u := by
  unfold sameB
  rw [decide_eq_true_eq]
  exact Iff.rfl
/-- Nothing but the kind is set. -/
def zeroB (t : ThP) : Bool := sameB t (zeroT (t.2 0))
theorem bytes_iff (a b : ByteArray) : a.toList = b.toList ↔ a = b := by
  have h := beq_bytes a b
  constructor
  · intro e
    rw [e, beq_self_eq_true] at h
    exact of_decide_eq_true h.symm
  · intro e
    rw [e]
set_option maxRecDepth 100000 in
set_option maxHeartbeats 4000000 in
theorem th_eq (t u : ThP) (w : World) : (Op.equalIn 10000 32 (.agg #[.int .i64 (t.2 0), .int .i64 (t.2 1), .string (t.1 2), .string (t.1 3), .int .i64 (t.2 4), .int .i64 (t.2 5), .string (t.1 6)]) (.agg #[.int .i64 (u.2 0), .int .i64 (u.2 1), .string (u.1 2), .string (u.1 3), .int .i64 (u.2 4), .int .i64 (u.2 5), .string (u.1 6)])).run Tryz.prog w = .ok (sameB t u) w := by
  unfold sameB
  obtain ⟨t1, t2⟩ := t
  obtain ⟨u1, u2⟩ := u
  dsimp only
  have q2 : (t1 2).toList = (u1 2).toList ↔ t1 2 = u1 2 := bytes_iff _ _
  have q3 : (t1 3).toList = (u1 3).toList ↔ t1 3 = u1 3 := bytes_iff _ _
  have q6 : (t1 6).toList = (u1 6).toList ↔ t1 6 = u1 6 := bytes_iff _ _
  rw [show (10000 : Nat) = 9999 + 1 from rfl, run_equalIn_struct (P := Tryz.prog) w 9999 _ _ _ (by kernel_rfl) (by kernel_rfl)]
  simp [Program.fieldsOf, Tryz.underlying32, Op.eqFields, go_sem, Tryz.underlying3, Tryz.underlying9]
  simp only [q2, q3, q6]
  by_cases h0 : t2 0 = u2 0
  case neg => simp [h0]
  by_cases h1 : t2 1 = u2 1
  case neg => simp [h1]
  by_cases h2 : t1 2 = u1 2
  case neg => simp [h2]
  by_cases h3 : t1 3 = u1 3
  case neg => simp [h3]
  by_cases h4 : t2 4 = u2 4
  case neg => simp [h4]
  by_cases h5 : t2 5 = u2 5
  case neg => simp [h5]
  by_cases h6 : t1 6 = u1 6
  case neg => simp [h6]
  simp [h0, h1, h2, h3, h4, h5, h6]
set_option maxHeartbeats 1000000 in
theorem isKind_any (k : Int) (w : World) : Calls Tryz.prog 56 #[.int .i64 k] w fun e w' => e = .returned (.bool (decide (1 ≤ k ∧ k ≤ 7))) ∧ w' = w := by
  by_cases h1 : 1 ≤ k
  · by_cases h2 : k ≤ 7
    · rw [decide_eq_true ⟨h1, h2⟩]
      go_enter Tryz.func56, Tryz.ntmps56
      go_wp2
      go_ret
      exact ⟨rfl, rfl⟩
    · rw [decide_eq_false (fun h => h2 h.2)]
      go_enter Tryz.func56, Tryz.ntmps56
      go_wp2
      go_ret
      exact ⟨rfl, rfl⟩
  · rw [decide_eq_false (fun h => h1 h.1)]
    go_enter Tryz.func56, Tryz.ntmps56
    go_wp2
    go_ret
    exact ⟨rfl, rfl⟩
end Go.Proofs.YtdbkoflejimibaaGreatDoor.PP.R
/-
  The fields that a kind has (Reply), in the body's order (plain).
-/
namespace Go.Proofs.YtdbkoflejimibaaGreatDoor.PP.R
open Go.Lib

/-- The fields of a kind; the word of a report has the place 7, which no block holds. -/
def listK (k : Int) : List Pl :=
  if k = 7 then [⟨34, false, 1, 1, 1099511627776⟩, ⟨11, true, 2, 0, 0⟩]
  else if k = 5 then [⟨34, false, 1, 1, 1099511627776⟩, ⟨11, true, 2, 0, 0⟩, ⟨17, true, 3, 0, 0⟩, ⟨150, true, 7, 0, 0⟩, ⟨32, false, 4, 1, 1099511627776⟩, ⟨31, false, 5, 1, 1099511627776⟩]
  else if k = 6 then [⟨34, false, 1, 1, 1099511627776⟩, ⟨11, true, 2, 0, 0⟩, ⟨17, true, 3, 0, 0⟩, ⟨150, true, 7, 0, 0⟩, ⟨19, true, 6, 0, 0⟩]
  else [⟨34, false, 1, 1, 1099511627776⟩, ⟨11, true, 2, 0, 0⟩, ⟨17, true, 3, 0, 0⟩, ⟨150, true, 7, 0, 0⟩]
theorem listK_7 : listK 7 = [⟨34, false, 1, 1, 1099511627776⟩, ⟨11, true, 2, 0, 0⟩] := rfl
theorem listK_5 : listK 5 = [⟨34, false, 1, 1, 1099511627776⟩, ⟨11, true, 2, 0, 0⟩, ⟨17, true, 3, 0, 0⟩, ⟨150, true, 7, 0, 0⟩, ⟨32, false, 4, 1, 1099511627776⟩, ⟨31, false, 5, 1, 1099511627776⟩] := rfl
theorem listK_6 : listK 6 = [⟨34, false, 1, 1, 1099511627776⟩, ⟨11, true, 2, 0, 0⟩, ⟨17, true, 3, 0, 0⟩, ⟨150, true, 7, 0, 0⟩, ⟨19, true, 6, 0, 0⟩] := rfl
theorem listK_0 {k : Int} (h5 : k ≠ 5) (h6 : k ≠ 6) (h7 : k ≠ 7) : listK k = [⟨34, false, 1, 1, 1099511627776⟩, ⟨11, true, 2, 0, 0⟩, ⟨17, true, 3, 0, 0⟩, ⟨150, true, 7, 0, 0⟩] := by
  unfold listK
  rw [if_neg h7, if_neg h5, if_neg h6]
/-- Those that are looked at: all but the word of a report. -/
def rlist (k : Int) : List Pl :=
  if k = 7 then [⟨34, false, 1, 1, 1099511627776⟩, ⟨11, true, 2, 0, 0⟩]
  else if k = 5 then [⟨34, false, 1, 1, 1099511627776⟩, ⟨11, true, 2, 0, 0⟩, ⟨17, true, 3, 0, 0⟩, ⟨32, false, 4, 1, 1099511627776⟩, ⟨31, false, 5, 1, 1099511627776⟩]
  else if k = 6 then [⟨34, false, 1, 1, 1099511627776⟩, ⟨11, true, 2, 0, 0⟩, ⟨17, true, 3, 0, 0⟩, ⟨19, true, 6, 0, 0⟩]
  else [⟨34, false, 1, 1, 1099511627776⟩, ⟨11, true, 2, 0, 0⟩, ⟨17, true, 3, 0, 0⟩]
theorem rlist_7 : rlist 7 = [⟨34, false, 1, 1, 1099511627776⟩, ⟨11, true, 2, 0, 0⟩] := rfl
theorem rlist_5 : rlist 5 = [⟨34, false, 1, 1, 1099511627776⟩, ⟨11, true, 2, 0, 0⟩, ⟨17, true, 3, 0, 0⟩, ⟨32, false, 4, 1, 1099511627776⟩, ⟨31, false, 5, 1, 1099511627776⟩] := rfl
theorem rlist_6 : rlist 6 = [⟨34, false, 1, 1, 1099511627776⟩, ⟨11, true, 2, 0, 0⟩, ⟨17, true, 3, 0, 0⟩, ⟨19, true, 6, 0, 0⟩] := rfl
theorem rlist_0 {k : Int} (h5 : k ≠ 5) (h6 : k ≠ 6) (h7 : k ≠ 7) : rlist k = [⟨34, false, 1, 1, 1099511627776⟩, ⟨11, true, 2, 0, 0⟩, ⟨17, true, 3, 0, 0⟩] := by
  unfold rlist
  rw [if_neg h7, if_neg h5, if_neg h6]
theorem kinds (k : Int) : (k ≠ 5 ∧ k ≠ 6 ∧ k ≠ 7) ∨ k = 5 ∨ k = 6 ∨ k = 7 := by omega
theorem list_good (k : Int) : Good (listK k) := by
  unfold listK
  repeat' split
  all_goals exact ⟨by decide, by decide, by decide⟩
end Go.Proofs.YtdbkoflejimibaaGreatDoor.PP.R
/-
  Which of them are right (Reply), their bodies, how they are read again (plain).
-/
namespace Go.Proofs.YtdbkoflejimibaaGreatDoor.PP.R
open Go.Lib

/-- What the program says of one of a kind. -/
def rgtB (t : ThP) : Bool := (rgt (rlist (t.2 0)) true t).1 && zeroB (rgt (rlist (t.2 0)) true t).2
/-- What the program says of one. -/
def rightB (t : ThP) : Bool := decide (1 ≤ t.2 0 ∧ t.2 0 ≤ 7) && rgtB t
/-- One that is right. -/
structure RightP (t : ThP) : Prop where
  kind : 1 ≤ t.2 0 ∧ t.2 0 ≤ 7
  all : ∀ p ∈ rlist (t.2 0), p.okB t = true
  exec : t.2 0 = 7 → t.1 3 = noText
  trade : t.2 0 ≠ 5 → t.2 4 = 0 ∧ t.2 5 = 0
  bust : t.2 0 ≠ 6 → t.1 6 = noText
theorem right_iff (t : ThP) : rightB t = true ↔ RightP t := by
  unfold rightB rgtB
  by_cases hk : 1 ≤ t.2 0 ∧ t.2 0 ≤ 7
  · rw [decide_eq_true hk, Bool.true_and]
    rcases kinds (t.2 0) with ⟨n5, n6, n7⟩ | e | e | e
    · constructor
      · intro h
        rw [rlist_0 n5 n6 n7] at h
        simp [rgt, Pl.okB, Pl.clr, upd, zeroB, sameB, zeroT] at h
        refine ⟨hk, ?_, fun n => absurd n n7, fun _ => ?_, fun _ => ?_⟩
        · rw [rlist_0 n5 n6 n7]
          simp [Pl.okB]
          simp [h]
        · simp [h]
        · simp [h]
      · intro h
        have a := h.all
        have o := h.trade n5
        have u := h.bust n6
        rw [rlist_0 n5 n6 n7] at a ⊢
        simp [Pl.okB] at a
        simp [rgt, Pl.okB, Pl.clr, upd, zeroB, sameB, zeroT]
        simp [a, o, u]
    · constructor
      · intro h
        rw [e, rlist_5] at h
        simp [rgt, Pl.okB, Pl.clr, upd, zeroB, sameB, zeroT] at h
        refine ⟨hk, ?_, fun n => by omega, fun n => absurd e n, fun _ => ?_⟩
        · rw [e, rlist_5]
          simp [Pl.okB]
          simp [h]
        · simp [h]
      · intro h
        have a := h.all
        have u := h.bust (by omega)
        rw [e, rlist_5] at a ⊢
        simp [Pl.okB] at a
        simp [rgt, Pl.okB, Pl.clr, upd, zeroB, sameB, zeroT]
        simp [a, u]
    · constructor
      · intro h
        rw [e, rlist_6] at h
        simp [rgt, Pl.okB, Pl.clr, upd, zeroB, sameB, zeroT] at h
        refine ⟨hk, ?_, fun n => by omega, fun _ => ?_, fun n => absurd e n⟩
        · rw [e, rlist_6]
          simp [Pl.okB]
          simp [h]
        · simp [h]
      · intro h
        have a := h.all
        have o := h.trade (by omega)
        rw [e, rlist_6] at a ⊢
        simp [Pl.okB] at a
        simp [rgt, Pl.okB, Pl.clr, upd, zeroB, sameB, zeroT]
        simp [a, o]
    · constructor
      · intro h
        rw [e, rlist_7] at h
        simp [rgt, Pl.okB, Pl.clr, upd, zeroB, sameB, zeroT] at h
        refine ⟨hk, ?_, fun _ => ?_, fun _ => ?_, fun _ => ?_⟩
        · rw [e, rlist_7]
          simp [Pl.okB]
          simp [h]
        · simp [h]
        · simp [h]
        · simp [h]
      · intro h
        have a := h.all
        have x := h.exec e
        have o := h.trade (by omega)
        have u := h.bust (by omega)
        rw [e, rlist_7] at a ⊢
        simp [Pl.okB] at a
        simp [rgt, Pl.okB, Pl.clr, upd, zeroB, sameB, zeroT]
        simp [a, x, o, u]
  · rw [decide_eq_false hk, Bool.false_and]
    exact ⟨fun h => by simp at h, fun h => absurd h.kind hk⟩
/-- A report's word. -/
def wordK (k : Int) : ByteArray := if k = 1 then ⟨#[48]⟩ else if k = 2 then ⟨#[52]⟩ else if k = 3 then ⟨#[53]⟩ else if k = 4 then ⟨#[56]⟩ else if k = 5 then ⟨#[70]⟩ else if k = 6 then ⟨#[72]⟩ else ⟨#[]⟩
/-- The kind of report that a word says, or 0. -/
def kindOf (w : ByteArray) : Int := if w = ⟨#[48]⟩ then 1 else if w = ⟨#[52]⟩ then 2 else if w = ⟨#[53]⟩ then 3 else if w = ⟨#[56]⟩ then 4 else if w = ⟨#[70]⟩ then 5 else if w = ⟨#[72]⟩ then 6 else 0
theorem six {k : Int} (h : 1 ≤ k ∧ k ≤ 6) : k = 1 ∨ k = 2 ∨ k = 3 ∨ k = 4 ∨ k = 5 ∨ k = 6 := by omega
theorem kind_word {k : Int} (h : 1 ≤ k ∧ k ≤ 6) : kindOf (wordK k) = k := by
  rcases six h with rfl | rfl | rfl | rfl | rfl | rfl <;> decide
theorem kind_range (w : ByteArray) : 0 ≤ kindOf w ∧ kindOf w ≤ 6 := by
  unfold kindOf
  repeat' split
  all_goals omega
theorem kind_none : kindOf noText = 0 := by decide
theorem word_name {k : Int} (h : 1 ≤ k ∧ k ≤ 6) : vldB (wordK k) = true := by
  rcases six h with rfl | rfl | rfl | rfl | rfl | rfl <;> decide +kernel
/-- The word of the field 35. -/
def word35 (k : Int) : ByteArray := if k = 7 then ⟨#[57]⟩ else ⟨#[56]⟩
theorem word35_val (k : Int) : ValOk (word35 k).data.toList := by
  refine valB_true.1 ?_
  unfold word35
  split <;> decide +kernel
/-- With the word of a report at the place 7. -/
abbrev thick (t : ThP) (k : Int) : ThP := (upd t.1 7 (wordK k), t.2)
theorem RightP.thick {t : ThP} (R : RightP t) : ∀ p ∈ listK (t.2 0), p.okB (thick t (t.2 0)) = true := by
  have a := R.all
  have hk := R.kind
  rcases kinds (t.2 0) with ⟨n5, n6, n7⟩ | e | e | e
  · have v := word_name (k := t.2 0) (by omega)
    rw [rlist_0 n5 n6 n7] at a
    rw [listK_0 n5 n6 n7]
    simp [Pl.okB, upd] at a ⊢
    simp [a, v]
  · have v := word_name (k := 5) (by omega)
    rw [e, rlist_5] at a
    rw [e, listK_5]
    simp [Pl.okB, upd] at a ⊢
    simp [a, v]
  · have v := word_name (k := 6) (by omega)
    rw [e, rlist_6] at a
    rw [e, listK_6]
    simp [Pl.okB, upd] at a ⊢
    simp [a, v]
  · rw [e, rlist_7] at a
    rw [e, listK_7]
    simp [Pl.okB, upd] at a ⊢
    simp [a]
/-- What is asked for ahead of the word of a report. -/
abbrev head3 : List Pl := [⟨34, false, 1, 1, 1099511627776⟩, ⟨11, true, 2, 0, 0⟩, ⟨17, true, 3, 0, 0⟩]
abbrev rep1 : Pl := ⟨150, true, 7, 0, 0⟩
/-- What a form tells of the word of a report. -/
def said (l : List Fd) : ByteArray := gotN (x0F l) (head3.map Pl.want) 150
/-- What is asked for behind it. -/
def tailK (k : Int) : List Pl := if k = 5 then [⟨32, false, 4, 1, 1099511627776⟩, ⟨31, false, 5, 1, 1099511627776⟩] else if k = 6 then [⟨19, true, 6, 0, 0⟩] else []
theorem list_tail {k : Int} (h7 : k ≠ 7) : listK k = head3 ++ rep1 :: tailK k := by
  rcases kinds k with ⟨n5, n6, n7⟩ | e | e | e
  · rw [listK_0 n5 n6 n7]
    unfold tailK
    rw [if_neg n5, if_neg n6]
    rfl
  · rw [e]
    rfl
  · rw [e]
    rfl
  · exact absurd e h7
/-- The tag and the error's number of a body's fields. -/
def decE (l : List Fd) : Int × Int :=
  if textOf l 35 = ⟨#[57]⟩ then doneE (runS (x0F l) ((listK 7).map Pl.want)) (l.map Prod.fst)
  else if textOf l 35 = ⟨#[56]⟩ then (if said l ≠ noText ∧ kindOf (said l) = 0 then (150, 120) else doneE (runS (x0F l) ((listK (kindOf (said l))).map Pl.want)) (l.map Prod.fst))
  else (35, 120)
/-- The kind that a body's fields say. -/
def decK (l : List Fd) : Int := if textOf l 35 = ⟨#[57]⟩ then 7 else kindOf (said l)
theorem ask_name {L : Int → Option (ByteArray × Bool)} {e t : Int} (h : askV L e t nameVE id (⟨#[]⟩ : ByteArray) ≠ noText) : vldB (askV L e t nameVE id (⟨#[]⟩ : ByteArray)) = true := by
  unfold askV at *
  by_cases he : e = 0
  · rw [if_pos he] at h ⊢
    cases hL : L t with
    | none =>
      rw [hL] at h
      exact absurd rfl h
    | some q =>
      obtain ⟨s, b⟩ := q
      rw [hL] at h
      dsimp only at h ⊢
      by_cases hv : nameVE s = 0
      · rw [if_pos hv]
        unfold nameVE at hv
        by_cases v : vldB s = true
        · exact v
        · rw [if_neg v] at hv
          simp at hv
      · rw [if_neg hv] at h
        exact absurd rfl h
  · rw [if_neg he] at h
    exact absurd rfl h
/-- A form that has no error behind the word of a report told it. -/
theorem said_run {l : List Fd} {q : List Pl} (h : (runS (x0F l) ((head3 ++ rep1 :: q).map Pl.want)).2.2 = 0) : said l = textOf l 150 ∧ vldB (said l) = true := by
  have e : said l = textOf l 150 := by
    have h' := h
    rw [List.map_append, List.map_cons] at h'
    exact told_at (head3.map Pl.want) (150, .name) (q.map Pl.want) id (⟨#[]⟩ : ByteArray) h'
  refine ⟨e, ?_⟩
  rw [e]
  exact name_of (runS_fresh_ok _ h _ (List.mem_map.2 ⟨rep1, by simp, rfl⟩))
theorem vld_ne {s : ByteArray} (h : vldB s = true) : s ≠ noText := fun e => by
  rw [e] at h
  revert h
  decide +kernel
theorem dec_run {l : List Fd} (h : (decE l).2 = 0) : (1 ≤ decK l ∧ decK l ≤ 7) ∧ (runS (x0F l) ((listK (decK l)).map Pl.want)).2.2 = 0 ∧ decE l = (0, 0) ∧ (textOf l 35 ≠ ⟨#[57]⟩ → said l = textOf l 150 ∧ decK l = kindOf (textOf l 150) ∧ decK l ≤ 6) := by
  unfold decE decK at *
  by_cases e9 : textOf l 35 = ⟨#[57]⟩
  · rw [if_pos e9] at h ⊢
    rw [if_pos e9]
    obtain ⟨h1, h2, _⟩ := done_run h
    exact ⟨by omega, h1, h2, fun n => absurd e9 n⟩
  · rw [if_neg e9] at h ⊢
    rw [if_neg e9]
    by_cases e8 : textOf l 35 = ⟨#[56]⟩
    · rw [if_pos e8] at h ⊢
      by_cases c : said l ≠ noText ∧ kindOf (said l) = 0
      · rw [if_pos c] at h
        simp at h
      · rw [if_neg c] at h ⊢
        obtain ⟨h1, h2, _⟩ := done_run h
        have r := kind_range (said l)
        have h1' := h1
        rw [list_tail (by omega)] at h1'
        obtain ⟨s1, s2⟩ := said_run h1'
        have k0 : kindOf (said l) ≠ 0 := fun e => c ⟨vld_ne s2, e⟩
        exact ⟨by omega, h1, h2, fun _ => ⟨s1, by rw [s1], by omega⟩⟩
    · rw [if_neg e8] at h
      simp at h
/-- Its fields. -/
def fieldsT (t : ThP) : List Fd := fieldsG (word35 (t.2 0)) (listK (t.2 0)) (thick t (t.2 0))
/-- The tag and the error's number of a text. -/
def decT (l : List UInt8) : Int × Int := if readE l ≠ 0 then (0, (readE l : Int)) else decE (fieldsL l).1
/-- What a text says. -/
def decA (l : List UInt8) : ThP := if (decT l).2 = 0 then tolds (listK (decK (fieldsL l).1)) (fieldsL l).1 (zeroT (decK (fieldsL l).1)) else zeroT 0
theorem decT_zero {l : List UInt8} (h : (decT l).2 = 0) : decT l = (0, 0) ∧ readE l = 0 ∧ (decE (fieldsL l).1).2 = 0 := by
  unfold decT at *
  by_cases e : readE l = 0
  · rw [if_neg (by omega)] at h ⊢
    exact ⟨(dec_run h).2.2.1, e, h⟩
  · rw [if_pos e] at h
    dsimp only at h
    omega
/-- What a right one's body says is it. -/
theorem back {t : ThP} (R : RightP t) : Same (tolds (listK (t.2 0)) (fieldsT t) (zeroT (t.2 0))) t := by
  unfold fieldsT
  rw [told_sets (list_good _) R.thick]
  rcases kinds (t.2 0) with ⟨n5, n6, n7⟩ | e | e | e
  · have o := R.trade n5
    have u := R.bust n6
    rw [listK_0 n5 n6 n7]
    simp [Same, sets, zeroT, upd, o, u]
  · have u := R.bust (by omega)
    rw [e, listK_5]
    simp [Same, sets, zeroT, upd, e, u]
  · have o := R.trade (by omega)
    rw [e, listK_6]
    simp [Same, sets, zeroT, upd, e, o]
  · have x := R.exec e
    have o := R.trade (by omega)
    have u := R.bust (by omega)
    rw [e, listK_7]
    simp [Same, sets, zeroT, upd, e, x, o, u]
theorem dec_fields {t : ThP} (R : RightP t) : decE (fieldsT t) = (0, 0) ∧ decK (fieldsT t) = t.2 0 := by
  obtain ⟨_, _, h35⟩ := read_right (list_good (t.2 0)) (word35_val (t.2 0)) R.thick
  have hD : doneE (runS (x0F (fieldsT t)) ((listK (t.2 0)).map Pl.want)) ((fieldsT t).map Prod.fst) = (0, 0) := done_right (list_good (t.2 0)) R.thick
  have hr : (runS (x0F (fieldsT t)) ((listK (t.2 0)).map Pl.want)).2.2 = 0 := (done_run (by rw [hD])).1
  have hw : textOf (fieldsT t) 35 = word35 (t.2 0) := h35
  unfold decE decK
  by_cases e : t.2 0 = 7
  · rw [e, show word35 7 = ⟨#[57]⟩ from rfl] at hw
    rw [e] at hD
    rw [if_pos hw, if_pos hw, e]
    exact ⟨hD, rfl⟩
  · have h8 : word35 (t.2 0) = ⟨#[56]⟩ := by unfold word35; rw [if_neg e]
    rw [h8] at hw
    have n9 : ¬ textOf (fieldsT t) 35 = ⟨#[57]⟩ := by rw [hw]; decide
    have hr' := hr
    rw [list_tail e] at hr'
    have m : (⟨150, true, 7, 0, 0⟩ : Pl) ∈ listK (t.2 0) := by rw [list_tail e]; simp
    have tx : textOf (fieldsT t) 150 = wordK (t.2 0) := textOf_mem (fields_nodup (list_good (t.2 0)) _ _) (field_mem m)
    have sd := (said_run hr').1
    rw [tx] at sd
    have kw := kind_word (k := t.2 0) (by have := R.kind; omega)
    rw [if_neg n9, if_neg n9, if_pos hw, sd, kw, if_neg (fun c => by have := R.kind; omega)]
    exact ⟨hD, rfl⟩
/-- What fits is right. -/
theorem sound {k : Int} {l : List Fd} (hk : 1 ≤ k ∧ k ≤ 7) (h : ∀ w ∈ (listK k).map Pl.want, Fits (lookF l) w) : RightP (tolds (listK k) l (zeroT k)) := by
  have N : ∀ p ∈ listK k, _ := fun p hp => fits_told h hp
  clear h
  rcases kinds k with ⟨n5, n6, n7⟩ | rfl | rfl | rfl
  · rw [listK_0 n5 n6 n7] at N ⊢
    simp at N
    have z : (tolds [⟨34, false, 1, 1, 1099511627776⟩, ⟨11, true, 2, 0, 0⟩, ⟨17, true, 3, 0, 0⟩, ⟨150, true, 7, 0, 0⟩] l (zeroT k)).2 0 = k := rfl
    refine ⟨by rw [z]; exact hk, ?_, fun n => absurd (z.symm.trans n) n7, ?_, ?_⟩
    · rw [z, rlist_0 n5 n6 n7]
      simp [tolds, Pl.told, zeroT, upd, Pl.okB]
      simp [N]
    · simp [tolds, Pl.told, zeroT, upd]
    · simp [tolds, Pl.told, zeroT, upd]
  · rw [listK_5] at N ⊢
    simp at N
    have z : (tolds [⟨34, false, 1, 1, 1099511627776⟩, ⟨11, true, 2, 0, 0⟩, ⟨17, true, 3, 0, 0⟩, ⟨150, true, 7, 0, 0⟩, ⟨32, false, 4, 1, 1099511627776⟩, ⟨31, false, 5, 1, 1099511627776⟩] l (zeroT 5)).2 0 = 5 := rfl
    refine ⟨by rw [z]; exact hk, ?_, fun n => by omega, fun n => absurd z n, ?_⟩
    · rw [z, rlist_5]
      simp [tolds, Pl.told, zeroT, upd, Pl.okB]
      simp [N]
    · simp [tolds, Pl.told, zeroT, upd]
  · rw [listK_6] at N ⊢
    simp at N
    have z : (tolds [⟨34, false, 1, 1, 1099511627776⟩, ⟨11, true, 2, 0, 0⟩, ⟨17, true, 3, 0, 0⟩, ⟨150, true, 7, 0, 0⟩, ⟨19, true, 6, 0, 0⟩] l (zeroT 6)).2 0 = 6 := rfl
    refine ⟨by rw [z]; exact hk, ?_, fun n => by omega, ?_, fun n => absurd z n⟩
    · rw [z, rlist_6]
      simp [tolds, Pl.told, zeroT, upd, Pl.okB]
      simp [N]
    · simp [tolds, Pl.told, zeroT, upd]
  · rw [listK_7] at N ⊢
    simp at N
    have z : (tolds [⟨34, false, 1, 1, 1099511627776⟩, ⟨11, true, 2, 0, 0⟩] l (zeroT 7)).2 0 = 7 := rfl
    refine ⟨by rw [z]; exact hk, ?_, ?_, ?_, ?_⟩
    · rw [z, rlist_7]
      simp [tolds, Pl.told, zeroT, upd, Pl.okB]
      simp [N]
    · simp [tolds, Pl.told, zeroT, upd]
    · simp [tolds, Pl.told, zeroT, upd]
    · simp [tolds, Pl.told, zeroT, upd]
/-- What is encoded is decoded as it was. -/
theorem dec_right {t : ThP} (R : RightP t) : decT (cat (fieldsT t)) = (0, 0) ∧ Same (decA (cat (fieldsT t))) t := by
  obtain ⟨hf, hE, _⟩ := read_right (list_good (t.2 0)) (word35_val (t.2 0)) R.thick
  have hf' : fieldsL (cat (fieldsT t)) = (fieldsT t, (cat (fieldsT t)).length, 0) := hf
  have hE' : readE (cat (fieldsT t)) = 0 := hE
  obtain ⟨hD, hK⟩ := dec_fields R
  have hT : decT (cat (fieldsT t)) = (0, 0) := by
    unfold decT
    rw [if_neg (by omega), hf']
    exact hD
  refine ⟨hT, ?_⟩
  unfold decA
  rw [hT, if_pos rfl, hf']
  dsimp only
  rw [hK]
  exact back R
/-- What is decoded is right. -/
theorem dec_sound {l : List UInt8} (h : (decT l).2 = 0) : RightP (decA l) := by
  obtain ⟨_, _, h2⟩ := decT_zero h
  unfold decA
  rw [if_pos h]
  have r := dec_run h2
  exact sound r.1 (runS_fresh_ok _ r.2.1)
theorem Same.right {t u : ThP} (h : Same t u) (R : RightP t) : RightP u := by
  have key : ∀ v : ThP, rightB v = rightB (fun j => if nm j = true ∧ j < 7 then v.1 j else noText, fun j => if j < 7 ∧ nm j = false then v.2 j else 0) := by
    intro v
    unfold rightB rgtB
    dsimp only [nm]
    simp only [show ((0 : Nat) < 7 ∧ ((0 : Nat) == 2 || (0 : Nat) == 3 || (0 : Nat) == 6) = false) = True by decide, if_true]
    rcases kinds (v.2 0) with ⟨n5, n6, n7⟩ | e | e | e
    · rw [rlist_0 n5 n6 n7]; simp [rgt, Pl.okB, Pl.clr, upd, zeroB, sameB, zeroT]
    · rw [e, rlist_5]; simp [rgt, Pl.okB, Pl.clr, upd, zeroB, sameB, zeroT]
    · rw [e, rlist_6]; simp [rgt, Pl.okB, Pl.clr, upd, zeroB, sameB, zeroT]
    · rw [e, rlist_7]; simp [rgt, Pl.okB, Pl.clr, upd, zeroB, sameB, zeroT]
  rw [← right_iff] at R ⊢
  rw [key] at R ⊢
  obtain ⟨h0, h1, h2, h3, h4, h5, h6⟩ := h
  have e1 : (fun j => if nm j = true ∧ j < 7 then t.1 j else noText) = (fun j => if nm j = true ∧ j < 7 then u.1 j else noText) := by
    funext j
    by_cases c : nm j = true ∧ j < 7
    · rw [if_pos c, if_pos c]
      rcases (show j = 0 ∨ j = 1 ∨ j = 2 ∨ j = 3 ∨ j = 4 ∨ j = 5 ∨ j = 6 by omega) with rfl | rfl | rfl | rfl | rfl | rfl | rfl <;> first | assumption | (exfalso; revert c; decide)
    · rw [if_neg c, if_neg c]
  have e2 : (fun j => if j < 7 ∧ nm j = false then t.2 j else 0) = (fun j => if j < 7 ∧ nm j = false then u.2 j else 0) := by
    funext j
    by_cases c : j < 7 ∧ nm j = false
    · rw [if_pos c, if_pos c]
      rcases (show j = 0 ∨ j = 1 ∨ j = 2 ∨ j = 3 ∨ j = 4 ∨ j = 5 ∨ j = 6 by omega) with rfl | rfl | rfl | rfl | rfl | rfl | rfl <;> first | assumption | (exfalso; revert c; decide)
    · rw [if_neg c, if_neg c]
  rw [← e1, ← e2]
  exact R
end Go.Proofs.YtdbkoflejimibaaGreatDoor.PP.R
/-
  The table of the kinds' letters in memory; the contract of post's reportOf.
-/
namespace Go.Proofs.YtdbkoflejimibaaGreatDoor.PP.R
open Go.ChangeShapes Go.WideShapes Go.ChangeAt Go.RowKit Go.Lib

/-- Seven texts lie where the table of letters lies. -/
def Let7 (w : World) (l0 l1 l2 l3 l4 l5 l6 : ByteArray) : Prop := w.cell? ⟨1, 0, none⟩ = some (.string l0) ∧ w.cell? ⟨1, 1, none⟩ = some (.string l1) ∧ w.cell? ⟨1, 2, none⟩ = some (.string l2) ∧ w.cell? ⟨1, 3, none⟩ = some (.string l3) ∧ w.cell? ⟨1, 4, none⟩ = some (.string l4) ∧ w.cell? ⟨1, 5, none⟩ = some (.string l5) ∧ w.cell? ⟨1, 6, none⟩ = some (.string l6)
/-- The table of letters is laid. -/
def Let (w : World) : Prop := Let7 w ⟨#[]⟩ ⟨#[48]⟩ ⟨#[52]⟩ ⟨#[53]⟩ ⟨#[56]⟩ ⟨#[70]⟩ ⟨#[72]⟩
theorem Let7.below {w w' : World} {l0 l1 l2 l3 l4 l5 l6 : ByteArray} {n : Nat} (h : Let7 w l0 l1 l2 l3 l4 l5 l6) (hb : Below n w w') (hn : w.heap.size ≤ n) : Let7 w' l0 l1 l2 l3 l4 l5 l6 := by
  obtain ⟨h0, h1, h2, h3, h4, h5, h6⟩ := h
  have lt := Nat.lt_of_lt_of_le (World.block_lt_of_cell? _ _ h0) hn
  exact ⟨(hb.cell (p := ⟨1, 0, none⟩) lt).trans h0, (hb.cell (p := ⟨1, 1, none⟩) lt).trans h1, (hb.cell (p := ⟨1, 2, none⟩) lt).trans h2, (hb.cell (p := ⟨1, 3, none⟩) lt).trans h3, (hb.cell (p := ⟨1, 4, none⟩) lt).trans h4, (hb.cell (p := ⟨1, 5, none⟩) lt).trans h5, (hb.cell (p := ⟨1, 6, none⟩) lt).trans h6⟩
theorem Let.still {w w' : World} (h : Let w) (hb : Below w.heap.size w w') : Let w' := Let7.below h hb (Nat.le_refl _)
/-- The first of seven texts that is s, or 0. -/
def firstL (l0 l1 l2 l3 l4 l5 l6 s : ByteArray) : Nat := if l0 = s then 0 else if l1 = s then 1 else if l2 = s then 2 else if l3 = s then 3 else if l4 = s then 4 else if l5 = s then 5 else if l6 = s then 6 else 0
theorem first_kind (s : ByteArray) : ((firstL ⟨#[]⟩ ⟨#[48]⟩ ⟨#[52]⟩ ⟨#[53]⟩ ⟨#[56]⟩ ⟨#[70]⟩ ⟨#[72]⟩ s : Nat) : Int) = kindOf s := by
  have sw : ∀ a : ByteArray, (a = s) = (s = a) := fun a => propext ⟨Eq.symm, Eq.symm⟩
  unfold firstL kindOf
  simp only [sw]
  by_cases h0 : s = ⟨#[]⟩
  · subst h0
    decide
  rw [if_neg h0]
  repeat' split
  all_goals first | rfl | omega
set_option maxHeartbeats 4000000 in
theorem kindOf_at (l0 l1 l2 l3 l4 l5 l6 s : ByteArray) (w : World) (h : Let7 w l0 l1 l2 l3 l4 l5 l6) :
    Calls Tryz.prog 55 #[.string s] w fun e w' => e = .returned (.int .i64 (firstL l0 l1 l2 l3 l4 l5 l6 s : Nat)) ∧ w' = w := by
  obtain ⟨h0, h1, h2, h3, h4, h5, h6⟩ := h
  have i0 : ∀ (w : World), (Instr.index 92 (.agg #[.string l0, .string l1, .string l2, .string l3, .string l4, .string l5, .string l6]) (.int .i64 0)).run Tryz.prog w = .ok (.string l0) w := fun _ => by kernel_rfl
  have i1 : ∀ (w : World), (Instr.index 92 (.agg #[.string l0, .string l1, .string l2, .string l3, .string l4, .string l5, .string l6]) (.int .i64 1)).run Tryz.prog w = .ok (.string l1) w := fun _ => by kernel_rfl
  have i2 : ∀ (w : World), (Instr.index 92 (.agg #[.string l0, .string l1, .string l2, .string l3, .string l4, .string l5, .string l6]) (.int .i64 2)).run Tryz.prog w = .ok (.string l2) w := fun _ => by kernel_rfl
  have i3 : ∀ (w : World), (Instr.index 92 (.agg #[.string l0, .string l1, .string l2, .string l3, .string l4, .string l5, .string l6]) (.int .i64 3)).run Tryz.prog w = .ok (.string l3) w := fun _ => by kernel_rfl
  have i4 : ∀ (w : World), (Instr.index 92 (.agg #[.string l0, .string l1, .string l2, .string l3, .string l4, .string l5, .string l6]) (.int .i64 4)).run Tryz.prog w = .ok (.string l4) w := fun _ => by kernel_rfl
  have i5 : ∀ (w : World), (Instr.index 92 (.agg #[.string l0, .string l1, .string l2, .string l3, .string l4, .string l5, .string l6]) (.int .i64 5)).run Tryz.prog w = .ok (.string l5) w := fun _ => by kernel_rfl
  have i6 : ∀ (w : World), (Instr.index 92 (.agg #[.string l0, .string l1, .string l2, .string l3, .string l4, .string l5, .string l6]) (.int .i64 6)).run Tryz.prog w = .ok (.string l6) w := fun _ => by kernel_rfl
  have q0 := beq_bytes l0 s
  have q1 := beq_bytes l1 s
  have q2 := beq_bytes l2 s
  have q3 := beq_bytes l3 s
  have q4 := beq_bytes l4 s
  have q5 := beq_bytes l5 s
  have q6 := beq_bytes l6 s
  go_enter Tryz.func55, Tryz.ntmps55
  go_wp2_with fail
  go_loopw [6] (fun i wr => ∃ k : Nat, i = .int .i64 (k : Int) ∧ k ≤ 7 ∧ Hid ((0 < k → l0 ≠ s) ∧ (1 < k → l1 ≠ s) ∧ (2 < k → l2 ≠ s) ∧ (3 < k → l3 ≠ s) ∧ (4 < k → l4 ≠ s) ∧ (5 < k → l5 ≠ s) ∧ (6 < k → l6 ≠ s)) ∧ wr = w) (fun i _ => 7 - (RowKit.intOf i).toNat)
  case atStart => exact ⟨0, rfl, by omega, ⟨fun h => absurd h (by omega), fun h => absurd h (by omega), fun h => absurd h (by omega), fun h => absurd h (by omega), fun h => absurd h (by omega), fun h => absurd h (by omega), fun h => absurd h (by omega)⟩, rfl⟩
  case round =>
    obtain ⟨k, rfl, hk, HN, rfl⟩ := hrel
    rcases (show k = 0 ∨ k = 1 ∨ k = 2 ∨ k = 3 ∨ k = 4 ∨ k = 5 ∨ k = 6 ∨ k = 7 by omega) with rfl | rfl | rfl | rfl | rfl | rfl | rfl | rfl
    · by_cases h : l0 = s
      · rw [decide_eq_true h] at q0
        have HE : Hid (firstL l0 l1 l2 l3 l4 l5 l6 s = 0) := by
          have H := HN.out
          show firstL l0 l1 l2 l3 l4 l5 l6 s = 0
          unfold firstL
          rw [if_pos h]
        clear h HN
        go_wp2_with fail
        go_ret
        exact ⟨by rw [HE.out]; rfl, rfl⟩
      · rw [decide_eq_false h] at q0
        have HN2 : Hid ((0 < 1 → l0 ≠ s) ∧ (1 < 1 → l1 ≠ s) ∧ (2 < 1 → l2 ≠ s) ∧ (3 < 1 → l3 ≠ s) ∧ (4 < 1 → l4 ≠ s) ∧ (5 < 1 → l5 ≠ s) ∧ (6 < 1 → l6 ≠ s)) := ⟨fun _ => h, fun g => absurd g (by omega), fun g => absurd g (by omega), fun g => absurd g (by omega), fun g => absurd g (by omega), fun g => absurd g (by omega), fun g => absurd g (by omega)⟩
        clear h HN
        go_wp2_with fail
        go_roundw
        case rel => exact ⟨1, by first | rfl | simp, by omega, HN2, by first | trivial | rfl⟩
        case measure => simp [RowKit.intOf]
    · by_cases h : l1 = s
      · rw [decide_eq_true h] at q1
        have HE : Hid (firstL l0 l1 l2 l3 l4 l5 l6 s = 1) := by
          have H := HN.out
          show firstL l0 l1 l2 l3 l4 l5 l6 s = 1
          unfold firstL
          rw [if_neg (H.1 (by omega)), if_pos h]
        clear h HN
        go_wp2_with fail
        go_ret
        exact ⟨by rw [HE.out]; rfl, rfl⟩
      · rw [decide_eq_false h] at q1
        have HN2 : Hid ((0 < 2 → l0 ≠ s) ∧ (1 < 2 → l1 ≠ s) ∧ (2 < 2 → l2 ≠ s) ∧ (3 < 2 → l3 ≠ s) ∧ (4 < 2 → l4 ≠ s) ∧ (5 < 2 → l5 ≠ s) ∧ (6 < 2 → l6 ≠ s)) := ⟨fun _ => HN.out.1 (by omega), fun _ => h, fun g => absurd g (by omega), fun g => absurd g (by omega), fun g => absurd g (by omega), fun g => absurd g (by omega), fun g => absurd g (by omega)⟩
        clear h HN
        go_wp2_with fail
        go_roundw
        case rel => exact ⟨2, by first | rfl | simp, by omega, HN2, by first | trivial | rfl⟩
        case measure => simp [RowKit.intOf]
    · by_cases h : l2 = s
      · rw [decide_eq_true h] at q2
        have HE : Hid (firstL l0 l1 l2 l3 l4 l5 l6 s = 2) := by
          have H := HN.out
          show firstL l0 l1 l2 l3 l4 l5 l6 s = 2
          unfold firstL
          rw [if_neg (H.1 (by omega)), if_neg (H.2.1 (by omega)), if_pos h]
        clear h HN
        go_wp2_with fail
        go_ret
        exact ⟨by rw [HE.out]; rfl, rfl⟩
      · rw [decide_eq_false h] at q2
        have HN2 : Hid ((0 < 3 → l0 ≠ s) ∧ (1 < 3 → l1 ≠ s) ∧ (2 < 3 → l2 ≠ s) ∧ (3 < 3 → l3 ≠ s) ∧ (4 < 3 → l4 ≠ s) ∧ (5 < 3 → l5 ≠ s) ∧ (6 < 3 → l6 ≠ s)) := ⟨fun _ => HN.out.1 (by omega), fun _ => HN.out.2.1 (by omega), fun _ => h, fun g => absurd g (by omega), fun g => absurd g (by omega), fun g => absurd g (by omega), fun g => absurd g (by omega)⟩
        clear h HN
        go_wp2_with fail
        go_roundw
        case rel => exact ⟨3, by first | rfl | simp, by omega, HN2, by first | trivial | rfl⟩
        case measure => simp [RowKit.intOf]
    · by_cases h : l3 = s
      · rw [decide_eq_true h] at q3
        have HE : Hid (firstL l0 l1 l2 l3 l4 l5 l6 s = 3) := by
          have H := HN.out
          show firstL l0 l1 l2 l3 l4 l5 l6 s = 3
          unfold firstL
          rw [if_neg (H.1 (by omega)), if_neg (H.2.1 (by omega)), if_neg (H.2.2.1 (by omega)), if_pos h]
        clear h HN
        go_wp2_with fail
        go_ret
        exact ⟨by rw [HE.out]; rfl, rfl⟩
      · rw [decide_eq_false h] at q3
        have HN2 : Hid ((0 < 4 → l0 ≠ s) ∧ (1 < 4 → l1 ≠ s) ∧ (2 < 4 → l2 ≠ s) ∧ (3 < 4 → l3 ≠ s) ∧ (4 < 4 → l4 ≠ s) ∧ (5 < 4 → l5 ≠ s) ∧ (6 < 4 → l6 ≠ s)) := ⟨fun _ => HN.out.1 (by omega), fun _ => HN.out.2.1 (by omega), fun _ => HN.out.2.2.1 (by omega), fun _ => h, fun g => absurd g (by omega), fun g => absurd g (by omega), fun g => absurd g (by omega)⟩
        clear h HN
        go_wp2_with fail
        go_roundw
        case rel => exact ⟨4, by first | rfl | simp, by omega, HN2, by first | trivial | rfl⟩
        case measure => simp [RowKit.intOf]
    · by_cases h : l4 = s
      · rw [decide_eq_true h] at q4
        have HE : Hid (firstL l0 l1 l2 l3 l4 l5 l6 s = 4) := by
          have H := HN.out
          show firstL l0 l1 l2 l3 l4 l5 l6 s = 4
          unfold firstL
          rw [if_neg (H.1 (by omega)), if_neg (H.2.1 (by omega)), if_neg (H.2.2.1 (by omega)), if_neg (H.2.2.2.1 (by omega)), if_pos h]
        clear h HN
        go_wp2_with fail
        go_ret
        exact ⟨by rw [HE.out]; rfl, rfl⟩
      · rw [decide_eq_false h] at q4
        have HN2 : Hid ((0 < 5 → l0 ≠ s) ∧ (1 < 5 → l1 ≠ s) ∧ (2 < 5 → l2 ≠ s) ∧ (3 < 5 → l3 ≠ s) ∧ (4 < 5 → l4 ≠ s) ∧ (5 < 5 → l5 ≠ s) ∧ (6 < 5 → l6 ≠ s)) := ⟨fun _ => HN.out.1 (by omega), fun _ => HN.out.2.1 (by omega), fun _ => HN.out.2.2.1 (by omega), fun _ => HN.out.2.2.2.1 (by omega), fun _ => h, fun g => absurd g (by omega), fun g => absurd g (by omega)⟩
        clear h HN
        go_wp2_with fail
        go_roundw
        case rel => exact ⟨5, by first | rfl | simp, by omega, HN2, by first | trivial | rfl⟩
        case measure => simp [RowKit.intOf]
    · by_cases h : l5 = s
      · rw [decide_eq_true h] at q5
        have HE : Hid (firstL l0 l1 l2 l3 l4 l5 l6 s = 5) := by
          have H := HN.out
          show firstL l0 l1 l2 l3 l4 l5 l6 s = 5
          unfold firstL
          rw [if_neg (H.1 (by omega)), if_neg (H.2.1 (by omega)), if_neg (H.2.2.1 (by omega)), if_neg (H.2.2.2.1 (by omega)), if_neg (H.2.2.2.2.1 (by omega)), if_pos h]
        clear h HN
        go_wp2_with fail
        go_ret
        exact ⟨by rw [HE.out]; rfl, rfl⟩
      · rw [decide_eq_false h] at q5
        have HN2 : Hid ((0 < 6 → l0 ≠ s) ∧ (1 < 6 → l1 ≠ s) ∧ (2 < 6 → l2 ≠ s) ∧ (3 < 6 → l3 ≠ s) ∧ (4 < 6 → l4 ≠ s) ∧ (5 < 6 → l5 ≠ s) ∧ (6 < 6 → l6 ≠ s)) := ⟨fun _ => HN.out.1 (by omega), fun _ => HN.out.2.1 (by omega), fun _ => HN.out.2.2.1 (by omega), fun _ => HN.out.2.2.2.1 (by omega), fun _ => HN.out.2.2.2.2.1 (by omega), fun _ => h, fun g => absurd g (by omega)⟩
        clear h HN
        go_wp2_with fail
        go_roundw
        case rel => exact ⟨6, by first | rfl | simp, by omega, HN2, by first | trivial | rfl⟩
        case measure => simp [RowKit.intOf]
    · by_cases h : l6 = s
      · rw [decide_eq_true h] at q6
        have HE : Hid (firstL l0 l1 l2 l3 l4 l5 l6 s = 6) := by
          have H := HN.out
          show firstL l0 l1 l2 l3 l4 l5 l6 s = 6
          unfold firstL
          rw [if_neg (H.1 (by omega)), if_neg (H.2.1 (by omega)), if_neg (H.2.2.1 (by omega)), if_neg (H.2.2.2.1 (by omega)), if_neg (H.2.2.2.2.1 (by omega)), if_neg (H.2.2.2.2.2.1 (by omega)), if_pos h]
        clear h HN
        go_wp2_with fail
        go_ret
        exact ⟨by rw [HE.out]; rfl, rfl⟩
      · rw [decide_eq_false h] at q6
        have HN2 : Hid ((0 < 7 → l0 ≠ s) ∧ (1 < 7 → l1 ≠ s) ∧ (2 < 7 → l2 ≠ s) ∧ (3 < 7 → l3 ≠ s) ∧ (4 < 7 → l4 ≠ s) ∧ (5 < 7 → l5 ≠ s) ∧ (6 < 7 → l6 ≠ s)) := ⟨fun _ => HN.out.1 (by omega), fun _ => HN.out.2.1 (by omega), fun _ => HN.out.2.2.1 (by omega), fun _ => HN.out.2.2.2.1 (by omega), fun _ => HN.out.2.2.2.2.1 (by omega), fun _ => HN.out.2.2.2.2.2.1 (by omega), fun _ => h⟩
        clear h HN
        go_wp2_with fail
        go_roundw
        case rel => exact ⟨7, by first | rfl | simp, by omega, HN2, by first | trivial | rfl⟩
        case measure => simp [RowKit.intOf]
    · have HE : Hid (firstL l0 l1 l2 l3 l4 l5 l6 s = 0) := by
        have H := HN.out
        show firstL l0 l1 l2 l3 l4 l5 l6 s = 0
        unfold firstL
        rw [if_neg (H.1 (by omega)), if_neg (H.2.1 (by omega)), if_neg (H.2.2.1 (by omega)), if_neg (H.2.2.2.1 (by omega)), if_neg (H.2.2.2.2.1 (by omega)), if_neg (H.2.2.2.2.2.1 (by omega)), if_neg (H.2.2.2.2.2.2 (by omega))]
      clear HN
      go_wp2_with fail
      go_ret
      exact ⟨by rw [HE.out]; rfl, rfl⟩
theorem kindOf_any (s : ByteArray) (w : World) (h : Let w) :
    Calls Tryz.prog 55 #[.string s] w fun e w' => e = .returned (.int .i64 (kindOf s)) ∧ w' = w := by
  refine (kindOf_at ⟨#[]⟩ ⟨#[48]⟩ ⟨#[52]⟩ ⟨#[53]⟩ ⟨#[56]⟩ ⟨#[70]⟩ ⟨#[72]⟩ s w h).mono ?_
  rintro e w' ⟨rfl, rfl⟩
  rw [first_kind]
  exact ⟨rfl, rfl⟩
theorem Let7.of {w w' : World} (k : ∀ j, w'.cell? ⟨1, j, none⟩ = w.cell? ⟨1, j, none⟩) (h : Let w) : Let w' := by
  obtain ⟨h0, h1, h2, h3, h4, h5, h6⟩ := h
  exact ⟨(k 0).trans h0, (k 1).trans h1, (k 2).trans h2, (k 3).trans h3, (k 4).trans h4, (k 5).trans h5, (k 6).trans h6⟩
/-- The word of a kind in the table. -/
theorem Let.at {w : World} (h : Let w) {K : Nat} (hK : K < 7) : w.cell? ⟨1, K, none⟩ = some (.string (wordK (K : Int))) := by
  obtain ⟨h0, h1, h2, h3, h4, h5, h6⟩ := h
  rcases (show K = 0 ∨ K = 1 ∨ K = 2 ∨ K = 3 ∨ K = 4 ∨ K = 5 ∨ K = 6 by omega) with rfl | rfl | rfl | rfl | rfl | rfl | rfl
  · exact h0
  · exact h1
  · exact h2
  · exact h3
  · exact h4
  · exact h5
  · exact h6
end Go.Proofs.YtdbkoflejimibaaGreatDoor.PP.R
