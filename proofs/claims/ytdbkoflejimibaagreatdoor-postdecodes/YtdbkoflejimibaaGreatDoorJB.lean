/-
  A thing of layer 14 (Order) in memory: its block, its value, two of them held against each other; the contract of isOrder.
-/
import Derived.Test.YtdbkoflejimibaaGreatDoorJA
import Derived.Test.YtdbkoflejimibaaGreatDoorGA
namespace Go.Proofs.YtdbkoflejimibaaGreatDoor.PP.O
open Go.ChangeShapes Go.WideShapes Go.ChangeAt Go.RowKit Go.Lib

/-- Which places are names. -/
def nm (j : Nat) : Bool := j == 2 || j == 3
theorem ThAt.all {w : World} {b : Nat} {t : ThP} (h : ThAt nm w b t) : w.cell? ⟨b, 0, none⟩ = some (.int .i64 (t.2 0)) ∧ w.cell? ⟨b, 1, none⟩ = some (.int .i64 (t.2 1)) ∧ w.cell? ⟨b, 2, none⟩ = some (.string (t.1 2)) ∧ w.cell? ⟨b, 3, none⟩ = some (.string (t.1 3)) ∧ w.cell? ⟨b, 4, none⟩ = some (.int .i64 (t.2 4)) ∧ w.cell? ⟨b, 5, none⟩ = some (.int .i64 (t.2 5)) ∧ w.cell? ⟨b, 6, none⟩ = some (.int .i64 (t.2 6)) :=
  ⟨h.cell 0 (by omega), h.cell 1 (by omega), h.cell 2 (by omega), h.cell 3 (by omega), h.cell 4 (by omega), h.cell 5 (by omega), h.cell 6 (by omega)⟩
theorem ThAt.zero {w : World} {b : Nat} (h : ThAt nm w b (zeroT 0)) : w.cell? ⟨b, 0, none⟩ = some (.int .i64 0) ∧ w.cell? ⟨b, 1, none⟩ = some (.int .i64 0) ∧ w.cell? ⟨b, 2, none⟩ = some (.string ⟨#[]⟩) ∧ w.cell? ⟨b, 3, none⟩ = some (.string ⟨#[]⟩) ∧ w.cell? ⟨b, 4, none⟩ = some (.int .i64 0) ∧ w.cell? ⟨b, 5, none⟩ = some (.int .i64 0) ∧ w.cell? ⟨b, 6, none⟩ = some (.int .i64 0) := ThAt.all h
/-- A new block that holds one. -/
abbrev boxT (w : World) (t : ThP) : World := w.alloc (.cells #[.int .i64 (t.2 0), .int .i64 (t.2 1), .string (t.1 2), .string (t.1 3), .int .i64 (t.2 4), .int .i64 (t.2 5), .int .i64 (t.2 6)] 24)
theorem box_below (w : World) (t : ThP) : Below w.heap.size w (boxT w t) := (Below.refl _ w).alloc (Nat.le_refl _) _
theorem box_at (w : World) (t : ThP) : ThAt nm (boxT w t) w.heap.size t := by
  refine ⟨fun j hj => ?_, fun j => by simp⟩
  rcases (show j = 0 ∨ j = 1 ∨ j = 2 ∨ j = 3 ∨ j = 4 ∨ j = 5 ∨ j = 6 by omega) with rfl | rfl | rfl | rfl | rfl | rfl | rfl <;> simp [cellT, nm]
/-- Its value. -/
def thV (t : ThP) : Value := .agg #[.int .i64 (t.2 0), .int .i64 (t.2 1), .string (t.1 2), .string (t.1 3), .int .i64 (t.2 4), .int .i64 (t.2 5), .int .i64 (t.2 6)]
/-- Two are the same. -/
def Same (t u : ThP) : Prop := t.2 0 = u.2 0 ∧ t.2 1 = u.2 1 ∧ t.1 2 = u.1 2 ∧ t.1 3 = u.1 3 ∧ t.2 4 = u.2 4 ∧ t.2 5 = u.2 5 ∧ t.2 6 = u.2 6
theorem Same.refl (t : ThP) : Same t t := ⟨rfl, rfl, rfl, rfl, rfl, rfl, rfl⟩
theorem Same.symm {t u : ThP} (h : Same t u) : Same u t := by
  obtain ⟨h0, h1, h2, h3, h4, h5, h6⟩ := h
  exact ⟨h0.symm, h1.symm, h2.symm, h3.symm, h4.symm, h5.symm, h6.symm⟩
theorem Same.trans {t u v : ThP} (h : Same t u) (k : Same u v) : Same t v := by
  obtain ⟨h0, h1, h2, h3, h4, h5, h6⟩ := h
  obtain ⟨k0, k1, k2, k3, k4, k5, k6⟩ := k
  exact ⟨h0.trans k0, h1.trans k1, h2.trans k2, h3.trans k3, h4.trans k4, h5.trans k5, h6.trans k6⟩
theorem Same.val {t u : ThP} (h : Same t u) : thV t = thV u := by
  obtain ⟨h0, h1, h2, h3, h4, h5, h6⟩ := h
  unfold thV
  rw [h0, h1, h2, h3, h4, h5, h6]
def sameB (t u : ThP) : Bool := decide (t.2 0 = u.2 0 ∧ t.2 1 = u.2 1 ∧ t.1 2 = u.1 2 ∧ t.1 3 = u.1 3 ∧ t.2 4 = u.2 4 ∧ t.2 5 = u.2 5 ∧ t.2 6 = u.2 6)
theorem same_iff {t u : ThP} : sameB t u = true ↔ Same t u := by
  unfold sameB
  rw [decide_eq_true_eq]
  exact Iff.rfl
/-- Nothing but the kind is set. -/
def zeroB (t : ThP) : Bool := sameB t (zeroT (t.2 0))
theorem bytes_iff (a b : ByteArray) : a.toList = b.toList ↔ a = b := by
  have h := beq_bytes a b
  constructor
  · intro e
    rw [e, beq_self_eq_true] at h
    exact of_decide_eq_true h.symm
  · intro e
    rw [e]
set_option maxRecDepth 100000 in
set_option maxHeartbeats 4000000 in
theorem th_eq (t u : ThP) (w : World) : (Op.equalIn 10000 24 (.agg #[.int .i64 (t.2 0), .int .i64 (t.2 1), .string (t.1 2), .string (t.1 3), .int .i64 (t.2 4), .int .i64 (t.2 5), .int .i64 (t.2 6)]) (.agg #[.int .i64 (u.2 0), .int .i64 (u.2 1), .string (u.1 2), .string (u.1 3), .int .i64 (u.2 4), .int .i64 (u.2 5), .int .i64 (u.2 6)])).run Tryz.prog w = .ok (sameB t u) w := by
  unfold sameB
  obtain ⟨t1, t2⟩ := t
  obtain ⟨u1, u2⟩ := u
  dsimp only
  have q2 : (t1 2).toList = (u1 2).toList ↔ t1 2 = u1 2 := bytes_iff _ _
  have q3 : (t1 3).toList = (u1 3).toList ↔ t1 3 = u1 3 := bytes_iff _ _
  rw [show (10000 : Nat) = 9999 + 1 from rfl, run_equalIn_struct (P := Tryz.prog) w 9999 _ _ _ (by kernel_rfl) (by kernel_rfl)]
  simp [Program.fieldsOf, Tryz.underlying24, Op.eqFields, go_sem, Tryz.underlying3, Tryz.underlying9]
  simp only [q2, q3]
  by_cases h0 : t2 0 = u2 0
  case neg => simp [h0]
  by_cases h1 : t2 1 = u2 1
  case neg => simp [h1]
  by_cases h2 : t1 2 = u1 2
  case neg => simp [h2]
  by_cases h3 : t1 3 = u1 3
  case neg => simp [h3]
  by_cases h4 : t2 4 = u2 4
  case neg => simp [h4]
  by_cases h5 : t2 5 = u2 5
  case neg => simp [h5]
  by_cases h6 : t2 6 = u2 6
  case neg => simp [h6]
  simp [h0, h1, h2, h3, h4, h5, h6]
set_option maxHeartbeats 1000000 in
theorem isKind_any (k : Int) (w : World) : Calls Tryz.prog 15 #[.int .i64 k] w fun e w' => e = .returned (.bool (decide (1 ≤ k ∧ k ≤ 3))) ∧ w' = w := by
  by_cases h1 : 1 ≤ k
  · by_cases h2 : k ≤ 3
    · rw [decide_eq_true ⟨h1, h2⟩]
      go_enter Tryz.func15, Tryz.ntmps15
      go_wp2
      go_ret
      exact ⟨rfl, rfl⟩
    · rw [decide_eq_false (fun h => h2 h.2)]
      go_enter Tryz.func15, Tryz.ntmps15
      go_wp2
      go_ret
      exact ⟨rfl, rfl⟩
  · rw [decide_eq_false (fun h => h1 h.1)]
    go_enter Tryz.func15, Tryz.ntmps15
    go_wp2
    go_ret
    exact ⟨rfl, rfl⟩
end Go.Proofs.YtdbkoflejimibaaGreatDoor.PP.O
/-
  The fields that a kind has (Order), in the body's order (plain).
-/
namespace Go.Proofs.YtdbkoflejimibaaGreatDoor.PP.O
open Go.Lib

/-- The fields of a kind. -/
def listK (k : Int) : List Pl :=
  if k = 1 then [⟨34, false, 1, 1, 1099511627776⟩, ⟨11, true, 2, 0, 0⟩, ⟨55, true, 3, 0, 0⟩, ⟨54, false, 4, 1, 2⟩, ⟨38, false, 5, 1, 1099511627776⟩, ⟨44, false, 6, 1, 1099511627776⟩]
  else if k = 2 then [⟨34, false, 1, 1, 1099511627776⟩, ⟨11, true, 2, 0, 0⟩]
  else if k = 3 then [⟨34, false, 1, 1, 1099511627776⟩, ⟨11, true, 2, 0, 0⟩, ⟨38, false, 5, 1, 1099511627776⟩, ⟨44, false, 6, 1, 1099511627776⟩]
  else []
theorem listK_1 : listK 1 = [⟨34, false, 1, 1, 1099511627776⟩, ⟨11, true, 2, 0, 0⟩, ⟨55, true, 3, 0, 0⟩, ⟨54, false, 4, 1, 2⟩, ⟨38, false, 5, 1, 1099511627776⟩, ⟨44, false, 6, 1, 1099511627776⟩] := rfl
theorem listK_2 : listK 2 = [⟨34, false, 1, 1, 1099511627776⟩, ⟨11, true, 2, 0, 0⟩] := rfl
theorem listK_3 : listK 3 = [⟨34, false, 1, 1, 1099511627776⟩, ⟨11, true, 2, 0, 0⟩, ⟨38, false, 5, 1, 1099511627776⟩, ⟨44, false, 6, 1, 1099511627776⟩] := rfl
theorem kinds {k : Int} (h : 1 ≤ k ∧ k ≤ 3) : k = 1 ∨ k = 2 ∨ k = 3 := by omega
/-- Those that are looked at. -/
abbrev rlist (k : Int) : List Pl := listK k
theorem list_good (k : Int) : Good (listK k) := by
  unfold listK
  repeat' split
  all_goals exact ⟨by decide, by decide, by decide⟩
end Go.Proofs.YtdbkoflejimibaaGreatDoor.PP.O
/-
  Which of them are right (Order), their bodies, how they are read again (plain).
-/
namespace Go.Proofs.YtdbkoflejimibaaGreatDoor.PP.O
open Go.Lib

/-- What the program says of one of a kind. -/
def rgtB (t : ThP) : Bool := (rgt (rlist (t.2 0)) true t).1 && zeroB (rgt (rlist (t.2 0)) true t).2
/-- What the program says of one. -/
def rightB (t : ThP) : Bool := decide (1 ≤ t.2 0 ∧ t.2 0 ≤ 3) && rgtB t
/-- One that is right. -/
structure RightP (t : ThP) : Prop where
  kind : 1 ≤ t.2 0 ∧ t.2 0 ≤ 3
  all : ∀ p ∈ rlist (t.2 0), p.okB t = true
  one : t.2 0 ≠ 1 → t.1 3 = noText ∧ t.2 4 = 0
  two : t.2 0 = 2 → t.2 5 = 0 ∧ t.2 6 = 0
theorem right_iff (t : ThP) : rightB t = true ↔ RightP t := by
  unfold rightB rgtB
  by_cases hk : 1 ≤ t.2 0 ∧ t.2 0 ≤ 3
  · rw [decide_eq_true hk, Bool.true_and]
    rcases kinds hk with e | e | e
    · constructor
      · intro h
        rw [e, show rlist 1 = _ from listK_1] at h
        simp [rgt, Pl.okB, Pl.clr, upd, zeroB, sameB, zeroT] at h
        refine ⟨hk, ?_, fun n => absurd e n, fun n => by omega⟩
        rw [e, show rlist 1 = _ from listK_1]
        simp [Pl.okB]
        exact ⟨h.1.1.1.1.1, h.1.1.1.1.2, h.1.1.1.2, h.1.1.2, h.1.2, h.2⟩
      · intro h
        have a := h.all
        rw [e, show rlist 1 = _ from listK_1] at a ⊢
        simp [Pl.okB] at a
        simp [rgt, Pl.okB, Pl.clr, upd, zeroB, sameB, zeroT]
        simp [a]
    · constructor
      · intro h
        rw [e, show rlist 2 = _ from listK_2] at h
        simp [rgt, Pl.okB, Pl.clr, upd, zeroB, sameB, zeroT] at h
        refine ⟨hk, ?_, fun _ => ?_, fun _ => ?_⟩
        · rw [e, show rlist 2 = _ from listK_2]
          simp [Pl.okB]
          simp [h]
        · simp [h]
        · simp [h]
      · intro h
        have a := h.all
        have o := h.one (by omega)
        have u := h.two (by omega)
        rw [e, show rlist 2 = _ from listK_2] at a ⊢
        simp [Pl.okB] at a
        simp [rgt, Pl.okB, Pl.clr, upd, zeroB, sameB, zeroT]
        simp [a, o, u]
    · constructor
      · intro h
        rw [e, show rlist 3 = _ from listK_3] at h
        simp [rgt, Pl.okB, Pl.clr, upd, zeroB, sameB, zeroT] at h
        refine ⟨hk, ?_, fun _ => ?_, fun n => by omega⟩
        · rw [e, show rlist 3 = _ from listK_3]
          simp [Pl.okB]
          simp [h]
        · simp [h]
      · intro h
        have a := h.all
        have o := h.one (by omega)
        rw [e, show rlist 3 = _ from listK_3] at a ⊢
        simp [Pl.okB] at a
        simp [rgt, Pl.okB, Pl.clr, upd, zeroB, sameB, zeroT]
        simp [a, o]
  · rw [decide_eq_false hk, Bool.false_and]
    exact ⟨fun h => by simp at h, fun h => absurd h.kind hk⟩
/-- A kind's word. -/
def wordK (k : Int) : ByteArray := if k = 1 then ⟨#[68]⟩ else if k = 2 then ⟨#[70]⟩ else if k = 3 then ⟨#[71]⟩ else ⟨#[]⟩
/-- The kind that a word says, or 0. -/
def kindOf (w : ByteArray) : Int := if w = ⟨#[68]⟩ then 1 else if w = ⟨#[70]⟩ then 2 else if w = ⟨#[71]⟩ then 3 else 0
theorem kind_word {k : Int} (h : 1 ≤ k ∧ k ≤ 3) : kindOf (wordK k) = k := by
  rcases kinds h with rfl | rfl | rfl <;> decide
theorem kind_range (w : ByteArray) : 0 ≤ kindOf w ∧ kindOf w ≤ 3 := by
  unfold kindOf
  repeat' split
  all_goals omega
theorem word_val {k : Int} (h : 1 ≤ k ∧ k ≤ 3) : ValOk (wordK k).data.toList := by
  refine valB_true.1 ?_
  rcases kinds h with rfl | rfl | rfl <;> decide +kernel
/-- The word of the field 35. -/
abbrev word35 (k : Int) : ByteArray := wordK k
abbrev thick (t : ThP) (_ : Int) : ThP := t
theorem word35_val {k : Int} (h : 1 ≤ k ∧ k ≤ 3) : ValOk (word35 k).data.toList := word_val h
theorem RightP.thick {t : ThP} (R : RightP t) : ∀ p ∈ listK (t.2 0), p.okB (thick t (t.2 0)) = true := R.all
/-- The tag and the error's number of a body's fields. -/
def decE (l : List Fd) : Int × Int := if kindOf (textOf l 35) = 0 then (35, 120) else doneE (runS (x0F l) ((listK (kindOf (textOf l 35))).map Pl.want)) (l.map Prod.fst)
/-- The kind that a body's fields say. -/
def decK (l : List Fd) : Int := kindOf (textOf l 35)
theorem dec_run {l : List Fd} (h : (decE l).2 = 0) : (1 ≤ decK l ∧ decK l ≤ 3) ∧ (runS (x0F l) ((listK (decK l)).map Pl.want)).2.2 = 0 ∧ decE l = (0, 0) := by
  unfold decE decK at *
  have := kind_range (textOf l 35)
  by_cases e : kindOf (textOf l 35) = 0
  · rw [if_pos e] at h
    simp at h
  · rw [if_neg e] at h ⊢
    obtain ⟨h1, h2, _⟩ := done_run h
    exact ⟨by omega, h1, h2⟩
/-- Its fields. -/
def fieldsT (t : ThP) : List Fd := fieldsG (word35 (t.2 0)) (listK (t.2 0)) (thick t (t.2 0))
/-- The tag and the error's number of a text. -/
def decT (l : List UInt8) : Int × Int := if readE l ≠ 0 then (0, (readE l : Int)) else decE (fieldsL l).1
/-- What a text says. -/
def decA (l : List UInt8) : ThP := if (decT l).2 = 0 then tolds (listK (decK (fieldsL l).1)) (fieldsL l).1 (zeroT (decK (fieldsL l).1)) else zeroT 0
theorem decT_zero {l : List UInt8} (h : (decT l).2 = 0) : decT l = (0, 0) ∧ readE l = 0 ∧ (decE (fieldsL l).1).2 = 0 := by
  unfold decT at *
  by_cases e : readE l = 0
  · rw [if_neg (by omega)] at h ⊢
    exact ⟨(dec_run h).2.2, e, h⟩
  · rw [if_pos e] at h
    dsimp only at h
    omega
/-- What a right one's body says is it. -/
theorem back {t : ThP} (R : RightP t) : Same (tolds (listK (t.2 0)) (fieldsT t) (zeroT (t.2 0))) t := by
  unfold fieldsT
  rw [told_sets (list_good _) R.thick]
  rcases kinds R.kind with e | e | e
  · rw [e, listK_1]
    simp [Same, sets, zeroT, upd, e]
  · have o := R.one (by omega)
    have u := R.two e
    rw [e, listK_2]
    simp [Same, sets, zeroT, upd, e, o, u]
  · have o := R.one (by omega)
    rw [e, listK_3]
    simp [Same, sets, zeroT, upd, e, o]
theorem dec_fields {t : ThP} (R : RightP t) : decE (fieldsT t) = (0, 0) ∧ decK (fieldsT t) = t.2 0 := by
  obtain ⟨_, _, h35⟩ := read_right (list_good (t.2 0)) (word35_val R.kind) R.thick
  have hk : kindOf (textOf (fieldsT t) 35) = t.2 0 := by
    unfold fieldsT
    rw [h35]
    exact kind_word R.kind
  refine ⟨?_, hk⟩
  unfold decE
  rw [hk, if_neg (by have := R.kind; omega)]
  exact done_right (list_good (t.2 0)) R.thick
/-- What fits is right. -/
theorem sound {k : Int} {l : List Fd} (hk : 1 ≤ k ∧ k ≤ 3) (h : ∀ w ∈ (listK k).map Pl.want, Fits (lookF l) w) : RightP (tolds (listK k) l (zeroT k)) := by
  have N : ∀ p ∈ listK k, _ := fun p hp => fits_told h hp
  clear h
  rcases kinds hk with rfl | rfl | rfl
  · rw [listK_1] at N ⊢
    simp at N
    refine ⟨?_, ?_, ?_, ?_⟩
    · simp [tolds, Pl.told, zeroT, upd]
    · rw [show (tolds [⟨34, false, 1, 1, 1099511627776⟩, ⟨11, true, 2, 0, 0⟩, ⟨55, true, 3, 0, 0⟩, ⟨54, false, 4, 1, 2⟩, ⟨38, false, 5, 1, 1099511627776⟩, ⟨44, false, 6, 1, 1099511627776⟩] l (zeroT 1)).2 0 = 1 from rfl, show rlist 1 = _ from listK_1]
      simp [tolds, Pl.told, zeroT, upd, Pl.okB]
      exact N
    · simp [tolds, Pl.told, zeroT, upd]
    · simp [tolds, Pl.told, zeroT, upd]
  · rw [listK_2] at N ⊢
    simp at N
    refine ⟨?_, ?_, ?_, ?_⟩
    · simp [tolds, Pl.told, zeroT, upd]
    · rw [show (tolds [⟨34, false, 1, 1, 1099511627776⟩, ⟨11, true, 2, 0, 0⟩] l (zeroT 2)).2 0 = 2 from rfl, show rlist 2 = _ from listK_2]
      simp [tolds, Pl.told, zeroT, upd, Pl.okB]
      exact N
    · simp [tolds, Pl.told, zeroT, upd]
    · simp [tolds, Pl.told, zeroT, upd]
  · rw [listK_3] at N ⊢
    simp at N
    refine ⟨?_, ?_, ?_, ?_⟩
    · simp [tolds, Pl.told, zeroT, upd]
    · rw [show (tolds [⟨34, false, 1, 1, 1099511627776⟩, ⟨11, true, 2, 0, 0⟩, ⟨38, false, 5, 1, 1099511627776⟩, ⟨44, false, 6, 1, 1099511627776⟩] l (zeroT 3)).2 0 = 3 from rfl, show rlist 3 = _ from listK_3]
      simp [tolds, Pl.told, zeroT, upd, Pl.okB]
      exact N
    · simp [tolds, Pl.told, zeroT, upd]
    · simp [tolds, Pl.told, zeroT, upd]
/-- What is encoded is decoded as it was. -/
theorem dec_right {t : ThP} (R : RightP t) : decT (cat (fieldsT t)) = (0, 0) ∧ Same (decA (cat (fieldsT t))) t := by
  obtain ⟨hf, hE, _⟩ := read_right (list_good (t.2 0)) (word35_val R.kind) R.thick
  have hf' : fieldsL (cat (fieldsT t)) = (fieldsT t, (cat (fieldsT t)).length, 0) := hf
  have hE' : readE (cat (fieldsT t)) = 0 := hE
  obtain ⟨hD, hK⟩ := dec_fields R
  have hT : decT (cat (fieldsT t)) = (0, 0) := by
    unfold decT
    rw [if_neg (by omega), hf']
    exact hD
  refine ⟨hT, ?_⟩
  unfold decA
  rw [hT, if_pos rfl, hf']
  dsimp only
  rw [hK]
  exact back R
/-- What is decoded is right. -/
theorem dec_sound {l : List UInt8} (h : (decT l).2 = 0) : RightP (decA l) := by
  obtain ⟨_, _, h2⟩ := decT_zero h
  unfold decA
  rw [if_pos h]
  have r := dec_run h2
  exact sound r.1 (runS_fresh_ok _ r.2.1)
theorem Same.right {t u : ThP} (h : Same t u) (R : RightP t) : RightP u := by
  have key : ∀ v : ThP, rightB v = rightB (fun j => if nm j = true ∧ j < 7 then v.1 j else noText, fun j => if j < 7 ∧ nm j = false then v.2 j else 0) := by
    intro v
    unfold rightB rgtB
    dsimp only [nm]
    simp only [show ((0 : Nat) < 7 ∧ ((0 : Nat) == 2 || (0 : Nat) == 3) = false) = True by decide, if_true]
    by_cases hk : 1 ≤ v.2 0 ∧ v.2 0 ≤ 3
    · rcases kinds hk with e | e | e <;> rw [e]
      · rw [show rlist 1 = _ from listK_1]; simp [rgt, Pl.okB, Pl.clr, upd, zeroB, sameB, zeroT]
      · rw [show rlist 2 = _ from listK_2]; simp [rgt, Pl.okB, Pl.clr, upd, zeroB, sameB, zeroT]
      · rw [show rlist 3 = _ from listK_3]; simp [rgt, Pl.okB, Pl.clr, upd, zeroB, sameB, zeroT]
    · rw [decide_eq_false hk, Bool.false_and, Bool.false_and]
  rw [← right_iff] at R ⊢
  rw [key] at R ⊢
  obtain ⟨h0, h1, h2, h3, h4, h5, h6⟩ := h
  have e1 : (fun j => if nm j = true ∧ j < 7 then t.1 j else noText) = (fun j => if nm j = true ∧ j < 7 then u.1 j else noText) := by
    funext j
    by_cases c : nm j = true ∧ j < 7
    · rw [if_pos c, if_pos c]
      rcases (show j = 0 ∨ j = 1 ∨ j = 2 ∨ j = 3 ∨ j = 4 ∨ j = 5 ∨ j = 6 by omega) with rfl | rfl | rfl | rfl | rfl | rfl | rfl <;> first | assumption | (exfalso; revert c; decide)
    · rw [if_neg c, if_neg c]
  have e2 : (fun j => if j < 7 ∧ nm j = false then t.2 j else 0) = (fun j => if j < 7 ∧ nm j = false then u.2 j else 0) := by
    funext j
    by_cases c : j < 7 ∧ nm j = false
    · rw [if_pos c, if_pos c]
      rcases (show j = 0 ∨ j = 1 ∨ j = 2 ∨ j = 3 ∨ j = 4 ∨ j = 5 ∨ j = 6 by omega) with rfl | rfl | rfl | rfl | rfl | rfl | rfl <;> first | assumption | (exfalso; revert c; decide)
    · rw [if_neg c, if_neg c]
  rw [← e1, ← e2]
  exact R
end Go.Proofs.YtdbkoflejimibaaGreatDoor.PP.O
/-
  The table of the kinds' letters in memory; the contract of post's orderOf.
-/
namespace Go.Proofs.YtdbkoflejimibaaGreatDoor.PP.O
open Go.ChangeShapes Go.WideShapes Go.ChangeAt Go.RowKit Go.Lib

/-- Four texts lie where the table of letters lies. -/
def Let4 (w : World) (l0 l1 l2 l3 : ByteArray) : Prop := w.cell? ⟨0, 0, none⟩ = some (.string l0) ∧ w.cell? ⟨0, 1, none⟩ = some (.string l1) ∧ w.cell? ⟨0, 2, none⟩ = some (.string l2) ∧ w.cell? ⟨0, 3, none⟩ = some (.string l3)
/-- The table of letters is laid. -/
def Let (w : World) : Prop := Let4 w ⟨#[]⟩ ⟨#[68]⟩ ⟨#[70]⟩ ⟨#[71]⟩
theorem Let4.below {w w' : World} {l0 l1 l2 l3 : ByteArray} {n : Nat} (h : Let4 w l0 l1 l2 l3) (hb : Below n w w') (hn : w.heap.size ≤ n) : Let4 w' l0 l1 l2 l3 := by
  obtain ⟨h0, h1, h2, h3⟩ := h
  have lt := Nat.lt_of_lt_of_le (World.block_lt_of_cell? _ _ h0) hn
  exact ⟨(hb.cell (p := ⟨0, 0, none⟩) lt).trans h0, (hb.cell (p := ⟨0, 1, none⟩) lt).trans h1, (hb.cell (p := ⟨0, 2, none⟩) lt).trans h2, (hb.cell (p := ⟨0, 3, none⟩) lt).trans h3⟩
theorem Let.still {w w' : World} (h : Let w) (hb : Below w.heap.size w w') : Let w' := Let4.below h hb (Nat.le_refl _)
/-- The first of four texts that is s, or 0. -/
def firstL (l0 l1 l2 l3 s : ByteArray) : Nat := if l0 = s then 0 else if l1 = s then 1 else if l2 = s then 2 else if l3 = s then 3 else 0
theorem first_kind (s : ByteArray) : ((firstL ⟨#[]⟩ ⟨#[68]⟩ ⟨#[70]⟩ ⟨#[71]⟩ s : Nat) : Int) = kindOf s := by
  have sw : ∀ a : ByteArray, (a = s) = (s = a) := fun a => propext ⟨Eq.symm, Eq.symm⟩
  unfold firstL kindOf
  simp only [sw]
  by_cases h0 : s = ⟨#[]⟩
  · subst h0
    decide
  rw [if_neg h0]
  repeat' split
  all_goals first | rfl | omega
set_option maxHeartbeats 4000000 in
theorem kindOf_at (l0 l1 l2 l3 s : ByteArray) (w : World) (h : Let4 w l0 l1 l2 l3) :
    Calls Tryz.prog 14 #[.string s] w fun e w' => e = .returned (.int .i64 (firstL l0 l1 l2 l3 s : Nat)) ∧ w' = w := by
  obtain ⟨h0, h1, h2, h3⟩ := h
  have i0 : ∀ (w : World), (Instr.index 67 (.agg #[.string l0, .string l1, .string l2, .string l3]) (.int .i64 0)).run Tryz.prog w = .ok (.string l0) w := fun _ => by kernel_rfl
  have i1 : ∀ (w : World), (Instr.index 67 (.agg #[.string l0, .string l1, .string l2, .string l3]) (.int .i64 1)).run Tryz.prog w = .ok (.string l1) w := fun _ => by kernel_rfl
  have i2 : ∀ (w : World), (Instr.index 67 (.agg #[.string l0, .string l1, .string l2, .string l3]) (.int .i64 2)).run Tryz.prog w = .ok (.string l2) w := fun _ => by kernel_rfl
  have i3 : ∀ (w : World), (Instr.index 67 (.agg #[.string l0, .string l1, .string l2, .string l3]) (.int .i64 3)).run Tryz.prog w = .ok (.string l3) w := fun _ => by kernel_rfl
  have q0 := beq_bytes l0 s
  have q1 := beq_bytes l1 s
  have q2 := beq_bytes l2 s
  have q3 := beq_bytes l3 s
  go_enter Tryz.func14, Tryz.ntmps14
  go_wp2_with fail
  go_loopw [6] (fun i wr => ∃ k : Nat, i = .int .i64 (k : Int) ∧ k ≤ 4 ∧ Hid ((0 < k → l0 ≠ s) ∧ (1 < k → l1 ≠ s) ∧ (2 < k → l2 ≠ s) ∧ (3 < k → l3 ≠ s)) ∧ wr = w) (fun i _ => 4 - (RowKit.intOf i).toNat)
  case atStart => exact ⟨0, rfl, by omega, ⟨fun h => absurd h (by omega), fun h => absurd h (by omega), fun h => absurd h (by omega), fun h => absurd h (by omega)⟩, rfl⟩
  case round =>
    obtain ⟨k, rfl, hk, HN, rfl⟩ := hrel
    rcases (show k = 0 ∨ k = 1 ∨ k = 2 ∨ k = 3 ∨ k = 4 by omega) with rfl | rfl | rfl | rfl | rfl
    · by_cases h : l0 = s
      · rw [decide_eq_true h] at q0
        have HE : Hid (firstL l0 l1 l2 l3 s = 0) := by
          have H := HN.out
          show firstL l0 l1 l2 l3 s = 0
          unfold firstL
          rw [if_pos h]
        clear h HN
        go_wp2_with fail
        go_ret
        exact ⟨by rw [HE.out]; rfl, rfl⟩
      · rw [decide_eq_false h] at q0
        have HN2 : Hid ((0 < 1 → l0 ≠ s) ∧ (1 < 1 → l1 ≠ s) ∧ (2 < 1 → l2 ≠ s) ∧ (3 < 1 → l3 ≠ s)) := ⟨fun _ => h, fun g => absurd g (by omega), fun g => absurd g (by omega), fun g => absurd g (by omega)⟩
        clear h HN
        go_wp2_with fail
        go_roundw
        case rel => exact ⟨1, by first | rfl | simp, by omega, HN2, by first | trivial | rfl⟩
        case measure => simp [RowKit.intOf]
    · by_cases h : l1 = s
      · rw [decide_eq_true h] at q1
        have HE : Hid (firstL l0 l1 l2 l3 s = 1) := by
          have H := HN.out
          show firstL l0 l1 l2 l3 s = 1
          unfold firstL
          rw [if_neg (H.1 (by omega)), if_pos h]
        clear h HN
        go_wp2_with fail
        go_ret
        exact ⟨by rw [HE.out]; rfl, rfl⟩
      · rw [decide_eq_false h] at q1
        have HN2 : Hid ((0 < 2 → l0 ≠ s) ∧ (1 < 2 → l1 ≠ s) ∧ (2 < 2 → l2 ≠ s) ∧ (3 < 2 → l3 ≠ s)) := ⟨fun _ => HN.out.1 (by omega), fun _ => h, fun g => absurd g (by omega), fun g => absurd g (by omega)⟩
        clear h HN
        go_wp2_with fail
        go_roundw
        case rel => exact ⟨2, by first | rfl | simp, by omega, HN2, by first | trivial | rfl⟩
        case measure => simp [RowKit.intOf]
    · by_cases h : l2 = s
      · rw [decide_eq_true h] at q2
        have HE : Hid (firstL l0 l1 l2 l3 s = 2) := by
          have H := HN.out
          show firstL l0 l1 l2 l3 s = 2
          unfold firstL
          rw [if_neg (H.1 (by omega)), if_neg (H.2.1 (by omega)), if_pos h]
        clear h HN
        go_wp2_with fail
        go_ret
        exact ⟨by rw [HE.out]; rfl, rfl⟩
      · rw [decide_eq_false h] at q2
        have HN2 : Hid ((0 < 3 → l0 ≠ s) ∧ (1 < 3 → l1 ≠ s) ∧ (2 < 3 → l2 ≠ s) ∧ (3 < 3 → l3 ≠ s)) := ⟨fun _ => HN.out.1 (by omega), fun _ => HN.out.2.1 (by omega), fun _ => h, fun g => absurd g (by omega)⟩
        clear h HN
        go_wp2_with fail
        go_roundw
        case rel => exact ⟨3, by first | rfl | simp, by omega, HN2, by first | trivial | rfl⟩
        case measure => simp [RowKit.intOf]
    · by_cases h : l3 = s
      · rw [decide_eq_true h] at q3
        have HE : Hid (firstL l0 l1 l2 l3 s = 3) := by
          have H := HN.out
          show firstL l0 l1 l2 l3 s = 3
          unfold firstL
          rw [if_neg (H.1 (by omega)), if_neg (H.2.1 (by omega)), if_neg (H.2.2.1 (by omega)), if_pos h]
        clear h HN
        go_wp2_with fail
        go_ret
        exact ⟨by rw [HE.out]; rfl, rfl⟩
      · rw [decide_eq_false h] at q3
        have HN2 : Hid ((0 < 4 → l0 ≠ s) ∧ (1 < 4 → l1 ≠ s) ∧ (2 < 4 → l2 ≠ s) ∧ (3 < 4 → l3 ≠ s)) := ⟨fun _ => HN.out.1 (by omega), fun _ => HN.out.2.1 (by omega), fun _ => HN.out.2.2.1 (by omega), fun _ => h⟩
        clear h HN
        go_wp2_with fail
        go_roundw
        case rel => exact ⟨4, by first | rfl | simp, by omega, HN2, by first | trivial | rfl⟩
        case measure => simp [RowKit.intOf]
    · have HE : Hid (firstL l0 l1 l2 l3 s = 0) := by
        have H := HN.out
        show firstL l0 l1 l2 l3 s = 0
        unfold firstL
        rw [if_neg (H.1 (by omega)), if_neg (H.2.1 (by omega)), if_neg (H.2.2.1 (by omega)), if_neg (H.2.2.2 (by omega))]
      clear HN
      go_wp2_with fail
      go_ret
      exact ⟨by rw [HE.out]; rfl, rfl⟩
theorem kindOf_any (s : ByteArray) (w : World) (h : Let w) :
    Calls Tryz.prog 14 #[.string s] w fun e w' => e = .returned (.int .i64 (kindOf s)) ∧ w' = w := by
  refine (kindOf_at ⟨#[]⟩ ⟨#[68]⟩ ⟨#[70]⟩ ⟨#[71]⟩ s w h).mono ?_
  rintro e w' ⟨rfl, rfl⟩
  rw [first_kind]
  exact ⟨rfl, rfl⟩
theorem Let4.of {w w' : World} (k : ∀ j, w'.cell? ⟨0, j, none⟩ = w.cell? ⟨0, j, none⟩) (h : Let w) : Let w' := by
  obtain ⟨h0, h1, h2, h3⟩ := h
  exact ⟨(k 0).trans h0, (k 1).trans h1, (k 2).trans h2, (k 3).trans h3⟩
/-- The word of a kind in the table. -/
theorem Let.at {w : World} (h : Let w) {K : Nat} (hK : K < 4) : w.cell? ⟨0, K, none⟩ = some (.string (wordK (K : Int))) := by
  obtain ⟨h0, h1, h2, h3⟩ := h
  rcases (show K = 0 ∨ K = 1 ∨ K = 2 ∨ K = 3 by omega) with rfl | rfl | rfl | rfl
  · exact h0
  · exact h1
  · exact h2
  · exact h3
end Go.Proofs.YtdbkoflejimibaaGreatDoor.PP.O
