/-
  A right one's body is decoded as it; two that are the same (Order).
-/
import Derived.Test.YtdbkoflejimibaaDoorJH
import Derived.Test.YtdbkoflejimibaaDoorJF
import Derived.Test.YtdbkoflejimibaaDoorJI
import Derived.Test.YtdbkoflejimibaaDoorJG
namespace Go.Proofs.YtdbkoflejimibaaDoor.PP.O
open Go.ChangeShapes Go.WideShapes Go.ChangeAt Go.RowKit Go.Lib

theorem same_run (t : ThP) (w : World) : (Op.equalIn 10000 23 (.agg #[.int .i64 (t.2 0), .int .i64 (t.2 1), .string (t.1 2), .string (t.1 3), .int .i64 (t.2 4), .int .i64 (t.2 5), .int .i64 (t.2 6)]) (.agg #[.int .i64 (t.2 0), .int .i64 (t.2 1), .string (t.1 2), .string (t.1 3), .int .i64 (t.2 4), .int .i64 (t.2 5), .int .i64 (t.2 6)])).run Tryd.prog w = .ok true w := by
  rw [th_eq]
  unfold sameB
  simp
theorem right_small {t : ThP} (R : RightP t) : (mk (cat (fieldsT t))).size ≤ 1000000 := by
  obtain ⟨ok, l64⟩ := right_allOk (list_good (t.2 0)) (word35_val R.kind) R.thick
  have ok' : AllOk (fieldsT t) := ok
  have l64' : (fieldsT t).length ≤ 64 := l64
  have := cat_len ok'
  rw [mk_size]
  omega
theorem decode_back {t : ThP} (R : RightP t) (w : World) (hl : Let w) :
    Calls Tryd.prog 19 #[.string (mk (cat (fieldsT t)))] w fun e w' => e = .returned (.tuple #[.agg #[.int .i64 (t.2 0), .int .i64 (t.2 1), .string (t.1 2), .string (t.1 3), .int .i64 (t.2 4), .int .i64 (t.2 5), .int .i64 (t.2 6)], .int .i64 0, .int .i64 0]) ∧ Below w.heap.size w w' := by
  obtain ⟨dt, da⟩ := dec_right R
  refine (decode_any _ w (right_small R) hl).mono ?_
  rintro e w' ⟨u, rfl, hS, b⟩
  rw [mk_list] at hS ⊢
  rw [dt, (hS.trans da).val]
  exact ⟨rfl, b⟩
theorem dec_35 {t : ThP} (R : RightP t) : readE (cat (fieldsT t)) = 0 ∧ textOf (fieldsL (cat (fieldsT t))).1 35 = word35 (t.2 0) := by
  obtain ⟨hf, hE, h35⟩ := read_right (list_good (t.2 0)) (word35_val R.kind) R.thick
  have hf' : fieldsL (cat (fieldsT t)) = (fieldsT t, (cat (fieldsT t)).length, 0) := hf
  have hE' : readE (cat (fieldsT t)) = 0 := hE
  have h35' : textOf (fieldsT t) 35 = word35 (t.2 0) := h35
  refine ⟨hE', ?_⟩
  rw [hf']
  exact h35'
end Go.Proofs.YtdbkoflejimibaaDoor.PP.O
/-
  A right one's body is decoded as it; two that are the same (Reply).
-/
namespace Go.Proofs.YtdbkoflejimibaaDoor.PP.R
open Go.ChangeShapes Go.WideShapes Go.ChangeAt Go.RowKit Go.Lib

theorem same_run (t : ThP) (w : World) : (Op.equalIn 10000 35 (.agg #[.int .i64 (t.2 0), .int .i64 (t.2 1), .string (t.1 2), .string (t.1 3), .int .i64 (t.2 4), .int .i64 (t.2 5), .string (t.1 6)]) (.agg #[.int .i64 (t.2 0), .int .i64 (t.2 1), .string (t.1 2), .string (t.1 3), .int .i64 (t.2 4), .int .i64 (t.2 5), .string (t.1 6)])).run Tryd.prog w = .ok true w := by
  rw [th_eq]
  unfold sameB
  simp
theorem right_small {t : ThP} (R : RightP t) : (mk (cat (fieldsT t))).size ≤ 1000000 := by
  obtain ⟨ok, l64⟩ := right_allOk (list_good (t.2 0)) (word35_val (t.2 0)) R.thick
  have ok' : AllOk (fieldsT t) := ok
  have l64' : (fieldsT t).length ≤ 64 := l64
  have := cat_len ok'
  rw [mk_size]
  omega
theorem decode_back {t : ThP} (R : RightP t) (w : World) (hl : Let w) :
    Calls Tryd.prog 20 #[.string (mk (cat (fieldsT t)))] w fun e w' => e = .returned (.tuple #[.agg #[.int .i64 (t.2 0), .int .i64 (t.2 1), .string (t.1 2), .string (t.1 3), .int .i64 (t.2 4), .int .i64 (t.2 5), .string (t.1 6)], .int .i64 0, .int .i64 0]) ∧ Below w.heap.size w w' := by
  obtain ⟨dt, da⟩ := dec_right R
  refine (decode_any _ w (right_small R) hl).mono ?_
  rintro e w' ⟨u, rfl, hS, b⟩
  rw [mk_list] at hS ⊢
  rw [dt, (hS.trans da).val]
  exact ⟨rfl, b⟩
theorem dec_35 {t : ThP} (R : RightP t) : readE (cat (fieldsT t)) = 0 ∧ textOf (fieldsL (cat (fieldsT t))).1 35 = word35 (t.2 0) := by
  obtain ⟨hf, hE, h35⟩ := read_right (list_good (t.2 0)) (word35_val (t.2 0)) R.thick
  have hf' : fieldsL (cat (fieldsT t)) = (fieldsT t, (cat (fieldsT t)).length, 0) := hf
  have hE' : readE (cat (fieldsT t)) = 0 := hE
  have h35' : textOf (fieldsT t) 35 = word35 (t.2 0) := h35
  refine ⟨hE', ?_⟩
  rw [hf']
  exact h35'
end Go.Proofs.YtdbkoflejimibaaDoor.PP.R
/-
  No order's body is a reply's, and no reply's an order's.
-/
namespace Go.Proofs.YtdbkoflejimibaaDoor.PP
open Go.ChangeShapes Go.WideShapes Go.ChangeAt Go.RowKit Go.Lib

theorem crossO {t : ThP} (H : O.RightP t) : R.decT (cat (O.fieldsT t)) = (35, 120) := by
  obtain ⟨hE, h35⟩ := O.dec_35 H
  unfold R.decT R.decE
  rw [if_neg (by omega), h35]
  rcases O.kinds H.kind with e | e | e <;> rw [e, if_neg (by decide), if_neg (by decide)]
theorem crossR {t : ThP} (H : R.RightP t) : O.decT (cat (R.fieldsT t)) = (35, 120) := by
  obtain ⟨hE, h35⟩ := R.dec_35 H
  unfold O.decT O.decE
  rw [if_neg (by omega), h35]
  unfold R.word35
  by_cases e : t.2 0 = 7
  · rw [if_pos e, if_pos (by decide)]
  · rw [if_neg e, if_pos (by decide)]
theorem decode_crossO {t : ThP} (H : O.RightP t) (w : World) (hl : R.Let w) :
    Calls Tryd.prog 20 #[.string (mk (cat (O.fieldsT t)))] w fun e w' => e = .returned (.tuple #[.agg #[.int .i64 0, .int .i64 0, .string ⟨#[]⟩, .string ⟨#[]⟩, .int .i64 0, .int .i64 0, .string ⟨#[]⟩], .int .i64 35, .int .i64 120]) ∧ Below w.heap.size w w' := by
  have c := crossO H
  refine (R.decode_any _ w (O.right_small H) hl).mono ?_
  rintro e w' ⟨u, rfl, hS, b⟩
  rw [mk_list] at hS ⊢
  have z : R.decA (cat (O.fieldsT t)) = zeroT 0 := if_neg (by rw [c]; simp)
  rw [z] at hS
  rw [c, hS.val]
  exact ⟨rfl, b⟩
theorem decode_crossR {t : ThP} (H : R.RightP t) (w : World) (hl : O.Let w) :
    Calls Tryd.prog 19 #[.string (mk (cat (R.fieldsT t)))] w fun e w' => e = .returned (.tuple #[.agg #[.int .i64 0, .int .i64 0, .string ⟨#[]⟩, .string ⟨#[]⟩, .int .i64 0, .int .i64 0, .int .i64 0], .int .i64 35, .int .i64 120]) ∧ Below w.heap.size w w' := by
  have c := crossR H
  refine (O.decode_any _ w (R.right_small H) hl).mono ?_
  rintro e w' ⟨u, rfl, hS, b⟩
  rw [mk_list] at hS ⊢
  have z : O.decA (cat (R.fieldsT t)) = zeroT 0 := if_neg (by rw [c]; simp)
  rw [z] at hS
  rw [c, hS.val]
  exact ⟨rfl, b⟩
end Go.Proofs.YtdbkoflejimibaaDoor.PP
