/-
  The reference's form that is read beside a block that holds a thing of seven cells.
-/
import Derived.Test.YtdbkoflejimibaaGreatDoorGP
import Derived.Test.YtdbkoflejimibaaGreatDoorJA
import Derived.Test.YtdbkoflejimibaaGreatDoorJB
import Derived.Test.YtdbkoflejimibaaGreatDoorJC
import Derived.Test.YtdbkoflejimibaaGreatDoorJH
namespace Go.Proofs.YtdbkoflejimibaaGreatDoor.PP
open Go.ChangeShapes Go.WideShapes Go.ChangeAt Go.RowKit Go.Lib

/-- The blocks that may change: from M on, but for b. -/
def SB (M b j : Nat) : Prop := M ≤ j ∧ j ≠ b
/-- The reference's form at fb and a thing at block b; all below M is as in W0. -/
structure RS (nm : Nat → Bool) (M : Nat) (W0 : World) (m : Nat) (w : World) (fb b : Nat) (v : Value) (l : List Fd) (y : List Int × Int × Int) (t : ThP) : Prop where
  frm : ∃ u, RFrm m (SB M b) w w fb v l u y.1 y.2.1 y.2.2 ∧ u.ownBlock ≠ some b
  th : ThAt nm w b t
  nb : b ≠ fb
  nv : v.ownBlock ≠ some b
  lo : M ≤ m ∧ M ≤ b
  below : Below M W0 w
theorem RS.next {nm : Nat → Bool} {M : Nat} {W0 : World} {m : Nat} {w w' : World} {fb b : Nat} {v : Value} {l : List Fd} {y y2 : List Int × Int × Int} {t : ThP} (h : RS nm M W0 m w fb b v l y t) (hS : RSt m (SB M b) w w' fb v l y2) : RS nm M W0 m w' fb b v l y2 t := by
  obtain ⟨u', F⟩ := hS
  have lb := h.th.lt
  have nS : ¬ SB M b b := fun e => e.2 rfl
  obtain ⟨l1, l2⟩ := h.lo
  have nu : u'.ownBlock ≠ some b := fun e => (F.su b e lb).2 rfl
  exact ⟨⟨u', F.base ⟨by have := F.lo; omega, fun e => h.nb e.symm⟩ (fun g hg => ⟨by have := (F.own.lt g hg).1; omega, fun e => nu (by rw [hg, e])⟩), nu⟩, h.th.but F.but nS, h.nb, h.nv, h.lo, h.below.trans (F.but.below (by omega) (fun j e => e.1))⟩
theorem RS.still {nm : Nat → Bool} {M : Nat} {W0 : World} {m : Nat} {w w' : World} {fb b : Nat} {v : Value} {l : List Fd} {y : List Int × Int × Int} {t : ThP} (h : RS nm M W0 m w fb b v l y t) (k : Below w.heap.size w w') : RS nm M W0 m w' fb b v l y t := by
  obtain ⟨u, F, nu⟩ := h.frm
  exact h.next ⟨u, F.still k⟩
theorem rfrm_other {m M : Nat} {w w' : World} {fb b : Nat} {v : Value} {l : List Fd} {u : Value} {A : List Int} {tag e : Int} (F : RFrm m (SB M b) w w fb v l u A tag e) (hB : But (fun j => j = b) w w') (nb : b ≠ fb) (nv : v.ownBlock ≠ some b) (nu : u.ownBlock ≠ some b) : RFrm m (SB M b) w' w' fb v l u A tag e where
  c0 := (hB.cell F.lt (fun e => nb e.symm)).trans F.c0
  c1 := (hB.cell F.lt (fun e => nb e.symm)).trans F.c1
  c2 := (hB.cell F.lt (fun e => nb e.symm)).trans F.c2
  c3 := (hB.cell F.lt (fun e => nb e.symm)).trans F.c3
  fz := fun j => (hB.frozen F.lt (fun e => nb e.symm)).trans (F.fz j)
  ownv := own_kept F.ownv hB (fun g hg e => nv (by rw [hg, e]))
  own := own_kept F.own hB (fun g hg e => nu (by rw [hg, e]))
  lo := F.lo
  nf := F.nf
  nv := F.nv
  nu := F.nu
  sf := F.sf
  su := fun g hg _ => F.su g hg (F.own.lt g hg).2
  but := But.refl _ _
theorem RS.put {nm : Nat → Bool} {M : Nat} {W0 : World} {m : Nat} {w : World} {fb b : Nat} {v : Value} {l : List Fd} {y : List Int × Int × Int} {t t' : ThP} {j : Nat} {x : Value} (h : RS nm M W0 m w fb b v l y t) (hT : ThAt nm (w.setCell ⟨b, j, none⟩ x) b t') : RS nm M W0 m (w.setCell ⟨b, j, none⟩ x) fb b v l y t' := by
  have hB : But (fun k => k = b) w (w.setCell ⟨b, j, none⟩ x) := (But.refl _ w).setCell b j _ (fun _ => rfl)
  obtain ⟨u, F, nu⟩ := h.frm
  exact ⟨⟨u, rfrm_other F hB h.nb h.nv nu, nu⟩, hT, h.nb, h.nv, h.lo, h.below.setCell h.lo.2 _⟩
theorem RS.done {nm : Nat → Bool} {M : Nat} {W0 : World} {m : Nat} {w : World} {fb b : Nat} {v : Value} {l : List Fd} {y : List Int × Int × Int} {t : ThP} (h : RS nm M W0 m w fb b v l y t) :
    Calls Tryz.prog 21 #[.pointer (some ⟨fb, 0, none⟩)] w fun e w' => e = .returned (.tuple #[.int .i64 (doneR y l).1, .int .i64 (doneR y l).2]) ∧ ThAt nm w' b t ∧ Below w.heap.size w w' := by
  obtain ⟨u, F, _⟩ := h.frm
  have D : Calls Tryz.prog 21 #[.pointer (some ⟨fb, 0, none⟩)] w fun e w' => e = .returned (.tuple #[.int .i64 (doneR y l).1, .int .i64 (doneR y l).2]) ∧ Below w.heap.size w w' := by
    unfold doneR
    by_cases e : y.2.2 = 0
    · rw [if_pos e]
      rw [e] at F
      exact refDone_ok F
    · rw [if_neg e]
      exact refDone_err F e
  refine D.mono ?_
  rintro e w' ⟨rfl, b'⟩
  exact ⟨rfl, h.th.still b', b'⟩
/-- The reference behind the asks for p0 (any, with t0 then in the block) and for the fields pre. -/
def RP (nm : Nat → Bool) (M : Nat) (W0 : World) (m : Nat) (w : World) (fb b : Nat) (v : Value) (l : List Fd) (p0 : List Pl) (t0 : ThP) (pre : List Pl) : Prop := RS nm M W0 m w fb b v l (runR l ([35], 0, 0) ((p0 ++ pre).map Pl.want)) (fil pre (runS (x0F l) (p0.map Pl.want)) t0).2
theorem fil_snoc : ∀ (a : List Pl) (p : Pl) (x : StP) (t : ThP), fil (a ++ [p]) x t = (stepW (fil a x t).1 p.want, p.got (fil a x t).1 (fil a x t).2)
  | [], p, x, t => rfl
  | q :: a, p, x, t => by
    rw [List.cons_append, fil, fil_snoc a p]
    rfl
theorem fil_more (p0 a : List Pl) (p : Pl) (l : List Fd) (t : ThP) : (fil (a ++ [p]) (runS (x0F l) (p0.map Pl.want)) t).2 = p.got (runS (x0F l) ((p0 ++ a).map Pl.want)) (fil a (runS (x0F l) (p0.map Pl.want)) t).2 := by rw [fil_snoc, fil_st, List.map_append, runS_append]
theorem runR_more (l : List Fd) (p0 a : List Pl) (p : Pl) (y : List Int × Int × Int) : runR l y ((p0 ++ (a ++ [p])).map Pl.want) = refS l (runR l y ((p0 ++ a).map Pl.want)) p.want.1 p.want.2.err := by
  unfold runR
  rw [← List.append_assoc, List.map_append, List.foldl_append]
  rfl
theorem RP.name {nm : Nat → Bool} {M : Nat} {W0 : World} {m : Nat} {w : World} {fb b : Nat} {v : Value} {l : List Fd} {p0 : List Pl} {t0 : ThP} {pre : List Pl} (h : RP nm M W0 m w fb b v l p0 t0 pre) (hA : (p0 ++ pre).length ≤ 20) (hs : ∀ t s, textO l t = some s → s.size ≤ 100000) (tag : Int) (off : Nat) (low high : Int) (h7 : off < 7) (hn : nm off = true) (hz : nm 0 = false) :
    Calls Tryz.prog 20 #[.pointer (some ⟨fb, 0, none⟩), .int .i64 tag] w fun e w' => ∃ x o, e = .returned (.string x) ∧ w'.cell? ⟨b, off, none⟩ = some (.string o) ∧ w'.frozen? ⟨b, off, none⟩ = false ∧ w'.cell? ⟨b, 0, none⟩ = some (.int .i64 ((fil pre (runS (x0F l) (p0.map Pl.want)) t0).2.2 0)) ∧ RP nm M W0 m (w'.setCell ⟨b, off, none⟩ (.string x)) fb b v l p0 t0 (pre ++ [⟨tag, true, off, low, high⟩]) := by
  obtain ⟨u, F, _⟩ := RS.frm h
  have ln := runR_len l ((p0 ++ pre).map Pl.want) ([35], 0, 0)
  rw [List.length_map] at ln
  refine (refName_any ⟨u, F⟩ (by simp only [List.length_cons, List.length_nil] at ln; omega) tag (hs tag)).mono ?_
  rintro e w' ⟨x, rfl, hx, hS⟩
  have R1 := RS.next h hS
  have T := R1.th.setText h7 hn x
  have c := R1.th.text h7 hn
  refine ⟨x, _, rfl, c, R1.th.fz off, R1.th.num (j := 0) (by omega) hz, ?_⟩
  unfold RP
  rw [fil_more, runR_more]
  have R2 := R1.put T
  rw [hx, ref_told] at R2
  rw [hx, ref_told]
  exact R2
theorem RP.int {nm : Nat → Bool} {M : Nat} {W0 : World} {m : Nat} {w : World} {fb b : Nat} {v : Value} {l : List Fd} {p0 : List Pl} {t0 : ThP} {pre : List Pl} (h : RP nm M W0 m w fb b v l p0 t0 pre) (hA : (p0 ++ pre).length ≤ 20) (hs : ∀ t s, textO l t = some s → s.size ≤ 100000) (tag : Int) (off : Nat) (low high : Int) (h7 : off < 7) (hn : nm off = false) (hz : nm 0 = false) :
    Calls Tryz.prog 19 #[.pointer (some ⟨fb, 0, none⟩), .int .i64 tag, .int .i64 low, .int .i64 high] w fun e w' => ∃ x o, e = .returned (.int .i64 x) ∧ w'.cell? ⟨b, off, none⟩ = some (.int .i64 o) ∧ w'.frozen? ⟨b, off, none⟩ = false ∧ w'.cell? ⟨b, 0, none⟩ = some (.int .i64 ((fil pre (runS (x0F l) (p0.map Pl.want)) t0).2.2 0)) ∧ RP nm M W0 m (w'.setCell ⟨b, off, none⟩ (.int .i64 x)) fb b v l p0 t0 (pre ++ [⟨tag, false, off, low, high⟩]) := by
  obtain ⟨u, F, _⟩ := RS.frm h
  have ln := runR_len l ((p0 ++ pre).map Pl.want) ([35], 0, 0)
  rw [List.length_map] at ln
  refine (refInt_any ⟨u, F⟩ (by simp only [List.length_cons, List.length_nil] at ln; omega) tag low high (hs tag)).mono ?_
  rintro e w' ⟨x, rfl, hx, hS⟩
  have R1 := RS.next h hS
  have T := R1.th.setNum h7 hn x
  have c := R1.th.num h7 hn
  refine ⟨x, _, rfl, c, R1.th.fz off, R1.th.num (j := 0) (by omega) hz, ?_⟩
  unfold RP
  rw [fil_more, runR_more]
  have R2 := R1.put T
  rw [hx, ref_told] at R2
  rw [hx, ref_told]
  exact R2
/-- A name that is not put into the block. -/
theorem RP.ask {nm : Nat → Bool} {M : Nat} {W0 : World} {m : Nat} {w : World} {fb b : Nat} {v : Value} {l : List Fd} {t0 : ThP} {pre : List Pl} (h : RP nm M W0 m w fb b v l [] t0 pre) (hA : pre.length ≤ 20) (hs : ∀ t s, textO l t = some s → s.size ≤ 100000) (p : Pl) (hp : p.isName = true) :
    Calls Tryz.prog 20 #[.pointer (some ⟨fb, 0, none⟩), .int .i64 p.tag] w fun e w' => ∃ x, e = .returned (.string x) ∧ x = gotN (x0F l) (pre.map Pl.want) p.tag ∧ RP nm M W0 m w' fb b v l (pre ++ [p]) (fil pre (x0F l) t0).2 [] := by
  obtain ⟨u, F, _⟩ := RS.frm h
  have ln := runR_len l (([] ++ pre).map Pl.want) ([35], 0, 0)
  have hA' : ([] ++ pre).length ≤ 20 := by simpa using hA
  rw [List.length_map] at ln
  refine (refName_any ⟨u, F⟩ (by simp only [List.length_cons, List.length_nil] at ln; omega) p.tag (hs p.tag)).mono ?_
  rintro e w' ⟨x, rfl, hx, hS⟩
  have R1 := RS.next h hS
  rw [ref_told] at hx
  refine ⟨x, rfl, hx, ?_⟩
  have hw : p.want = (p.tag, .name) := by unfold Pl.want; rw [if_pos hp]
  unfold RP
  have e1 := runR_more l [] pre p ([35], 0, 0)
  rw [List.nil_append, hw] at e1
  rw [List.append_nil, e1]
  exact R1
/-- A cell of the block is set between two asks. -/
theorem RP.kind {nm : Nat → Bool} {M : Nat} {W0 : World} {m : Nat} {w : World} {fb b : Nat} {v : Value} {l : List Fd} {p0 : List Pl} {t0 : ThP} (h : RP nm M W0 m w fb b v l p0 t0 []) (hn : nm 0 = false) (k : Int) : RP nm M W0 m (w.setCell ⟨b, 0, none⟩ (.int .i64 k)) fb b v l p0 (t0.1, upd t0.2 0 k) [] := RS.put h (h.th.setNum (by omega) hn k)
/-- What Done tells. -/
theorem RP.done {nm : Nat → Bool} {M : Nat} {W0 : World} {m : Nat} {w : World} {fb b : Nat} {v : Value} {l : List Fd} {p0 : List Pl} {t0 : ThP} {pre : List Pl} (h : RP nm M W0 m w fb b v l p0 t0 pre) (hn : (l.map Prod.fst).Nodup) :
    Calls Tryz.prog 21 #[.pointer (some ⟨fb, 0, none⟩)] w fun e w' => ∃ u, e = .returned (.tuple #[.int .i64 (doneE (runS (x0F l) ((p0 ++ pre).map Pl.want)) (l.map Prod.fst)).1, .int .i64 (doneE (runS (x0F l) ((p0 ++ pre).map Pl.want)) (l.map Prod.fst)).2]) ∧ ThAt nm w' b u ∧ u = (fil pre (runS (x0F l) (p0.map Pl.want)) t0).2 ∧ Below w.heap.size w w' := by
  refine (RS.done h).mono ?_
  rintro e w' ⟨rfl, T, B⟩
  rw [done_same hn]
  exact ⟨_, rfl, T, rfl, B⟩
/-- The error's number that the reference's form keeps. -/
theorem RP.err {nm : Nat → Bool} {M : Nat} {W0 : World} {m : Nat} {w : World} {fb b : Nat} {v : Value} {l : List Fd} {p0 : List Pl} {t0 : ThP} {pre : List Pl} (h : RP nm M W0 m w fb b v l p0 t0 pre) : w.cell? ⟨fb, 3, none⟩ = some (.int .i64 (runS (x0F l) ((p0 ++ pre).map Pl.want)).2.2) := by
  obtain ⟨u, F, _⟩ := RS.frm h
  rw [← (sim_run ((p0 ++ pre).map Pl.want) _ _ _ (sim_new l)).err]
  exact F.c3
theorem text_small (l : List UInt8) : ∀ t s, textO (fieldsL l).1 t = some s → s.size ≤ 100000 := by
  intro t s h
  obtain ⟨b, hb⟩ := look_some h
  obtain ⟨new, n, h1, _, _, _, h5, _⟩ := fieldsA_one 64 l [] 0
  have e : (fieldsL l).1 = new := by unfold fieldsL; rw [h1]; simp
  rw [e] at hb
  unfold lookF at hb
  cases hf : new.find? (fun f => f.1 == t) with
  | none => rw [hf] at hb; simp at hb
  | some f =>
    rw [hf] at hb
    simp only [Option.some.injEq, Prod.mk.injEq] at hb
    obtain ⟨_, _, a3, _⟩ := formE_ok (ok_form (h5 f (List.mem_of_find?_eq_some hf)))
    have := a3.2.1
    rw [← hb.1, size_eq]
    omega
end Go.Proofs.YtdbkoflejimibaaGreatDoor.PP
/-
  The statements' Order (as the reference has it); the reference's in a block; two of them held against each other.
-/
namespace Go.Proofs.YtdbkoflejimibaaGreatDoor.PP.O
open Go.ChangeShapes Go.WideShapes Go.ChangeAt Go.RowKit Go.Lib

/-- A new block that holds the reference's. -/
abbrev blkR (w : World) (t : ThP) : World := w.alloc (.cells #[.int .i64 (t.2 0), .int .i64 (t.2 1), .string (t.1 2), .string (t.1 3), .int .i64 (t.2 4), .int .i64 (t.2 5), .int .i64 (t.2 6)] 28)
theorem blkR_below (w : World) (t : ThP) : Below w.heap.size w (blkR w t) := (Below.refl _ w).alloc (Nat.le_refl _) _
theorem blkR_at (w : World) (t : ThP) : ThAt nm (blkR w t) w.heap.size t := by
  refine ⟨fun j hj => ?_, fun j => by simp⟩
  rcases (show j = 0 ∨ j = 1 ∨ j = 2 ∨ j = 3 ∨ j = 4 ∨ j = 5 ∨ j = 6 by omega) with rfl | rfl | rfl | rfl | rfl | rfl | rfl <;> simp [cellT, nm]
set_option maxHeartbeats 4000000 in
theorem plain_any (t : ThP) (w : World) :
    Calls Tryz.prog 9 #[.agg #[.int .i64 (t.2 0), .int .i64 (t.2 1), .string (t.1 2), .string (t.1 3), .int .i64 (t.2 4), .int .i64 (t.2 5), .int .i64 (t.2 6)]] w fun e w' => e = .returned (.agg #[.int .i64 (t.2 0), .int .i64 (t.2 1), .string (t.1 2), .string (t.1 3), .int .i64 (t.2 4), .int .i64 (t.2 5), .int .i64 (t.2 6)]) ∧ Below w.heap.size w w' := by
  have HB : Hid (Below w.heap.size w (blkR (boxT w t) t)) := (box_below w t).trans ((blkR_below (boxT w t) t).mono (box_below w t).size)
  go_enter Tryz.func9, Tryz.ntmps9
  go_wp2_with fail
  refine bodyPost_ret (v := .agg #[.int .i64 (t.2 0), .int .i64 (t.2 1), .string (t.1 2), .string (t.1 3), .int .i64 (t.2 4), .int .i64 (t.2 5), .int .i64 (t.2 6)]) (by simp [results, Tryz.results9, go_sem]) rfl ?_
  exact ⟨rfl, HB.out⟩
set_option maxRecDepth 100000 in
set_option maxHeartbeats 4000000 in
theorem same_runR (t : ThP) (w : World) : (Op.equalIn 10000 28 (.agg #[.int .i64 (t.2 0), .int .i64 (t.2 1), .string (t.1 2), .string (t.1 3), .int .i64 (t.2 4), .int .i64 (t.2 5), .int .i64 (t.2 6)]) (.agg #[.int .i64 (t.2 0), .int .i64 (t.2 1), .string (t.1 2), .string (t.1 3), .int .i64 (t.2 4), .int .i64 (t.2 5), .int .i64 (t.2 6)])).run Tryz.prog w = .ok true w := by
  rw [show (10000 : Nat) = 9999 + 1 from rfl, run_equalIn_struct (P := Tryz.prog) w 9999 _ _ _ (by kernel_rfl) (by kernel_rfl)]
  simp [Program.fieldsOf, Tryz.underlying28, Op.eqFields, go_sem, Tryz.underlying3, Tryz.underlying9]
end Go.Proofs.YtdbkoflejimibaaGreatDoor.PP.O
/-
  The statements' Reply (as the reference has it); the reference's in a block; two of them held against each other.
-/
namespace Go.Proofs.YtdbkoflejimibaaGreatDoor.PP.R
open Go.ChangeShapes Go.WideShapes Go.ChangeAt Go.RowKit Go.Lib

/-- A new block that holds the reference's. -/
abbrev blkR (w : World) (t : ThP) : World := w.alloc (.cells #[.int .i64 (t.2 0), .int .i64 (t.2 1), .string (t.1 2), .string (t.1 3), .int .i64 (t.2 4), .int .i64 (t.2 5), .string (t.1 6)] 35)
theorem blkR_below (w : World) (t : ThP) : Below w.heap.size w (blkR w t) := (Below.refl _ w).alloc (Nat.le_refl _) _
theorem blkR_at (w : World) (t : ThP) : ThAt nm (blkR w t) w.heap.size t := by
  refine ⟨fun j hj => ?_, fun j => by simp⟩
  rcases (show j = 0 ∨ j = 1 ∨ j = 2 ∨ j = 3 ∨ j = 4 ∨ j = 5 ∨ j = 6 by omega) with rfl | rfl | rfl | rfl | rfl | rfl | rfl <;> simp [cellT, nm]
set_option maxHeartbeats 4000000 in
theorem plain_any (t : ThP) (w : World) :
    Calls Tryz.prog 10 #[.agg #[.int .i64 (t.2 0), .int .i64 (t.2 1), .string (t.1 2), .string (t.1 3), .int .i64 (t.2 4), .int .i64 (t.2 5), .string (t.1 6)]] w fun e w' => e = .returned (.agg #[.int .i64 (t.2 0), .int .i64 (t.2 1), .string (t.1 2), .string (t.1 3), .int .i64 (t.2 4), .int .i64 (t.2 5), .string (t.1 6)]) ∧ Below w.heap.size w w' := by
  have HB : Hid (Below w.heap.size w (blkR (boxT w t) t)) := (box_below w t).trans ((blkR_below (boxT w t) t).mono (box_below w t).size)
  go_enter Tryz.func10, Tryz.ntmps10
  go_wp2_with fail
  refine bodyPost_ret (v := .agg #[.int .i64 (t.2 0), .int .i64 (t.2 1), .string (t.1 2), .string (t.1 3), .int .i64 (t.2 4), .int .i64 (t.2 5), .string (t.1 6)]) (by simp [results, Tryz.results10, go_sem]) rfl ?_
  exact ⟨rfl, HB.out⟩
set_option maxRecDepth 100000 in
set_option maxHeartbeats 4000000 in
theorem same_runR (t : ThP) (w : World) : (Op.equalIn 10000 35 (.agg #[.int .i64 (t.2 0), .int .i64 (t.2 1), .string (t.1 2), .string (t.1 3), .int .i64 (t.2 4), .int .i64 (t.2 5), .string (t.1 6)]) (.agg #[.int .i64 (t.2 0), .int .i64 (t.2 1), .string (t.1 2), .string (t.1 3), .int .i64 (t.2 4), .int .i64 (t.2 5), .string (t.1 6)])).run Tryz.prog w = .ok true w := by
  rw [show (10000 : Nat) = 9999 + 1 from rfl, run_equalIn_struct (P := Tryz.prog) w 9999 _ _ _ (by kernel_rfl) (by kernel_rfl)]
  simp [Program.fieldsOf, Tryz.underlying35, Op.eqFields, go_sem, Tryz.underlying3, Tryz.underlying9]
end Go.Proofs.YtdbkoflejimibaaGreatDoor.PP.R
/-
  The contract of the fourteenth reference's DecodeOrder, for every text.
-/
namespace Go.Proofs.YtdbkoflejimibaaGreatDoor.PP.O
open Go.ChangeShapes Go.WideShapes Go.ChangeAt Go.RowKit Go.Lib

/-- The block of the result. -/
abbrev outR (w : World) : World := (w.alloc (.cells #[.int .i64 0, .int .i64 0, .string ⟨#[]⟩, .string ⟨#[]⟩, .int .i64 0, .int .i64 0, .int .i64 0] 28))
theorem outR_below (w : World) : Below w.heap.size w (outR w) := (Below.refl _ w).alloc (Nat.le_refl _) _
theorem outR_size (w : World) : (outR w).heap.size = w.heap.size + 1 := by simp
theorem boxR_at (w : World) (t : ThP) : ThAt nm (w.alloc (.cells #[.int .i64 (t.2 0), .int .i64 (t.2 1), .string (t.1 2), .string (t.1 3), .int .i64 (t.2 4), .int .i64 (t.2 5), .int .i64 (t.2 6)] 28)) w.heap.size t := by
  refine ⟨fun j hj => ?_, fun j => by simp⟩
  rcases (show j = 0 ∨ j = 1 ∨ j = 2 ∨ j = 3 ∨ j = 4 ∨ j = 5 ∨ j = 6 by omega) with rfl | rfl | rfl | rfl | rfl | rfl | rfl <;> simp [cellT, nm]
theorem outR_at (w : World) : ThAt nm (outR w) w.heap.size (zeroT 0) := boxR_at w (zeroT 0)
/-- Where the reference stands once its own is made. -/
theorem rs_begin {w w1 : World} {fb : Nat} {v : Value} {F : List Fd} {y : List Int × Int × Int} (h : RSt (outR w).heap.size (fun j => (outR w).heap.size ≤ j) (outR w) w1 fb v F y) (t0 : ThP) : w.heap.size < w1.heap.size ∧ RS nm (w.heap.size + 1) (outR w) (w.heap.size + 1) (w1.alloc (.cells #[.int .i64 (t0.2 0), .int .i64 (t0.2 1), .string (t0.1 2), .string (t0.1 3), .int .i64 (t0.2 4), .int .i64 (t0.2 5), .int .i64 (t0.2 6)] 28)) fb w1.heap.size v F y t0 := by
  obtain ⟨u1, F1⟩ := h
  have hsz := outR_size w
  have sz : w.heap.size < w1.heap.size := by have := F1.but.size; omega
  refine ⟨sz, ?_⟩
  have bb : Below w1.heap.size w1 (w1.alloc (.cells #[.int .i64 (t0.2 0), .int .i64 (t0.2 1), .string (t0.1 2), .string (t0.1 3), .int .i64 (t0.2 4), .int .i64 (t0.2 5), .int .i64 (t0.2 6)] 28)) := (Below.refl _ w1).alloc (Nat.le_refl _) _
  have F2 := F1.still bb
  have lf := F1.lt
  rw [hsz] at F1 F2
  have lo1 := F1.lo
  refine ⟨⟨u1, F2.base ⟨by omega, by omega⟩ (fun g hg => ⟨(F2.own.lt g hg).1, by have := (F1.own.lt g hg).2; omega⟩), fun e => by have := (F1.own.lt _ e).2; omega⟩, boxR_at w1 t0, by omega, fun e => by have := (F1.ownv.lt _ e).2; omega, ⟨Nat.le_refl _, by omega⟩, ?_⟩
  have b2 : Below (w.heap.size + 1) (outR w) w1 := F1.but.below (by omega) (fun i h => h)
  exact b2.trans (bb.mono (by omega))
theorem rst_below {w w1 : World} {fb : Nat} {v : Value} {F : List Fd} {y : List Int × Int × Int} (h : RSt (outR w).heap.size (fun j => (outR w).heap.size ≤ j) (outR w) w1 fb v F y) : Below (w.heap.size + 1) (outR w) w1 := by
  obtain ⟨u1, F1⟩ := h
  have hsz := outR_size w
  rw [hsz] at F1
  exact F1.but.below (by omega) (fun i h => h)
theorem lo_size {w y : World} (h : Below (w.heap.size + 1) (outR w) y) : w.heap.size + 1 ≤ y.heap.size := by
  have := h.size
  have := outR_size w
  omega
set_option maxRecDepth 100000 in
set_option maxHeartbeats 8000000 in
theorem refDecode_read (s : ByteArray) (w : World) (hs : s.size ≤ 1000000) (hE : readE s.data.toList ≠ 0) :
    Calls Tryz.prog 6 #[.string s] w (DecOk s.data.toList w) := by
  have RD := fun w => refRead_any s w hs
  obtain ⟨E, hEE⟩ : ∃ E, readE s.data.toList = E := ⟨_, rfl⟩
  have HD : Hid (decT s.data.toList = (0, (E : Int))) := by show decT s.data.toList = _; unfold decT; rw [if_pos hE, hEE]
  have HRD : Hid (∀ w e w', RRead s.data.toList w e w' → (e = .returned (.tuple #[.pointer none, .int .i64 (E : Int)]) ∧ Below w.heap.size w w')) := fun w e w' h => by
    rcases h with ⟨_, h1, h2⟩ | ⟨h1, _⟩
    · rw [hEE] at h1; exact ⟨h1, h2⟩
    · exact absurd h1 hE
  have HN : Hid (E ≠ 0) := by show E ≠ 0; rw [← hEE]; exact hE
  have te : ((E : Int) == 0) = false := beq_false_of_ne (by have := HN.out; omega)
  clear hE hEE
  have B0 : Hid (Below w.heap.size w (outR w)) := outR_below w
  have C0 : Hid (ThAt nm (outR w) w.heap.size (zeroT 0)) := outR_at w
  go_enter Tryz.func6, Tryz.ntmps6
  go_wp2_with fail
  refine (RD _).mono ?_
  intro e w1 hrd
  obtain ⟨rfl, b1⟩ := HRD.out _ _ _ hrd
  have C1 : Hid (ThAt nm w1 w.heap.size (zeroT 0)) := C0.out.still b1
  have HB1 : Hid (Below w.heap.size w w1) := B0.out.trans (b1.mono B0.out.size)
  clear b1 RD hrd HRD
  obtain ⟨r0, r1, r2, r3, r4, r5, r6⟩ := ThAt.zero C1.out
  have z := C1.out.fz
  have P : Hid (ThAt nm (put0 w1 w.heap.size) w.heap.size (zeroT 0)) := put_at C1.out (zeroT 0)
  have PB : Hid (But (fun j => j = w.heap.size) w1 (put0 w1 w.heap.size)) := put_but w1 w.heap.size (zeroT 0)
  go_wp2_with fail
  have P' := P.out
  have PB' := PB.out
  unfold put0 at P' PB'
  clear P PB
  generalize hW9 : World.setCell _ ⟨w.heap.size, 6, none⟩ _ = W9 at *
  obtain ⟨p0, p1, p2, p3, p4, p5, p6⟩ := ThAt.zero P'
  refine bodyPost_ret (v := .tuple #[.agg #[.int .i64 0, .int .i64 0, .string ⟨#[]⟩, .string ⟨#[]⟩, .int .i64 0, .int .i64 0, .int .i64 0], .int .i64 0, .int .i64 (E : Int)]) (by simp [results, Tryz.results6, go_sem, p0, p1, p2, p3, p4, p5, p6]) rfl ?_
  exact ⟨zeroT 0, by rw [HD.out]; rfl, zero_same (by rw [HD.out]; have := HN.out; show (E : Int) ≠ 0; omega), HB1.out.trans (PB'.below HB1.out.size (fun i e => by have e' : i = w.heap.size := e; omega))⟩
theorem RS.kindO {M : Nat} {W0 : World} {m : Nat} {w : World} {fb b : Nat} {v : Value} {F : List Fd} {t : ThP} (h : RS nm M W0 m w fb b v F ([], 0, 0) t) {V : ByteArray} {r : List Fd} (hl : F = (35, V) :: r) :
    Calls Tryz.prog 18 #[.pointer (some ⟨fb, 0, none⟩)] w fun e w' => e = .returned (.string V) ∧ RS nm M W0 m w' fb b v F ([35], 0, 0) t := by
  obtain ⟨uK, FK, _⟩ := h.frm
  refine (refKind_any (w0 := w) ⟨uK, FK⟩ (by simp) V r hl).mono ?_
  rintro e w' ⟨rfl, hS⟩
  exact ⟨rfl, h.next hS⟩
theorem word_is {tk : ByteArray} (h : kindOf tk ≠ 0) : tk = wordK (kindOf tk) := by
  unfold kindOf at *
  split at h
  · rename_i e; rw [if_pos e, e]; decide
  rename_i e1
  rw [if_neg e1]
  split at h
  · rename_i e; rw [if_pos e, e]; decide
  rename_i e2
  rw [if_neg e2]
  split at h
  · rename_i e; rw [if_pos e, e]; decide
  · exact absurd rfl h
theorem word_not {tk : ByteArray} (h : kindOf tk = 0) : tk ≠ ⟨#[68]⟩ ∧ tk ≠ ⟨#[70]⟩ ∧ tk ≠ ⟨#[71]⟩ := by
  refine ⟨?_, ?_, ?_⟩ <;> (rintro rfl; revert h; decide)
set_option maxRecDepth 100000 in
set_option maxHeartbeats 16000000 in
theorem refDecode_none (s : ByteArray) (w : World) (hs : s.size ≤ 1000000) (hE : readE s.data.toList = 0) (hk : kindOf (textOf (fieldsL s.data.toList).1 35) = 0) :
    Calls Tryz.prog 6 #[.string s] w (DecOk s.data.toList w) := by
  have RD := fun w => refRead_any s w hs
  obtain ⟨_, ⟨V35, rest, hl⟩, hnd⟩ := read_head hE
  have h35 : textOf (fieldsL s.data.toList).1 35 = V35 := textOf_mem hnd (by rw [hl]; simp)
  have TS := text_small s.data.toList
  obtain ⟨F, hF⟩ : ∃ F, (fieldsL s.data.toList).1 = F := ⟨_, rfl⟩
  have hF35 : textOf F 35 = V35 := by rw [← hF]; exact h35
  rw [h35] at hk
  have HD : Hid (decT s.data.toList = (35, 120)) := by
    show decT s.data.toList = _
    unfold decT decE
    rw [if_neg (by omega), h35, if_pos hk]
  obtain ⟨n1, n2, n3⟩ := word_not hk
  have q1 : ¬ V35.toList = [68] := fun e => n1 ((bytes_iff V35 ⟨#[68]⟩).1 (e.trans (by decide +kernel)))
  have q2 : ¬ V35.toList = [70] := fun e => n2 ((bytes_iff V35 ⟨#[70]⟩).1 (e.trans (by decide +kernel)))
  have q3 : ¬ V35.toList = [71] := fun e => n3 ((bytes_iff V35 ⟨#[71]⟩).1 (e.trans (by decide +kernel)))
  have p1 : (V35.toList == [68]) = false := beq_false_of_ne q1
  have p2 : (V35.toList == [70]) = false := beq_false_of_ne q2
  have p3 : (V35.toList == [71]) = false := beq_false_of_ne q3
  clear n1 n2 n3
  have HRD : Hid (∀ w e w', RRead s.data.toList w e w' → ∃ fb v, e = .returned (.tuple #[.pointer (some ⟨fb, 0, none⟩), .int .i64 0]) ∧ RSt w.heap.size (fun j => w.heap.size ≤ j) w w' fb v F ([], 0, 0)) := fun w e w' h => by
    rcases h with ⟨h1, _⟩ | ⟨_, fb, v, h1, h2⟩
    · exact absurd hE h1
    · rw [hF] at h2; exact ⟨fb, v, h1, h2⟩
  rw [hF] at hl hnd TS
  have HND : Hid ((F.map Prod.fst).Nodup) := hnd
  have HTS : Hid (∀ t s, textO F t = some s → s.size ≤ 100000) := TS
  clear h35 hF hF35 hnd TS hE
  clear hk
  have B0 : Hid (Below w.heap.size w (outR w)) := outR_below w
  have C0 : Hid (ThAt nm (outR w) w.heap.size (zeroT 0)) := outR_at w
  go_enter Tryz.func6, Tryz.ntmps6
  go_wp2_with fail
  refine (RD _).mono ?_
  intro e w1 hrd
  obtain ⟨fb, v, rfl, hS1⟩ := HRD.out _ _ _ hrd
  obtain ⟨sz, Q0⟩ := rs_begin hS1 (zeroT 0)
  have K1 := RS.kindO Q0 hl
  clear RD hrd HRD hS1 Q0
  go_wp2_with fail
  refine K1.mono ?_
  rintro e w2 ⟨rfl, Q1⟩
  clear K1
  have BQ := Q1.below
  have C2 : Hid (ThAt nm w2 w.heap.size (zeroT 0)) := C0.out.still (by rw [outR_size]; exact BQ)
  have HB2 : Hid (Below w.heap.size w w2) := B0.out.trans (BQ.mono (by omega))
  clear BQ Q1 HND HTS sz
  obtain ⟨r0, r1, r2, r3, r4, r5, r6⟩ := ThAt.zero C2.out
  have z := C2.out.fz
  have P : Hid (ThAt nm (put0 w2 w.heap.size) w.heap.size (zeroT 0)) := put_at C2.out (zeroT 0)
  have PB : Hid (But (fun j => j = w.heap.size) w2 (put0 w2 w.heap.size)) := put_but w2 w.heap.size (zeroT 0)
  go_wp2_with fail
  have P' := P.out
  have PB' := PB.out
  unfold put0 at P' PB'
  clear P PB
  generalize hW9 : World.setCell _ ⟨w.heap.size, 6, none⟩ _ = W9 at *
  obtain ⟨p0, p1, p2, p3, p4, p5, p6⟩ := ThAt.zero P'
  refine bodyPost_ret (v := .tuple #[.agg #[.int .i64 0, .int .i64 0, .string ⟨#[]⟩, .string ⟨#[]⟩, .int .i64 0, .int .i64 0, .int .i64 0], .int .i64 35, .int .i64 120]) (by simp [results, Tryz.results6, go_sem, p0, p1, p2, p3, p4, p5, p6]) rfl ?_
  exact ⟨zeroT 0, by rw [HD.out]; rfl, zero_same (by rw [HD.out]; simp), HB2.out.trans (PB'.below HB2.out.size (fun i e => by have e' : i = w.heap.size := e; omega))⟩
set_option maxRecDepth 100000 in
set_option maxHeartbeats 16000000 in
theorem refDecode_1 (s : ByteArray) (w : World) (hs : s.size ≤ 1000000) (hE : readE s.data.toList = 0) (hk : kindOf (textOf (fieldsL s.data.toList).1 35) = 1) :
    Calls Tryz.prog 6 #[.string s] w (DecOk s.data.toList w) := by
  have RD := fun w => refRead_any s w hs
  obtain ⟨_, ⟨V35, rest, hl⟩, hnd⟩ := read_head hE
  have h35 : textOf (fieldsL s.data.toList).1 35 = V35 := textOf_mem hnd (by rw [hl]; simp)
  have TS := text_small s.data.toList
  obtain ⟨F, hF⟩ : ∃ F, (fieldsL s.data.toList).1 = F := ⟨_, rfl⟩
  have hF35 : textOf F 35 = V35 := by rw [← hF]; exact h35
  rw [h35] at hk
  have HDT : Hid (decT s.data.toList = doneE (runS (x0F F) ((listK 1).map Pl.want)) (F.map Prod.fst)) := by
    show decT s.data.toList = _
    unfold decT decE
    rw [if_neg (by omega), hF, hF35, hk, if_neg (by omega)]
  have HAK : Hid ((decT s.data.toList).2 = 0 → decA s.data.toList = tolds (listK 1) F (zeroT 1)) := fun h => by
    unfold decA decK
    rw [if_pos h, hF, hF35, hk]
  have hv := word_is (tk := V35) (by omega)
  rw [hk] at hv
  have hv' : V35 = ⟨#[68]⟩ := hv
  subst hv'
  clear hv
  have HRD : Hid (∀ w e w', RRead s.data.toList w e w' → ∃ fb v, e = .returned (.tuple #[.pointer (some ⟨fb, 0, none⟩), .int .i64 0]) ∧ RSt w.heap.size (fun j => w.heap.size ≤ j) w w' fb v F ([], 0, 0)) := fun w e w' h => by
    rcases h with ⟨h1, _⟩ | ⟨_, fb, v, h1, h2⟩
    · exact absurd hE h1
    · rw [hF] at h2; exact ⟨fb, v, h1, h2⟩
  rw [hF] at hl hnd TS
  have HND : Hid ((F.map Prod.fst).Nodup) := hnd
  have HTS : Hid (∀ t s, textO F t = some s → s.size ≤ 100000) := TS
  clear h35 hF hF35 hnd TS hE
  clear hk
  have B0 : Hid (Below w.heap.size w (outR w)) := outR_below w
  have C0 : Hid (ThAt nm (outR w) w.heap.size (zeroT 0)) := outR_at w
  go_enter Tryz.func6, Tryz.ntmps6
  go_wp2_with fail
  refine (RD _).mono ?_
  intro e w1 hrd
  obtain ⟨fb, v, rfl, hS1⟩ := HRD.out _ _ _ hrd
  obtain ⟨sz, Q0⟩ := rs_begin hS1 (zeroT 0)
  have K1 := RS.kindO Q0 hl
  clear RD hrd HRD hS1 Q0
  go_wp2_with fail
  refine K1.mono ?_
  rintro e w2 ⟨rfl, Q1⟩
  clear K1
  have ck := Q1.th.cell 0 (by omega)
  have zk := Q1.th.fz 0
  have ck' : w2.cell? ⟨w1.heap.size, 0, none⟩ = some (.int .i64 0) := ck
  have Q2 : Hid (RP nm (w.heap.size + 1) (outR w) (w.heap.size + 1) (w2.setCell ⟨w1.heap.size, 0, none⟩ (.int .i64 1)) fb w1.heap.size v F [] (zeroT 1) []) := by
    have T0 : (((zeroT 0).1, upd (zeroT 0).2 0 1) : ThP) = zeroT 1 := by
      unfold zeroT upd
      simp only [Prod.mk.injEq, true_and]
      funext j
      by_cases e : j = 0
      · simp [e]
      · simp [e]
    have := RS.put Q1 (Q1.th.setNum (o := 0) (by omega) rfl 1)
    rw [T0] at this
    exact this
  clear Q1 ck sz
  have F0 := Q2.out.int (by decide) HTS.out 34 1 1 1099511627776 (by decide) rfl rfl
  go_wp2_with fail
  refine F0.mono ?_
  rintro e y0 ⟨x0, o0, rfl, c0, z0, k0, P0⟩
  have j0 : y0.cell? ⟨w1.heap.size, 0, none⟩ = some (.int .i64 1) := k0
  have R0 : Hid (RP nm (w.heap.size + 1) (outR w) (w.heap.size + 1) (y0.setCell ⟨w1.heap.size, 1, none⟩ (.int .i64 x0)) fb w1.heap.size v F [] (zeroT 1) [⟨34, false, 1, 1, 1099511627776⟩]) := P0
  clear F0 P0 k0 Q2 ck' zk
  have F1 := R0.out.name (by decide) HTS.out 11 2 0 0 (by decide) rfl rfl
  go_wp2_with fail
  refine F1.mono ?_
  rintro e y1 ⟨x1, o1, rfl, c1, z1, k1, P1⟩
  have j1 : y1.cell? ⟨w1.heap.size, 0, none⟩ = some (.int .i64 1) := k1
  have R1 : Hid (RP nm (w.heap.size + 1) (outR w) (w.heap.size + 1) (y1.setCell ⟨w1.heap.size, 2, none⟩ (.string x1)) fb w1.heap.size v F [] (zeroT 1) [⟨34, false, 1, 1, 1099511627776⟩, ⟨11, true, 2, 0, 0⟩]) := P1
  clear F1 P1 k1 R0 c0 z0 j0
  have F2 := R1.out.name (by decide) HTS.out 55 3 0 0 (by decide) rfl rfl
  go_wp2_with fail
  refine F2.mono ?_
  rintro e y2 ⟨x2, o2, rfl, c2, z2, k2, P2⟩
  have j2 : y2.cell? ⟨w1.heap.size, 0, none⟩ = some (.int .i64 1) := k2
  have R2 : Hid (RP nm (w.heap.size + 1) (outR w) (w.heap.size + 1) (y2.setCell ⟨w1.heap.size, 3, none⟩ (.string x2)) fb w1.heap.size v F [] (zeroT 1) [⟨34, false, 1, 1, 1099511627776⟩, ⟨11, true, 2, 0, 0⟩, ⟨55, true, 3, 0, 0⟩]) := P2
  clear F2 P2 k2 R1 c1 z1 j1
  have F3 := R2.out.int (by decide) HTS.out 54 4 1 2 (by decide) rfl rfl
  go_wp2_with fail
  refine F3.mono ?_
  rintro e y3 ⟨x3, o3, rfl, c3, z3, k3, P3⟩
  have j3 : y3.cell? ⟨w1.heap.size, 0, none⟩ = some (.int .i64 1) := k3
  have R3 : Hid (RP nm (w.heap.size + 1) (outR w) (w.heap.size + 1) (y3.setCell ⟨w1.heap.size, 4, none⟩ (.int .i64 x3)) fb w1.heap.size v F [] (zeroT 1) [⟨34, false, 1, 1, 1099511627776⟩, ⟨11, true, 2, 0, 0⟩, ⟨55, true, 3, 0, 0⟩, ⟨54, false, 4, 1, 2⟩]) := P3
  clear F3 P3 k3 R2 c2 z2 j2
  have F4 := R3.out.int (by decide) HTS.out 38 5 1 1099511627776 (by decide) rfl rfl
  go_wp2_with fail
  refine F4.mono ?_
  rintro e y4 ⟨x4, o4, rfl, c4, z4, k4, P4⟩
  have j4 : y4.cell? ⟨w1.heap.size, 0, none⟩ = some (.int .i64 1) := k4
  have R4 : Hid (RP nm (w.heap.size + 1) (outR w) (w.heap.size + 1) (y4.setCell ⟨w1.heap.size, 5, none⟩ (.int .i64 x4)) fb w1.heap.size v F [] (zeroT 1) [⟨34, false, 1, 1, 1099511627776⟩, ⟨11, true, 2, 0, 0⟩, ⟨55, true, 3, 0, 0⟩, ⟨54, false, 4, 1, 2⟩, ⟨38, false, 5, 1, 1099511627776⟩]) := P4
  clear F4 P4 k4 R3 c3 z3 j3
  have F5 := R4.out.int (by decide) HTS.out 44 6 1 1099511627776 (by decide) rfl rfl
  go_wp2_with fail
  refine F5.mono ?_
  rintro e y5 ⟨x5, o5, rfl, c5, z5, k5, P5⟩
  have j5 : y5.cell? ⟨w1.heap.size, 0, none⟩ = some (.int .i64 1) := k5
  have R5 : Hid (RP nm (w.heap.size + 1) (outR w) (w.heap.size + 1) (y5.setCell ⟨w1.heap.size, 6, none⟩ (.int .i64 x5)) fb w1.heap.size v F [] (zeroT 1) [⟨34, false, 1, 1, 1099511627776⟩, ⟨11, true, 2, 0, 0⟩, ⟨55, true, 3, 0, 0⟩, ⟨54, false, 4, 1, 2⟩, ⟨38, false, 5, 1, 1099511627776⟩, ⟨44, false, 6, 1, 1099511627776⟩]) := P5
  clear F5 P5 k5 R4 c4 z4 j4
  have DN := RP.done R5.out HND.out
  have HBR : Hid (Below (w.heap.size + 1) (outR w) (y5.setCell ⟨w1.heap.size, 6, none⟩ (.int .i64 x5))) := RS.below R5.out
  obtain ⟨DT, DE, hDD⟩ : ∃ DT DE, doneE (runS (x0F F) ((listK 1).map Pl.want)) (F.map Prod.fst) = (DT, DE) := ⟨_, _, rfl⟩
  have HY : Hid ((doneE (runS (x0F F) ((listK 1).map Pl.want)) (F.map Prod.fst)).2 = 0 → DE = 0) := fun h => by rw [hDD] at h; exact h
  have HYB : Hid (DE = 0 → (doneE (runS (x0F F) ((listK 1).map Pl.want)) (F.map Prod.fst)).2 = 0) := fun h => by rw [hDD]; exact h
  have e1 : doneE (runS (x0F F) ((([] : List Pl) ++ ([⟨34, false, 1, 1, 1099511627776⟩, ⟨11, true, 2, 0, 0⟩, ⟨55, true, 3, 0, 0⟩, ⟨54, false, 4, 1, 2⟩, ⟨38, false, 5, 1, 1099511627776⟩, ⟨44, false, 6, 1, 1099511627776⟩] : List Pl)).map Pl.want)) (F.map Prod.fst) = (DT, DE) := hDD
  rw [e1] at DN
  dsimp only at DN
  clear e1
  have HDD : Hid (decT s.data.toList = (DT, DE)) := by show decT s.data.toList = _; rw [HDT.out]; exact hDD
  clear hDD R5
  go_wp2_with fail
  refine DN.mono ?_
  rintro e w9 ⟨u, rfl, T9, hu, b9⟩
  have HB9 : Hid (Below (w.heap.size + 1) (outR w) w9) := HBR.out.trans (b9.mono (lo_size HBR.out))
  have C9 : Hid (ThAt nm w9 w.heap.size (zeroT 0)) := C0.out.still (by rw [outR_size]; exact HB9.out)
  have HBW : Hid (Below w.heap.size w w9) := B0.out.trans (HB9.out.mono (by omega))
  have HT9 : Hid (ThAt nm w9 w1.heap.size u) := T9
  have HU : Hid (u = (fil (listK 1) (x0F F) (zeroT 1)).2) := hu
  clear DN T9 hu b9 HBR HB9 c5 z5 j5
  by_cases hDE : DE = 0
  case neg =>
    have te : (DE == 0) = false := beq_false_of_ne hDE
    have HN : Hid (DE ≠ 0) := hDE
    clear hDE
    obtain ⟨r0, r1, r2, r3, r4, r5, r6⟩ := ThAt.zero C9.out
    have z := C9.out.fz
    have P : Hid (ThAt nm (put0 w9 w.heap.size) w.heap.size (zeroT 0)) := put_at C9.out (zeroT 0)
    have PB : Hid (But (fun j => j = w.heap.size) w9 (put0 w9 w.heap.size)) := put_but w9 w.heap.size (zeroT 0)
    go_wp2_with fail
    have P' := P.out
    have PB' := PB.out
    unfold put0 at P' PB'
    clear P PB
    generalize hW9 : World.setCell _ ⟨w.heap.size, 6, none⟩ _ = W9 at *
    obtain ⟨p0, p1, p2, p3, p4, p5, p6⟩ := ThAt.zero P'
    refine bodyPost_ret (v := .tuple #[.agg #[.int .i64 0, .int .i64 0, .string ⟨#[]⟩, .string ⟨#[]⟩, .int .i64 0, .int .i64 0, .int .i64 0], .int .i64 DT, .int .i64 DE]) (by simp [results, Tryz.results6, go_sem, p0, p1, p2, p3, p4, p5, p6]) rfl ?_
    exact ⟨zeroT 0, by rw [HDD.out]; rfl, zero_same (by rw [HDD.out]; exact HN.out), HBW.out.trans (PB'.below HBW.out.size (fun i e => by have e' : i = w.heap.size := e; omega))⟩
  case pos =>
    have h0 : (decT s.data.toList).2 = 0 := by rw [HDD.out]; exact hDE
    have HSM : Hid (Same u (decA s.data.toList)) := by
      show Same u _
      rw [HAK.out h0, HU.out]
      have := fil_told (l := F) (listK 1) [] (zeroT 1) ((done_run (HYB.out hDE)).1)
      rw [show runS (x0F F) (([] : List Pl).map Pl.want) = x0F F from rfl] at this
      rw [this]
      exact Same.refl _
    have HZ : Hid (decT s.data.toList = (0, 0)) := (decT_zero h0).1
    clear h0
    subst hDE
    obtain ⟨r0, r1, r2, r3, r4, r5, r6⟩ := ThAt.zero C9.out
    have z := C9.out.fz
    obtain ⟨d0, d1, d2, d3, d4, d5, d6⟩ := ThAt.all HT9.out
    have P : Hid (ThAt nm (put7 w9 w.heap.size u) w.heap.size u) := put_at C9.out u
    have PB : Hid (But (fun j => j = w.heap.size) w9 (put7 w9 w.heap.size u)) := put_but w9 w.heap.size u
    go_wp2_with fail
    have P' := P.out
    have PB' := PB.out
    unfold put7 at P' PB'
    clear P PB
    generalize hW9 : World.setCell _ ⟨w.heap.size, 6, none⟩ _ = W9 at *
    obtain ⟨p0, p1, p2, p3, p4, p5, p6⟩ := ThAt.all P'
    refine bodyPost_ret (v := .tuple #[.agg #[.int .i64 (u.2 0), .int .i64 (u.2 1), .string (u.1 2), .string (u.1 3), .int .i64 (u.2 4), .int .i64 (u.2 5), .int .i64 (u.2 6)], .int .i64 0, .int .i64 0]) (by simp [results, Tryz.results6, go_sem, p0, p1, p2, p3, p4, p5, p6]) rfl ?_
    exact ⟨u, by rw [HZ.out]; rfl, HSM.out, HBW.out.trans (PB'.below HBW.out.size (fun i e => by have e' : i = w.heap.size := e; omega))⟩
set_option maxRecDepth 100000 in
set_option maxHeartbeats 16000000 in
theorem refDecode_2 (s : ByteArray) (w : World) (hs : s.size ≤ 1000000) (hE : readE s.data.toList = 0) (hk : kindOf (textOf (fieldsL s.data.toList).1 35) = 2) :
    Calls Tryz.prog 6 #[.string s] w (DecOk s.data.toList w) := by
  have RD := fun w => refRead_any s w hs
  obtain ⟨_, ⟨V35, rest, hl⟩, hnd⟩ := read_head hE
  have h35 : textOf (fieldsL s.data.toList).1 35 = V35 := textOf_mem hnd (by rw [hl]; simp)
  have TS := text_small s.data.toList
  obtain ⟨F, hF⟩ : ∃ F, (fieldsL s.data.toList).1 = F := ⟨_, rfl⟩
  have hF35 : textOf F 35 = V35 := by rw [← hF]; exact h35
  rw [h35] at hk
  have HDT : Hid (decT s.data.toList = doneE (runS (x0F F) ((listK 2).map Pl.want)) (F.map Prod.fst)) := by
    show decT s.data.toList = _
    unfold decT decE
    rw [if_neg (by omega), hF, hF35, hk, if_neg (by omega)]
  have HAK : Hid ((decT s.data.toList).2 = 0 → decA s.data.toList = tolds (listK 2) F (zeroT 2)) := fun h => by
    unfold decA decK
    rw [if_pos h, hF, hF35, hk]
  have hv := word_is (tk := V35) (by omega)
  rw [hk] at hv
  have hv' : V35 = ⟨#[70]⟩ := hv
  subst hv'
  clear hv
  have HRD : Hid (∀ w e w', RRead s.data.toList w e w' → ∃ fb v, e = .returned (.tuple #[.pointer (some ⟨fb, 0, none⟩), .int .i64 0]) ∧ RSt w.heap.size (fun j => w.heap.size ≤ j) w w' fb v F ([], 0, 0)) := fun w e w' h => by
    rcases h with ⟨h1, _⟩ | ⟨_, fb, v, h1, h2⟩
    · exact absurd hE h1
    · rw [hF] at h2; exact ⟨fb, v, h1, h2⟩
  rw [hF] at hl hnd TS
  have HND : Hid ((F.map Prod.fst).Nodup) := hnd
  have HTS : Hid (∀ t s, textO F t = some s → s.size ≤ 100000) := TS
  clear h35 hF hF35 hnd TS hE
  clear hk
  have B0 : Hid (Below w.heap.size w (outR w)) := outR_below w
  have C0 : Hid (ThAt nm (outR w) w.heap.size (zeroT 0)) := outR_at w
  go_enter Tryz.func6, Tryz.ntmps6
  go_wp2_with fail
  refine (RD _).mono ?_
  intro e w1 hrd
  obtain ⟨fb, v, rfl, hS1⟩ := HRD.out _ _ _ hrd
  obtain ⟨sz, Q0⟩ := rs_begin hS1 (zeroT 0)
  have K1 := RS.kindO Q0 hl
  clear RD hrd HRD hS1 Q0
  go_wp2_with fail
  refine K1.mono ?_
  rintro e w2 ⟨rfl, Q1⟩
  clear K1
  have ck := Q1.th.cell 0 (by omega)
  have zk := Q1.th.fz 0
  have ck' : w2.cell? ⟨w1.heap.size, 0, none⟩ = some (.int .i64 0) := ck
  have Q2 : Hid (RP nm (w.heap.size + 1) (outR w) (w.heap.size + 1) (w2.setCell ⟨w1.heap.size, 0, none⟩ (.int .i64 2)) fb w1.heap.size v F [] (zeroT 2) []) := by
    have T0 : (((zeroT 0).1, upd (zeroT 0).2 0 2) : ThP) = zeroT 2 := by
      unfold zeroT upd
      simp only [Prod.mk.injEq, true_and]
      funext j
      by_cases e : j = 0
      · simp [e]
      · simp [e]
    have := RS.put Q1 (Q1.th.setNum (o := 0) (by omega) rfl 2)
    rw [T0] at this
    exact this
  clear Q1 ck sz
  have F0 := Q2.out.int (by decide) HTS.out 34 1 1 1099511627776 (by decide) rfl rfl
  go_wp2_with fail
  refine F0.mono ?_
  rintro e y0 ⟨x0, o0, rfl, c0, z0, k0, P0⟩
  have j0 : y0.cell? ⟨w1.heap.size, 0, none⟩ = some (.int .i64 2) := k0
  have R0 : Hid (RP nm (w.heap.size + 1) (outR w) (w.heap.size + 1) (y0.setCell ⟨w1.heap.size, 1, none⟩ (.int .i64 x0)) fb w1.heap.size v F [] (zeroT 2) [⟨34, false, 1, 1, 1099511627776⟩]) := P0
  clear F0 P0 k0 Q2 ck' zk
  have F1 := R0.out.name (by decide) HTS.out 11 2 0 0 (by decide) rfl rfl
  go_wp2_with fail
  refine F1.mono ?_
  rintro e y1 ⟨x1, o1, rfl, c1, z1, k1, P1⟩
  have j1 : y1.cell? ⟨w1.heap.size, 0, none⟩ = some (.int .i64 2) := k1
  have R1 : Hid (RP nm (w.heap.size + 1) (outR w) (w.heap.size + 1) (y1.setCell ⟨w1.heap.size, 2, none⟩ (.string x1)) fb w1.heap.size v F [] (zeroT 2) [⟨34, false, 1, 1, 1099511627776⟩, ⟨11, true, 2, 0, 0⟩]) := P1
  clear F1 P1 k1 R0 c0 z0 j0
  have DN := RP.done R1.out HND.out
  have HBR : Hid (Below (w.heap.size + 1) (outR w) (y1.setCell ⟨w1.heap.size, 2, none⟩ (.string x1))) := RS.below R1.out
  obtain ⟨DT, DE, hDD⟩ : ∃ DT DE, doneE (runS (x0F F) ((listK 2).map Pl.want)) (F.map Prod.fst) = (DT, DE) := ⟨_, _, rfl⟩
  have HY : Hid ((doneE (runS (x0F F) ((listK 2).map Pl.want)) (F.map Prod.fst)).2 = 0 → DE = 0) := fun h => by rw [hDD] at h; exact h
  have HYB : Hid (DE = 0 → (doneE (runS (x0F F) ((listK 2).map Pl.want)) (F.map Prod.fst)).2 = 0) := fun h => by rw [hDD]; exact h
  have e1 : doneE (runS (x0F F) ((([] : List Pl) ++ ([⟨34, false, 1, 1, 1099511627776⟩, ⟨11, true, 2, 0, 0⟩] : List Pl)).map Pl.want)) (F.map Prod.fst) = (DT, DE) := hDD
  rw [e1] at DN
  dsimp only at DN
  clear e1
  have HDD : Hid (decT s.data.toList = (DT, DE)) := by show decT s.data.toList = _; rw [HDT.out]; exact hDD
  clear hDD R1
  go_wp2_with fail
  refine DN.mono ?_
  rintro e w9 ⟨u, rfl, T9, hu, b9⟩
  have HB9 : Hid (Below (w.heap.size + 1) (outR w) w9) := HBR.out.trans (b9.mono (lo_size HBR.out))
  have C9 : Hid (ThAt nm w9 w.heap.size (zeroT 0)) := C0.out.still (by rw [outR_size]; exact HB9.out)
  have HBW : Hid (Below w.heap.size w w9) := B0.out.trans (HB9.out.mono (by omega))
  have HT9 : Hid (ThAt nm w9 w1.heap.size u) := T9
  have HU : Hid (u = (fil (listK 2) (x0F F) (zeroT 2)).2) := hu
  clear DN T9 hu b9 HBR HB9 c1 z1 j1
  by_cases hDE : DE = 0
  case neg =>
    have te : (DE == 0) = false := beq_false_of_ne hDE
    have HN : Hid (DE ≠ 0) := hDE
    clear hDE
    obtain ⟨r0, r1, r2, r3, r4, r5, r6⟩ := ThAt.zero C9.out
    have z := C9.out.fz
    have P : Hid (ThAt nm (put0 w9 w.heap.size) w.heap.size (zeroT 0)) := put_at C9.out (zeroT 0)
    have PB : Hid (But (fun j => j = w.heap.size) w9 (put0 w9 w.heap.size)) := put_but w9 w.heap.size (zeroT 0)
    go_wp2_with fail
    have P' := P.out
    have PB' := PB.out
    unfold put0 at P' PB'
    clear P PB
    generalize hW9 : World.setCell _ ⟨w.heap.size, 6, none⟩ _ = W9 at *
    obtain ⟨p0, p1, p2, p3, p4, p5, p6⟩ := ThAt.zero P'
    refine bodyPost_ret (v := .tuple #[.agg #[.int .i64 0, .int .i64 0, .string ⟨#[]⟩, .string ⟨#[]⟩, .int .i64 0, .int .i64 0, .int .i64 0], .int .i64 DT, .int .i64 DE]) (by simp [results, Tryz.results6, go_sem, p0, p1, p2, p3, p4, p5, p6]) rfl ?_
    exact ⟨zeroT 0, by rw [HDD.out]; rfl, zero_same (by rw [HDD.out]; exact HN.out), HBW.out.trans (PB'.below HBW.out.size (fun i e => by have e' : i = w.heap.size := e; omega))⟩
  case pos =>
    have h0 : (decT s.data.toList).2 = 0 := by rw [HDD.out]; exact hDE
    have HSM : Hid (Same u (decA s.data.toList)) := by
      show Same u _
      rw [HAK.out h0, HU.out]
      have := fil_told (l := F) (listK 2) [] (zeroT 2) ((done_run (HYB.out hDE)).1)
      rw [show runS (x0F F) (([] : List Pl).map Pl.want) = x0F F from rfl] at this
      rw [this]
      exact Same.refl _
    have HZ : Hid (decT s.data.toList = (0, 0)) := (decT_zero h0).1
    clear h0
    subst hDE
    obtain ⟨r0, r1, r2, r3, r4, r5, r6⟩ := ThAt.zero C9.out
    have z := C9.out.fz
    obtain ⟨d0, d1, d2, d3, d4, d5, d6⟩ := ThAt.all HT9.out
    have P : Hid (ThAt nm (put7 w9 w.heap.size u) w.heap.size u) := put_at C9.out u
    have PB : Hid (But (fun j => j = w.heap.size) w9 (put7 w9 w.heap.size u)) := put_but w9 w.heap.size u
    go_wp2_with fail
    have P' := P.out
    have PB' := PB.out
    unfold put7 at P' PB'
    clear P PB
    generalize hW9 : World.setCell _ ⟨w.heap.size, 6, none⟩ _ = W9 at *
    obtain ⟨p0, p1, p2, p3, p4, p5, p6⟩ := ThAt.all P'
    refine bodyPost_ret (v := .tuple #[.agg #[.int .i64 (u.2 0), .int .i64 (u.2 1), .string (u.1 2), .string (u.1 3), .int .i64 (u.2 4), .int .i64 (u.2 5), .int .i64 (u.2 6)], .int .i64 0, .int .i64 0]) (by simp [results, Tryz.results6, go_sem, p0, p1, p2, p3, p4, p5, p6]) rfl ?_
    exact ⟨u, by rw [HZ.out]; rfl, HSM.out, HBW.out.trans (PB'.below HBW.out.size (fun i e => by have e' : i = w.heap.size := e; omega))⟩
set_option maxRecDepth 100000 in
set_option maxHeartbeats 16000000 in
theorem refDecode_3 (s : ByteArray) (w : World) (hs : s.size ≤ 1000000) (hE : readE s.data.toList = 0) (hk : kindOf (textOf (fieldsL s.data.toList).1 35) = 3) :
    Calls Tryz.prog 6 #[.string s] w (DecOk s.data.toList w) := by
  have RD := fun w => refRead_any s w hs
  obtain ⟨_, ⟨V35, rest, hl⟩, hnd⟩ := read_head hE
  have h35 : textOf (fieldsL s.data.toList).1 35 = V35 := textOf_mem hnd (by rw [hl]; simp)
  have TS := text_small s.data.toList
  obtain ⟨F, hF⟩ : ∃ F, (fieldsL s.data.toList).1 = F := ⟨_, rfl⟩
  have hF35 : textOf F 35 = V35 := by rw [← hF]; exact h35
  rw [h35] at hk
  have HDT : Hid (decT s.data.toList = doneE (runS (x0F F) ((listK 3).map Pl.want)) (F.map Prod.fst)) := by
    show decT s.data.toList = _
    unfold decT decE
    rw [if_neg (by omega), hF, hF35, hk, if_neg (by omega)]
  have HAK : Hid ((decT s.data.toList).2 = 0 → decA s.data.toList = tolds (listK 3) F (zeroT 3)) := fun h => by
    unfold decA decK
    rw [if_pos h, hF, hF35, hk]
  have hv := word_is (tk := V35) (by omega)
  rw [hk] at hv
  have hv' : V35 = ⟨#[71]⟩ := hv
  subst hv'
  clear hv
  have HRD : Hid (∀ w e w', RRead s.data.toList w e w' → ∃ fb v, e = .returned (.tuple #[.pointer (some ⟨fb, 0, none⟩), .int .i64 0]) ∧ RSt w.heap.size (fun j => w.heap.size ≤ j) w w' fb v F ([], 0, 0)) := fun w e w' h => by
    rcases h with ⟨h1, _⟩ | ⟨_, fb, v, h1, h2⟩
    · exact absurd hE h1
    · rw [hF] at h2; exact ⟨fb, v, h1, h2⟩
  rw [hF] at hl hnd TS
  have HND : Hid ((F.map Prod.fst).Nodup) := hnd
  have HTS : Hid (∀ t s, textO F t = some s → s.size ≤ 100000) := TS
  clear h35 hF hF35 hnd TS hE
  clear hk
  have B0 : Hid (Below w.heap.size w (outR w)) := outR_below w
  have C0 : Hid (ThAt nm (outR w) w.heap.size (zeroT 0)) := outR_at w
  go_enter Tryz.func6, Tryz.ntmps6
  go_wp2_with fail
  refine (RD _).mono ?_
  intro e w1 hrd
  obtain ⟨fb, v, rfl, hS1⟩ := HRD.out _ _ _ hrd
  obtain ⟨sz, Q0⟩ := rs_begin hS1 (zeroT 0)
  have K1 := RS.kindO Q0 hl
  clear RD hrd HRD hS1 Q0
  go_wp2_with fail
  refine K1.mono ?_
  rintro e w2 ⟨rfl, Q1⟩
  clear K1
  have ck := Q1.th.cell 0 (by omega)
  have zk := Q1.th.fz 0
  have ck' : w2.cell? ⟨w1.heap.size, 0, none⟩ = some (.int .i64 0) := ck
  have Q2 : Hid (RP nm (w.heap.size + 1) (outR w) (w.heap.size + 1) (w2.setCell ⟨w1.heap.size, 0, none⟩ (.int .i64 3)) fb w1.heap.size v F [] (zeroT 3) []) := by
    have T0 : (((zeroT 0).1, upd (zeroT 0).2 0 3) : ThP) = zeroT 3 := by
      unfold zeroT upd
      simp only [Prod.mk.injEq, true_and]
      funext j
      by_cases e : j = 0
      · simp [e]
      · simp [e]
    have := RS.put Q1 (Q1.th.setNum (o := 0) (by omega) rfl 3)
    rw [T0] at this
    exact this
  clear Q1 ck sz
  have F0 := Q2.out.int (by decide) HTS.out 34 1 1 1099511627776 (by decide) rfl rfl
  go_wp2_with fail
  refine F0.mono ?_
  rintro e y0 ⟨x0, o0, rfl, c0, z0, k0, P0⟩
  have j0 : y0.cell? ⟨w1.heap.size, 0, none⟩ = some (.int .i64 3) := k0
  have R0 : Hid (RP nm (w.heap.size + 1) (outR w) (w.heap.size + 1) (y0.setCell ⟨w1.heap.size, 1, none⟩ (.int .i64 x0)) fb w1.heap.size v F [] (zeroT 3) [⟨34, false, 1, 1, 1099511627776⟩]) := P0
  clear F0 P0 k0 Q2 ck' zk
  have F1 := R0.out.name (by decide) HTS.out 11 2 0 0 (by decide) rfl rfl
  go_wp2_with fail
  refine F1.mono ?_
  rintro e y1 ⟨x1, o1, rfl, c1, z1, k1, P1⟩
  have j1 : y1.cell? ⟨w1.heap.size, 0, none⟩ = some (.int .i64 3) := k1
  have R1 : Hid (RP nm (w.heap.size + 1) (outR w) (w.heap.size + 1) (y1.setCell ⟨w1.heap.size, 2, none⟩ (.string x1)) fb w1.heap.size v F [] (zeroT 3) [⟨34, false, 1, 1, 1099511627776⟩, ⟨11, true, 2, 0, 0⟩]) := P1
  clear F1 P1 k1 R0 c0 z0 j0
  have F2 := R1.out.int (by decide) HTS.out 38 5 1 1099511627776 (by decide) rfl rfl
  go_wp2_with fail
  refine F2.mono ?_
  rintro e y2 ⟨x2, o2, rfl, c2, z2, k2, P2⟩
  have j2 : y2.cell? ⟨w1.heap.size, 0, none⟩ = some (.int .i64 3) := k2
  have R2 : Hid (RP nm (w.heap.size + 1) (outR w) (w.heap.size + 1) (y2.setCell ⟨w1.heap.size, 5, none⟩ (.int .i64 x2)) fb w1.heap.size v F [] (zeroT 3) [⟨34, false, 1, 1, 1099511627776⟩, ⟨11, true, 2, 0, 0⟩, ⟨38, false, 5, 1, 1099511627776⟩]) := P2
  clear F2 P2 k2 R1 c1 z1 j1
  have F3 := R2.out.int (by decide) HTS.out 44 6 1 1099511627776 (by decide) rfl rfl
  go_wp2_with fail
  refine F3.mono ?_
  rintro e y3 ⟨x3, o3, rfl, c3, z3, k3, P3⟩
  have j3 : y3.cell? ⟨w1.heap.size, 0, none⟩ = some (.int .i64 3) := k3
  have R3 : Hid (RP nm (w.heap.size + 1) (outR w) (w.heap.size + 1) (y3.setCell ⟨w1.heap.size, 6, none⟩ (.int .i64 x3)) fb w1.heap.size v F [] (zeroT 3) [⟨34, false, 1, 1, 1099511627776⟩, ⟨11, true, 2, 0, 0⟩, ⟨38, false, 5, 1, 1099511627776⟩, ⟨44, false, 6, 1, 1099511627776⟩]) := P3
  clear F3 P3 k3 R2 c2 z2 j2
  have DN := RP.done R3.out HND.out
  have HBR : Hid (Below (w.heap.size + 1) (outR w) (y3.setCell ⟨w1.heap.size, 6, none⟩ (.int .i64 x3))) := RS.below R3.out
  obtain ⟨DT, DE, hDD⟩ : ∃ DT DE, doneE (runS (x0F F) ((listK 3).map Pl.want)) (F.map Prod.fst) = (DT, DE) := ⟨_, _, rfl⟩
  have HY : Hid ((doneE (runS (x0F F) ((listK 3).map Pl.want)) (F.map Prod.fst)).2 = 0 → DE = 0) := fun h => by rw [hDD] at h; exact h
  have HYB : Hid (DE = 0 → (doneE (runS (x0F F) ((listK 3).map Pl.want)) (F.map Prod.fst)).2 = 0) := fun h => by rw [hDD]; exact h
  have e1 : doneE (runS (x0F F) ((([] : List Pl) ++ ([⟨34, false, 1, 1, 1099511627776⟩, ⟨11, true, 2, 0, 0⟩, ⟨38, false, 5, 1, 1099511627776⟩, ⟨44, false, 6, 1, 1099511627776⟩] : List Pl)).map Pl.want)) (F.map Prod.fst) = (DT, DE) := hDD
  rw [e1] at DN
  dsimp only at DN
  clear e1
  have HDD : Hid (decT s.data.toList = (DT, DE)) := by show decT s.data.toList = _; rw [HDT.out]; exact hDD
  clear hDD R3
  go_wp2_with fail
  refine DN.mono ?_
  rintro e w9 ⟨u, rfl, T9, hu, b9⟩
  have HB9 : Hid (Below (w.heap.size + 1) (outR w) w9) := HBR.out.trans (b9.mono (lo_size HBR.out))
  have C9 : Hid (ThAt nm w9 w.heap.size (zeroT 0)) := C0.out.still (by rw [outR_size]; exact HB9.out)
  have HBW : Hid (Below w.heap.size w w9) := B0.out.trans (HB9.out.mono (by omega))
  have HT9 : Hid (ThAt nm w9 w1.heap.size u) := T9
  have HU : Hid (u = (fil (listK 3) (x0F F) (zeroT 3)).2) := hu
  clear DN T9 hu b9 HBR HB9 c3 z3 j3
  by_cases hDE : DE = 0
  case neg =>
    have te : (DE == 0) = false := beq_false_of_ne hDE
    have HN : Hid (DE ≠ 0) := hDE
    clear hDE
    obtain ⟨r0, r1, r2, r3, r4, r5, r6⟩ := ThAt.zero C9.out
    have z := C9.out.fz
    have P : Hid (ThAt nm (put0 w9 w.heap.size) w.heap.size (zeroT 0)) := put_at C9.out (zeroT 0)
    have PB : Hid (But (fun j => j = w.heap.size) w9 (put0 w9 w.heap.size)) := put_but w9 w.heap.size (zeroT 0)
    go_wp2_with fail
    have P' := P.out
    have PB' := PB.out
    unfold put0 at P' PB'
    clear P PB
    generalize hW9 : World.setCell _ ⟨w.heap.size, 6, none⟩ _ = W9 at *
    obtain ⟨p0, p1, p2, p3, p4, p5, p6⟩ := ThAt.zero P'
    refine bodyPost_ret (v := .tuple #[.agg #[.int .i64 0, .int .i64 0, .string ⟨#[]⟩, .string ⟨#[]⟩, .int .i64 0, .int .i64 0, .int .i64 0], .int .i64 DT, .int .i64 DE]) (by simp [results, Tryz.results6, go_sem, p0, p1, p2, p3, p4, p5, p6]) rfl ?_
    exact ⟨zeroT 0, by rw [HDD.out]; rfl, zero_same (by rw [HDD.out]; exact HN.out), HBW.out.trans (PB'.below HBW.out.size (fun i e => by have e' : i = w.heap.size := e; omega))⟩
  case pos =>
    have h0 : (decT s.data.toList).2 = 0 := by rw [HDD.out]; exact hDE
    have HSM : Hid (Same u (decA s.data.toList)) := by
      show Same u _
      rw [HAK.out h0, HU.out]
      have := fil_told (l := F) (listK 3) [] (zeroT 3) ((done_run (HYB.out hDE)).1)
      rw [show runS (x0F F) (([] : List Pl).map Pl.want) = x0F F from rfl] at this
      rw [this]
      exact Same.refl _
    have HZ : Hid (decT s.data.toList = (0, 0)) := (decT_zero h0).1
    clear h0
    subst hDE
    obtain ⟨r0, r1, r2, r3, r4, r5, r6⟩ := ThAt.zero C9.out
    have z := C9.out.fz
    obtain ⟨d0, d1, d2, d3, d4, d5, d6⟩ := ThAt.all HT9.out
    have P : Hid (ThAt nm (put7 w9 w.heap.size u) w.heap.size u) := put_at C9.out u
    have PB : Hid (But (fun j => j = w.heap.size) w9 (put7 w9 w.heap.size u)) := put_but w9 w.heap.size u
    go_wp2_with fail
    have P' := P.out
    have PB' := PB.out
    unfold put7 at P' PB'
    clear P PB
    generalize hW9 : World.setCell _ ⟨w.heap.size, 6, none⟩ _ = W9 at *
    obtain ⟨p0, p1, p2, p3, p4, p5, p6⟩ := ThAt.all P'
    refine bodyPost_ret (v := .tuple #[.agg #[.int .i64 (u.2 0), .int .i64 (u.2 1), .string (u.1 2), .string (u.1 3), .int .i64 (u.2 4), .int .i64 (u.2 5), .int .i64 (u.2 6)], .int .i64 0, .int .i64 0]) (by simp [results, Tryz.results6, go_sem, p0, p1, p2, p3, p4, p5, p6]) rfl ?_
    exact ⟨u, by rw [HZ.out]; rfl, HSM.out, HBW.out.trans (PB'.below HBW.out.size (fun i e => by have e' : i = w.heap.size := e; omega))⟩
theorem refDecode_any (s : ByteArray) (w : World) (hs : s.size ≤ 1000000) : Calls Tryz.prog 6 #[.string s] w (DecOk s.data.toList w) := by
  by_cases hE : readE s.data.toList = 0
  · have r := kind_range (textOf (fieldsL s.data.toList).1 35)
    rcases (show kindOf (textOf (fieldsL s.data.toList).1 35) = 0 ∨ kindOf (textOf (fieldsL s.data.toList).1 35) = 1 ∨ kindOf (textOf (fieldsL s.data.toList).1 35) = 2 ∨ kindOf (textOf (fieldsL s.data.toList).1 35) = 3 by omega) with h | h | h | h
    · exact refDecode_none s w hs hE h
    · exact refDecode_1 s w hs hE h
    · exact refDecode_2 s w hs hE h
    · exact refDecode_3 s w hs hE h
  · exact refDecode_read s w hs hE
end Go.Proofs.YtdbkoflejimibaaGreatDoor.PP.O
