/-
  The reference's form that is read beside a block that holds its tell.
-/
import Derived.Test.YtdacmhnniecmhaaDoorGP
import Derived.Test.YtdacmhnniecmhaaDoorHA
import Derived.Test.YtdacmhnniecmhaaDoorHC
namespace Go.Proofs.YtdacmhnniecmhaaDoor
open Go.ChangeShapes Go.WideShapes Go.ChangeAt Go.RowKit Go.Lib

/-- The blocks that may change: from M on, but for b. -/
def SB (M b j : Nat) : Prop := M ≤ j ∧ j ≠ b
/-- The reference's form at fb and a tell at block b; all below M is as in W0. -/
structure RS (M : Nat) (W0 : World) (m : Nat) (w : World) (fb b : Nat) (v : Value) (l : List Fd) (y : List Int × Int × Int) (t : TellP) : Prop where
  frm : ∃ u, RFrm m (SB M b) w w fb v l u y.1 y.2.1 y.2.2 ∧ u.ownBlock ≠ some b
  tell : TellAt w b t
  nb : b ≠ fb
  nv : v.ownBlock ≠ some b
  lo : M ≤ m ∧ M ≤ b
  below : Below M W0 w
theorem RS.next {M : Nat} {W0 : World} {m : Nat} {w w' : World} {fb b : Nat} {v : Value} {l : List Fd} {y y2 : List Int × Int × Int} {t : TellP} (h : RS M W0 m w fb b v l y t) (hS : RSt m (SB M b) w w' fb v l y2) : RS M W0 m w' fb b v l y2 t := by
  obtain ⟨u', F⟩ := hS
  have lb := h.tell.lt
  have nS : ¬ SB M b b := fun e => e.2 rfl
  obtain ⟨l1, l2⟩ := h.lo
  have nu : u'.ownBlock ≠ some b := fun e => (F.su b e lb).2 rfl
  exact ⟨⟨u', F.base ⟨by have := F.lo; omega, fun e => h.nb e.symm⟩ (fun g hg => ⟨by have := (F.own.lt g hg).1; omega, fun e => nu (by rw [hg, e])⟩), nu⟩, h.tell.but F.but nS, h.nb, h.nv, h.lo, h.below.trans (F.but.below (by omega) (fun j e => e.1))⟩
theorem rfrm_other {m M : Nat} {w w' : World} {fb b : Nat} {v : Value} {l : List Fd} {u : Value} {A : List Int} {tag e : Int} (F : RFrm m (SB M b) w w fb v l u A tag e) (hB : But (fun j => j = b) w w') (nb : b ≠ fb) (nv : v.ownBlock ≠ some b) (nu : u.ownBlock ≠ some b) : RFrm m (SB M b) w' w' fb v l u A tag e where
  c0 := (hB.cell F.lt (fun e => nb e.symm)).trans F.c0
  c1 := (hB.cell F.lt (fun e => nb e.symm)).trans F.c1
  c2 := (hB.cell F.lt (fun e => nb e.symm)).trans F.c2
  c3 := (hB.cell F.lt (fun e => nb e.symm)).trans F.c3
  fz := fun j => (hB.frozen F.lt (fun e => nb e.symm)).trans (F.fz j)
  ownv := own_kept F.ownv hB (fun g hg e => nv (by rw [hg, e]))
  own := own_kept F.own hB (fun g hg e => nu (by rw [hg, e]))
  lo := F.lo
  nf := F.nf
  nv := F.nv
  nu := F.nu
  sf := F.sf
  su := fun g hg _ => F.su g hg (F.own.lt g hg).2
  but := But.refl _ _
theorem RS.put {M : Nat} {W0 : World} {m : Nat} {w : World} {fb b : Nat} {v : Value} {l : List Fd} {y : List Int × Int × Int} {t t' : TellP} {j : Nat} {x : Value} (h : RS M W0 m w fb b v l y t) (hT : TellAt (w.setCell ⟨b, j, none⟩ x) b t') : RS M W0 m (w.setCell ⟨b, j, none⟩ x) fb b v l y t' := by
  have hB : But (fun k => k = b) w (w.setCell ⟨b, j, none⟩ x) := (But.refl _ w).setCell b j _ (fun _ => rfl)
  obtain ⟨u, F, nu⟩ := h.frm
  exact ⟨⟨u, rfrm_other F hB h.nb h.nv nu, nu⟩, hT, h.nb, h.nv, h.lo, h.below.setCell h.lo.2 _⟩
theorem RS.done {M : Nat} {W0 : World} {m : Nat} {w : World} {fb b : Nat} {v : Value} {l : List Fd} {y : List Int × Int × Int} {t : TellP} (h : RS M W0 m w fb b v l y t) :
    Calls Tryd.prog 38 #[.pointer (some ⟨fb, 0, none⟩)] w fun e w' => e = .returned (.tuple #[.int .i64 (doneR y l).1, .int .i64 (doneR y l).2]) ∧ TellAt w' b t ∧ Below w.heap.size w w' := by
  obtain ⟨u, F, _⟩ := h.frm
  have D : Calls Tryd.prog 38 #[.pointer (some ⟨fb, 0, none⟩)] w fun e w' => e = .returned (.tuple #[.int .i64 (doneR y l).1, .int .i64 (doneR y l).2]) ∧ Below w.heap.size w w' := by
    unfold doneR
    by_cases e : y.2.2 = 0
    · rw [if_pos e]
      rw [e] at F
      exact refDone_ok F
    · rw [if_neg e]
      exact refDone_err F e
  refine D.mono ?_
  rintro e w' ⟨rfl, b'⟩
  exact ⟨rfl, h.tell.still b', b'⟩
/-- The reference behind some fields of a kind. -/
def RP (M : Nat) (W0 : World) (m : Nat) (w : World) (fb b : Nat) (v : Value) (l : List Fd) (k : Int) (pre : List Pl) : Prop := RS M W0 m w fb b v l (runR l ([35], 0, 0) (pre.map Pl.want)) (fil pre (x0F l) (zeroT k)).2
theorem fil_snoc : ∀ (a : List Pl) (p : Pl) (x : StP) (t : TellP), fil (a ++ [p]) x t = (stepW (fil a x t).1 p.want, p.got (fil a x t).1 (fil a x t).2)
  | [], p, x, t => rfl
  | q :: a, p, x, t => by
    rw [List.cons_append, fil, fil_snoc a p]
    rfl
theorem fil_more (a : List Pl) (p : Pl) (l : List Fd) (t : TellP) : (fil (a ++ [p]) (x0F l) t).2 = p.got (runS (x0F l) (a.map Pl.want)) (fil a (x0F l) t).2 := by rw [fil_snoc, fil_st]
theorem runR_more (l : List Fd) (a : List Pl) (p : Pl) (y : List Int × Int × Int) : runR l y ((a ++ [p]).map Pl.want) = refS l (runR l y (a.map Pl.want)) p.want.1 p.want.2.err := by
  unfold runR
  rw [List.map_append, List.foldl_append]
  rfl
theorem RP.name {M : Nat} {W0 : World} {m : Nat} {w : World} {fb b : Nat} {v : Value} {l : List Fd} {k : Int} {pre : List Pl} (h : RP M W0 m w fb b v l k pre) (hA : pre.length ≤ 20) (hs : ∀ t s, textO l t = some s → s.size ≤ 100000) (tag : Int) (off : Nat) (low high : Int) (ho : off = 1 ∨ off = 2) :
    Calls Tryd.prog 36 #[.pointer (some ⟨fb, 0, none⟩), .int .i64 tag] w fun e w' => ∃ x o, e = .returned (.string x) ∧ w'.cell? ⟨b, off, none⟩ = some (.string o) ∧ w'.frozen? ⟨b, off, none⟩ = false ∧ RP M W0 m (w'.setCell ⟨b, off, none⟩ (.string x)) fb b v l k (pre ++ [⟨tag, true, off, low, high⟩]) := by
  obtain ⟨u, F, _⟩ := RS.frm h
  have ln := runR_len l (pre.map Pl.want) ([35], 0, 0)
  rw [List.length_map] at ln
  refine (refName_any ⟨u, F⟩ (by simp at ln; omega) tag (hs tag)).mono ?_
  rintro e w' ⟨x, rfl, hx, hS⟩
  have R1 := RS.next h hS
  have h10 : off < 10 := by omega
  have T := R1.tell.setText (p := ⟨tag, true, off, low, high⟩) h10 (by simp; omega) rfl x
  have c := R1.tell.text (p := ⟨tag, true, off, low, high⟩) h10 (by simp; omega) rfl
  refine ⟨x, _, rfl, c, R1.tell.fz off, ?_⟩
  unfold RP
  rw [fil_more, runR_more]
  have R2 := R1.put T
  rw [hx, ref_told] at R2
  rw [hx, ref_told]
  exact R2
theorem RP.int {M : Nat} {W0 : World} {m : Nat} {w : World} {fb b : Nat} {v : Value} {l : List Fd} {k : Int} {pre : List Pl} (h : RP M W0 m w fb b v l k pre) (hA : pre.length ≤ 20) (hs : ∀ t s, textO l t = some s → s.size ≤ 100000) (tag : Int) (off : Nat) (low high : Int) (ho : 3 ≤ off ∧ off ≤ 9) :
    Calls Tryd.prog 37 #[.pointer (some ⟨fb, 0, none⟩), .int .i64 tag, .int .i64 low, .int .i64 high] w fun e w' => ∃ x o, e = .returned (.int .i64 x) ∧ w'.cell? ⟨b, off, none⟩ = some (.int .i64 o) ∧ w'.frozen? ⟨b, off, none⟩ = false ∧ RP M W0 m (w'.setCell ⟨b, off, none⟩ (.int .i64 x)) fb b v l k (pre ++ [⟨tag, false, off, low, high⟩]) := by
  obtain ⟨u, F, _⟩ := RS.frm h
  have ln := runR_len l (pre.map Pl.want) ([35], 0, 0)
  rw [List.length_map] at ln
  refine (refInt_any ⟨u, F⟩ (by simp at ln; omega) tag low high (hs tag)).mono ?_
  rintro e w' ⟨x, rfl, hx, hS⟩
  have R1 := RS.next h hS
  have h10 : off < 10 := by omega
  have T := R1.tell.setNum (p := ⟨tag, false, off, low, high⟩) h10 (by simp; omega) rfl x
  have c := R1.tell.num (p := ⟨tag, false, off, low, high⟩) h10 (by simp; omega) rfl
  refine ⟨x, _, rfl, c, R1.tell.fz off, ?_⟩
  unfold RP
  rw [fil_more, runR_more]
  have R2 := R1.put T
  rw [hx, ref_told] at R2
  rw [hx, ref_told]
  exact R2
/-- What Done tells behind all fields of a kind. -/
theorem RP.done {M : Nat} {W0 : World} {m : Nat} {w : World} {fb b : Nat} {v : Value} {l : List Fd} {k : Int} (h : RP M W0 m w fb b v l k (listK k)) (hn : (l.map Prod.fst).Nodup) :
    Calls Tryd.prog 38 #[.pointer (some ⟨fb, 0, none⟩)] w fun e w' => ∃ u, e = .returned (.tuple #[.int .i64 (doneE (decS k l) (l.map Prod.fst)).1, .int .i64 (doneE (decS k l) (l.map Prod.fst)).2]) ∧ TellAt w' b u ∧ u = (fil (listK k) (x0F l) (zeroT k)).2 ∧ Below w.heap.size w w' := by
  refine (RS.done h).mono ?_
  rintro e w' ⟨rfl, T, B⟩
  rw [done_same hn]
  exact ⟨_, rfl, T, rfl, B⟩
theorem text_small (l : List UInt8) : ∀ t s, textO (fieldsL l).1 t = some s → s.size ≤ 100000 := by
  intro t s h
  obtain ⟨b, hb⟩ := look_some h
  obtain ⟨new, n, h1, _, _, _, h5, _⟩ := fieldsA_one 64 l [] 0
  have e : (fieldsL l).1 = new := by unfold fieldsL; rw [h1]; simp
  rw [e] at hb
  unfold lookF at hb
  cases hf : new.find? (fun f => f.1 == t) with
  | none => rw [hf] at hb; simp at hb
  | some f =>
    rw [hf] at hb
    simp only [Option.some.injEq, Prod.mk.injEq] at hb
    obtain ⟨_, _, a3, _⟩ := formE_ok (ok_form (h5 f (List.mem_of_find?_eq_some hf)))
    have := a3.2.1
    rw [← hb.1, size_eq]
    omega
end Go.Proofs.YtdacmhnniecmhaaDoor
/-
  The contract of the reference's Decode, for every text.
-/
namespace Go.Proofs.YtdacmhnniecmhaaDoor
open Go.ChangeShapes Go.WideShapes Go.ChangeAt Go.RowKit Go.Lib

theorem outR_below (w : World) : Below w.heap.size w (w.alloc (.cells #[.int .i64 0, .string ⟨#[]⟩, .string ⟨#[]⟩, .int .i64 0, .int .i64 0, .int .i64 0, .int .i64 0, .int .i64 0, .int .i64 0, .int .i64 0] 31)) := (Below.refl _ w).alloc (Nat.le_refl _) _
theorem outR_at (w : World) : TellAt (w.alloc (.cells #[.int .i64 0, .string ⟨#[]⟩, .string ⟨#[]⟩, .int .i64 0, .int .i64 0, .int .i64 0, .int .i64 0, .int .i64 0, .int .i64 0, .int .i64 0] 31)) w.heap.size (zeroT 0) := by
  refine ⟨fun j hj => ?_, fun j => by simp⟩
  rcases (show j = 0 ∨ j = 1 ∨ j = 2 ∨ j = 3 ∨ j = 4 ∨ j = 5 ∨ j = 6 ∨ j = 7 ∨ j = 8 ∨ j = 9 by omega) with rfl | rfl | rfl | rfl | rfl | rfl | rfl | rfl | rfl | rfl <;> simp [cellT, zeroT]
theorem lo_size {w y : World} (h : Below (w.heap.size + 1) (w.alloc (.cells #[.int .i64 0, .string ⟨#[]⟩, .string ⟨#[]⟩, .int .i64 0, .int .i64 0, .int .i64 0, .int .i64 0, .int .i64 0, .int .i64 0, .int .i64 0] 31)) y) : w.heap.size + 1 ≤ y.heap.size := by
  have := h.size
  simpa using this
theorem word_is {tk : ByteArray} (h : kindOf tk ≠ 0) : tk = wordT (kindOf tk) := by
  unfold kindOf at *
  split at h
  · rename_i e; rw [if_pos e, e]; decide
  rename_i e1
  rw [if_neg e1]
  split at h
  · rename_i e; rw [if_pos e, e]; decide
  rename_i e2
  rw [if_neg e2]
  split at h
  · rename_i e; rw [if_pos e, e]; decide
  rename_i e3
  rw [if_neg e3]
  split at h
  · rename_i e; rw [if_pos e, e]; decide
  · exact absurd rfl h
theorem word_not {tk : ByteArray} (h : kindOf tk = 0) : tk ≠ ⟨#[56]⟩ ∧ tk ≠ ⟨#[57]⟩ ∧ tk ≠ ⟨#[51]⟩ ∧ tk ≠ ⟨#[106]⟩ := by
  refine ⟨?_, ?_, ?_, ?_⟩ <;> (rintro rfl; revert h; decide)
/-- Where the reference stands behind its Read. -/
theorem rs_start {w w1 : World} {fb : Nat} {v : Value} {F : List Fd} (h : RSt (w.alloc (.cells #[.int .i64 0, .string ⟨#[]⟩, .string ⟨#[]⟩, .int .i64 0, .int .i64 0, .int .i64 0, .int .i64 0, .int .i64 0, .int .i64 0, .int .i64 0] 31)).heap.size (fun j => (w.alloc (.cells #[.int .i64 0, .string ⟨#[]⟩, .string ⟨#[]⟩, .int .i64 0, .int .i64 0, .int .i64 0, .int .i64 0, .int .i64 0, .int .i64 0, .int .i64 0] 31)).heap.size ≤ j) (w.alloc (.cells #[.int .i64 0, .string ⟨#[]⟩, .string ⟨#[]⟩, .int .i64 0, .int .i64 0, .int .i64 0, .int .i64 0, .int .i64 0, .int .i64 0, .int .i64 0] 31)) w1 fb v F ([], 0, 0)) : w.heap.size < w1.heap.size ∧ RS (w.heap.size + 1) (w.alloc (.cells #[.int .i64 0, .string ⟨#[]⟩, .string ⟨#[]⟩, .int .i64 0, .int .i64 0, .int .i64 0, .int .i64 0, .int .i64 0, .int .i64 0, .int .i64 0] 31)) (w.heap.size + 1) (w1.alloc (.cells #[.int .i64 0, .string ⟨#[]⟩, .string ⟨#[]⟩, .int .i64 0, .int .i64 0, .int .i64 0, .int .i64 0, .int .i64 0, .int .i64 0, .int .i64 0] 31)) fb w1.heap.size v F ([], 0, 0) (zeroT 0) := by
  obtain ⟨u1, F1⟩ := h
  have hsz : (w.alloc (.cells #[.int .i64 0, .string ⟨#[]⟩, .string ⟨#[]⟩, .int .i64 0, .int .i64 0, .int .i64 0, .int .i64 0, .int .i64 0, .int .i64 0, .int .i64 0] 31)).heap.size = w.heap.size + 1 := by simp
  have sz : w.heap.size < w1.heap.size := by have := F1.but.size; omega
  refine ⟨sz, ?_⟩
  have bb : Below w1.heap.size w1 (w1.alloc (.cells #[.int .i64 0, .string ⟨#[]⟩, .string ⟨#[]⟩, .int .i64 0, .int .i64 0, .int .i64 0, .int .i64 0, .int .i64 0, .int .i64 0, .int .i64 0] 31)) := (Below.refl _ w1).alloc (Nat.le_refl _) _
  have F2 := F1.still bb
  have lf := F1.lt
  rw [hsz] at F1 F2
  have lo1 := F1.lo
  refine ⟨⟨u1, F2.base ⟨by omega, by omega⟩ (fun g hg => ⟨(F2.own.lt g hg).1, by have := (F1.own.lt g hg).2; omega⟩), fun e => by have := (F1.own.lt _ e).2; omega⟩, outR_at w1, by omega, fun e => by have := (F1.ownv.lt _ e).2; omega, ⟨Nat.le_refl _, by omega⟩, ?_⟩
  have b2 : Below (w.heap.size + 1) (w.alloc (.cells #[.int .i64 0, .string ⟨#[]⟩, .string ⟨#[]⟩, .int .i64 0, .int .i64 0, .int .i64 0, .int .i64 0, .int .i64 0, .int .i64 0, .int .i64 0] 31)) w1 := F1.but.below (by omega) (fun i h => h)
  exact b2.trans (bb.mono (by omega))
theorem RS.kind {M : Nat} {W0 : World} {m : Nat} {w : World} {fb b : Nat} {v : Value} {F : List Fd} (h : RS M W0 m w fb b v F ([], 0, 0) (zeroT 0)) {V : ByteArray} {r : List Fd} (hl : F = (35, V) :: r) :
    Calls Tryd.prog 35 #[.pointer (some ⟨fb, 0, none⟩)] w fun e w' => e = .returned (.string V) ∧ RS M W0 m w' fb b v F ([35], 0, 0) (zeroT 0) := by
  obtain ⟨uK, FK, _⟩ := h.frm
  refine (refKind_any (w0 := w) ⟨uK, FK⟩ (by simp) V r hl).mono ?_
  rintro e w' ⟨rfl, hS⟩
  exact ⟨rfl, h.next hS⟩
/-- The kind is set. -/
theorem RS.start {M : Nat} {W0 : World} {m : Nat} {w : World} {fb b : Nat} {v : Value} {F : List Fd} (h : RS M W0 m w fb b v F ([35], 0, 0) (zeroT 0)) (k : Int) : RP M W0 m (w.setCell ⟨b, 0, none⟩ (.int .i64 k)) fb b v F k [] := by
  refine RS.put (t' := zeroT k) h ⟨fun j hj => ?_, fun j => by rw [World.frozen?_setCell]; exact h.tell.fz j⟩
  by_cases e : j = 0
  · subst e
    rw [World.cell?_setCell_same _ _ _ (h.tell.cell 0 (by omega))]
    rfl
  · rw [put_cell (h.tell.cell j hj) e]
    unfold cellT zeroT
    dsimp only
    rw [if_neg e, if_neg e]
set_option maxRecDepth 100000 in
set_option maxHeartbeats 8000000 in
theorem refDecode_read (s : ByteArray) (w : World) (hs : s.size ≤ 1000000) (hE : readE s.data.toList ≠ 0) :
    Calls Tryd.prog 14 #[.string s] w (DecOk s.data.toList w) := by
  have RD := fun w => refRead_any s w hs
  obtain ⟨E, hEE⟩ : ∃ E, readE s.data.toList = E := ⟨_, rfl⟩
  have HD : Hid (decT s.data.toList = (0, (E : Int))) := by show decT s.data.toList = _; unfold decT; rw [if_pos hE, hEE]
  have HRD : Hid (∀ w e w', RRead s.data.toList w e w' → (e = .returned (.tuple #[.pointer none, .int .i64 (E : Int)]) ∧ Below w.heap.size w w')) := fun w e w' h => by
    rcases h with ⟨_, h1, h2⟩ | ⟨h1, _⟩
    · rw [hEE] at h1; exact ⟨h1, h2⟩
    · exact absurd h1 hE
  have HN : Hid (E ≠ 0) := by show E ≠ 0; rw [← hEE]; exact hE
  have te : ((E : Int) == 0) = false := beq_false_of_ne (by have := HN.out; omega)
  clear hE hEE
  have B0 : Hid (Below w.heap.size w (w.alloc (.cells #[.int .i64 0, .string ⟨#[]⟩, .string ⟨#[]⟩, .int .i64 0, .int .i64 0, .int .i64 0, .int .i64 0, .int .i64 0, .int .i64 0, .int .i64 0] 31))) := outR_below w
  have C0 : Hid (TellAt (w.alloc (.cells #[.int .i64 0, .string ⟨#[]⟩, .string ⟨#[]⟩, .int .i64 0, .int .i64 0, .int .i64 0, .int .i64 0, .int .i64 0, .int .i64 0, .int .i64 0] 31)) w.heap.size (zeroT 0)) := outR_at w
  go_enter Tryd.func14, Tryd.ntmps14
  go_wp2_with fail
  refine (RD _).mono ?_
  intro e w1 hrd
  obtain ⟨rfl, b1⟩ := HRD.out _ _ _ hrd
  have C1 : Hid (TellAt w1 w.heap.size (zeroT 0)) := C0.out.still b1
  have HB1 : Hid (Below w.heap.size w w1) := B0.out.trans (b1.mono B0.out.size)
  clear b1 RD hrd HRD
  obtain ⟨r0, r1, r2, r3, r4, r5, r6, r7, r8, r9⟩ := C1.out.zero
  have z := C1.out.fz
  have P : Hid (TellAt (put0 w1 w.heap.size) w.heap.size (zeroT 0)) := put_at C1.out (zeroT 0)
  have PB : Hid (But (fun j => j = w.heap.size) w1 (put0 w1 w.heap.size)) := put_but w1 w.heap.size (zeroT 0)
  go_wp2_with fail
  have P' := P.out
  have PB' := PB.out
  unfold put0 at P' PB'
  clear P PB
  generalize hW9 : World.setCell _ ⟨w.heap.size, 9, none⟩ _ = W9 at *
  obtain ⟨p0, p1, p2, p3, p4, p5, p6, p7, p8, p9⟩ := P'.zero
  refine bodyPost_ret (v := .tuple #[.agg #[.int .i64 0, .string ⟨#[]⟩, .string ⟨#[]⟩, .int .i64 0, .int .i64 0, .int .i64 0, .int .i64 0, .int .i64 0, .int .i64 0, .int .i64 0], .int .i64 0, .int .i64 (E : Int)]) (by simp [results, Tryd.results14, go_sem, p0, p1, p2, p3, p4, p5, p6, p7, p8, p9]) rfl ?_
  exact ⟨zeroT 0, by rw [HD.out]; rfl, zero_same13 (by rw [HD.out]; have := HN.out; show (E : Int) ≠ 0; omega), HB1.out.trans (PB'.below HB1.out.size (fun i e => by have e' : i = w.heap.size := e; omega))⟩
set_option maxRecDepth 100000 in
set_option maxHeartbeats 8000000 in
theorem refDecode_none (s : ByteArray) (w : World) (hs : s.size ≤ 1000000) (hE : readE s.data.toList = 0) (hk : kindOf (textOf (fieldsL s.data.toList).1 35) = 0) :
    Calls Tryd.prog 14 #[.string s] w (DecOk s.data.toList w) := by
  have RD := fun w => refRead_any s w hs
  obtain ⟨_, ⟨V35, rest, hl⟩, hnd⟩ := read_head hE
  have h35 : textOf (fieldsL s.data.toList).1 35 = V35 := textOf_mem hnd (by rw [hl]; simp)
  have TS := text_small s.data.toList
  obtain ⟨F, hF⟩ : ∃ F, (fieldsL s.data.toList).1 = F := ⟨_, rfl⟩
  rw [h35] at hk
  have HD : Hid (decT s.data.toList = (35, 120)) := by
    show decT s.data.toList = _
    unfold decT decE
    rw [if_neg (by omega), h35, if_pos hk]
  obtain ⟨n1, n2, n3, n4⟩ := word_not hk
  have q1 : ¬ V35.toList = [56] := fun e => n1 ((bytes_iff V35 ⟨#[56]⟩).1 (e.trans (by decide +kernel)))
  have q2 : ¬ V35.toList = [57] := fun e => n2 ((bytes_iff V35 ⟨#[57]⟩).1 (e.trans (by decide +kernel)))
  have q3 : ¬ V35.toList = [51] := fun e => n3 ((bytes_iff V35 ⟨#[51]⟩).1 (e.trans (by decide +kernel)))
  have q4 : ¬ V35.toList = [106] := fun e => n4 ((bytes_iff V35 ⟨#[106]⟩).1 (e.trans (by decide +kernel)))
  have p1 : (V35.toList == [56]) = false := beq_false_of_ne q1
  have p2 : (V35.toList == [57]) = false := beq_false_of_ne q2
  have p3 : (V35.toList == [51]) = false := beq_false_of_ne q3
  have p4 : (V35.toList == [106]) = false := beq_false_of_ne q4
  clear n1 n2 n3 n4
  have HRD : Hid (∀ w e w', RRead s.data.toList w e w' → ∃ fb v, e = .returned (.tuple #[.pointer (some ⟨fb, 0, none⟩), .int .i64 0]) ∧ RSt w.heap.size (fun j => w.heap.size ≤ j) w w' fb v F ([], 0, 0)) := fun w e w' h => by
    rcases h with ⟨h1, _⟩ | ⟨_, fb, v, h1, h2⟩
    · exact absurd hE h1
    · rw [hF] at h2; exact ⟨fb, v, h1, h2⟩
  rw [hF] at hl hnd TS
  have HND : Hid ((F.map Prod.fst).Nodup) := hnd
  have HTS : Hid (∀ t s, textO F t = some s → s.size ≤ 100000) := TS
  clear h35 hF hk hnd TS hE
  have B0 : Hid (Below w.heap.size w (w.alloc (.cells #[.int .i64 0, .string ⟨#[]⟩, .string ⟨#[]⟩, .int .i64 0, .int .i64 0, .int .i64 0, .int .i64 0, .int .i64 0, .int .i64 0, .int .i64 0] 31))) := outR_below w
  have C0 : Hid (TellAt (w.alloc (.cells #[.int .i64 0, .string ⟨#[]⟩, .string ⟨#[]⟩, .int .i64 0, .int .i64 0, .int .i64 0, .int .i64 0, .int .i64 0, .int .i64 0, .int .i64 0] 31)) w.heap.size (zeroT 0)) := outR_at w
  go_enter Tryd.func14, Tryd.ntmps14
  go_wp2_with fail
  refine (RD _).mono ?_
  intro e w1 hrd
  obtain ⟨fb, v, rfl, hS1⟩ := HRD.out _ _ _ hrd
  obtain ⟨sz, Q0⟩ := rs_start hS1
  have HSZ : Hid (w.heap.size < w1.heap.size) := sz
  have K1 := Q0.kind hl
  clear RD hrd HRD hS1 Q0 sz
  go_wp2_with fail
  refine K1.mono ?_
  rintro e w2 ⟨rfl, Q1⟩
  clear K1
  have BQ := Q1.below
  have C2 : Hid (TellAt w2 w.heap.size (zeroT 0)) := C0.out.still (by rw [show (w.alloc (.cells #[.int .i64 0, .string ⟨#[]⟩, .string ⟨#[]⟩, .int .i64 0, .int .i64 0, .int .i64 0, .int .i64 0, .int .i64 0, .int .i64 0, .int .i64 0] 31)).heap.size = w.heap.size + 1 by simp]; exact BQ)
  have HB2 : Hid (Below w.heap.size w w2) := B0.out.trans (BQ.mono (by omega))
  clear BQ Q1 HND HTS HSZ
  obtain ⟨r0, r1, r2, r3, r4, r5, r6, r7, r8, r9⟩ := C2.out.zero
  have z := C2.out.fz
  have P : Hid (TellAt (put0 w2 w.heap.size) w.heap.size (zeroT 0)) := put_at C2.out (zeroT 0)
  have PB : Hid (But (fun j => j = w.heap.size) w2 (put0 w2 w.heap.size)) := put_but w2 w.heap.size (zeroT 0)
  go_wp2_with fail
  have P' := P.out
  have PB' := PB.out
  unfold put0 at P' PB'
  clear P PB
  generalize hW9 : World.setCell _ ⟨w.heap.size, 9, none⟩ _ = W9 at *
  obtain ⟨p0, p1, p2, p3, p4, p5, p6, p7, p8, p9⟩ := P'.zero
  refine bodyPost_ret (v := .tuple #[.agg #[.int .i64 0, .string ⟨#[]⟩, .string ⟨#[]⟩, .int .i64 0, .int .i64 0, .int .i64 0, .int .i64 0, .int .i64 0, .int .i64 0, .int .i64 0], .int .i64 35, .int .i64 120]) (by simp [results, Tryd.results14, go_sem, p0, p1, p2, p3, p4, p5, p6, p7, p8, p9]) rfl ?_
  exact ⟨zeroT 0, by rw [HD.out]; rfl, zero_same13 (by rw [HD.out]; simp), HB2.out.trans (PB'.below HB2.out.size (fun i e => by have e' : i = w.heap.size := e; omega))⟩
set_option maxRecDepth 100000 in
set_option maxHeartbeats 8000000 in
theorem refDecode_1 (s : ByteArray) (w : World) (hs : s.size ≤ 1000000) (hE : readE s.data.toList = 0) (hk : kindOf (textOf (fieldsL s.data.toList).1 35) = 1) :
    Calls Tryd.prog 14 #[.string s] w (DecOk s.data.toList w) := by
  have RD := fun w => refRead_any s w hs
  obtain ⟨_, ⟨V35, rest, hl⟩, hnd⟩ := read_head hE
  have h35 : textOf (fieldsL s.data.toList).1 35 = V35 := textOf_mem hnd (by rw [hl]; simp)
  have TS := text_small s.data.toList
  obtain ⟨F, hF⟩ : ∃ F, (fieldsL s.data.toList).1 = F := ⟨_, rfl⟩
  rw [h35] at hk
  have HDT : Hid (decT s.data.toList = doneE (decS 1 F) (F.map Prod.fst)) := by
    show decT s.data.toList = _
    unfold decT decE
    rw [if_neg (by omega), h35, hF, hk, if_neg (by omega)]
  have HAK : Hid ((decT s.data.toList).2 = 0 → decA s.data.toList = tolds (listK 1) F (zeroT 1)) := fun h => by
    unfold decA
    rw [if_pos h, h35, hF, hk]
  have hv := word_is (tk := V35) (by omega)
  rw [hk] at hv
  have hv' : V35 = ⟨#[56]⟩ := hv
  subst hv'
  clear hv
  have HRD : Hid (∀ w e w', RRead s.data.toList w e w' → ∃ fb v, e = .returned (.tuple #[.pointer (some ⟨fb, 0, none⟩), .int .i64 0]) ∧ RSt w.heap.size (fun j => w.heap.size ≤ j) w w' fb v F ([], 0, 0)) := fun w e w' h => by
    rcases h with ⟨h1, _⟩ | ⟨_, fb, v, h1, h2⟩
    · exact absurd hE h1
    · rw [hF] at h2; exact ⟨fb, v, h1, h2⟩
  rw [hF] at hl hnd TS
  have HND : Hid ((F.map Prod.fst).Nodup) := hnd
  have HTS : Hid (∀ t s, textO F t = some s → s.size ≤ 100000) := TS
  clear h35 hF hk hnd TS hE
  have B0 : Hid (Below w.heap.size w (w.alloc (.cells #[.int .i64 0, .string ⟨#[]⟩, .string ⟨#[]⟩, .int .i64 0, .int .i64 0, .int .i64 0, .int .i64 0, .int .i64 0, .int .i64 0, .int .i64 0] 31))) := outR_below w
  have C0 : Hid (TellAt (w.alloc (.cells #[.int .i64 0, .string ⟨#[]⟩, .string ⟨#[]⟩, .int .i64 0, .int .i64 0, .int .i64 0, .int .i64 0, .int .i64 0, .int .i64 0, .int .i64 0] 31)) w.heap.size (zeroT 0)) := outR_at w
  go_enter Tryd.func14, Tryd.ntmps14
  go_wp2_with fail
  refine (RD _).mono ?_
  intro e w1 hrd
  obtain ⟨fb, v, rfl, hS1⟩ := HRD.out _ _ _ hrd
  obtain ⟨sz, Q0⟩ := rs_start hS1
  have HSZ : Hid (w.heap.size < w1.heap.size) := sz
  have K1 := Q0.kind hl
  clear RD hrd HRD hS1 Q0 sz
  go_wp2_with fail
  refine K1.mono ?_
  rintro e w2 ⟨rfl, Q1⟩
  clear K1
  have BQ := Q1.below
  have ck := Q1.tell.cell 0 (by omega)
  have zk := Q1.tell.fz 0
  have ck' : w2.cell? ⟨w1.heap.size, 0, none⟩ = some (.int .i64 0) := ck
  have Q2 : Hid (RP (w.heap.size + 1) (w.alloc (.cells #[.int .i64 0, .string ⟨#[]⟩, .string ⟨#[]⟩, .int .i64 0, .int .i64 0, .int .i64 0, .int .i64 0, .int .i64 0, .int .i64 0, .int .i64 0] 31)) (w.heap.size + 1) (w2.setCell ⟨w1.heap.size, 0, none⟩ (.int .i64 1)) fb w1.heap.size v F 1 []) := Q1.start 1
  clear BQ Q1 ck
  have F0 := Q2.out.name (by decide) HTS.out 11 1 0 0 (by omega)
  go_wp2_with fail
  refine F0.mono ?_
  rintro e y0 ⟨x0, o0, rfl, c0, z0, P0⟩
  have R0 : Hid (RP (w.heap.size + 1) (w.alloc (.cells #[.int .i64 0, .string ⟨#[]⟩, .string ⟨#[]⟩, .int .i64 0, .int .i64 0, .int .i64 0, .int .i64 0, .int .i64 0, .int .i64 0, .int .i64 0] 31)) (w.heap.size + 1) (y0.setCell ⟨w1.heap.size, 1, none⟩ (.string x0)) fb w1.heap.size v F 1 [⟨11, true, 1, 0, 0⟩]) := P0
  clear F0 P0 Q2 ck' zk
  have F1 := R0.out.name (by decide) HTS.out 17 2 0 0 (by omega)
  go_wp2_with fail
  refine F1.mono ?_
  rintro e y1 ⟨x1, o1, rfl, c1, z1, P1⟩
  have R1 : Hid (RP (w.heap.size + 1) (w.alloc (.cells #[.int .i64 0, .string ⟨#[]⟩, .string ⟨#[]⟩, .int .i64 0, .int .i64 0, .int .i64 0, .int .i64 0, .int .i64 0, .int .i64 0, .int .i64 0] 31)) (w.heap.size + 1) (y1.setCell ⟨w1.heap.size, 2, none⟩ (.string x1)) fb w1.heap.size v F 1 [⟨11, true, 1, 0, 0⟩, ⟨17, true, 2, 0, 0⟩]) := P1
  clear F1 P1 R0 c0 z0
  have F2 := R1.out.int (by decide) HTS.out 39 3 0 9 (by omega)
  go_wp2_with fail
  refine F2.mono ?_
  rintro e y2 ⟨x2, o2, rfl, c2, z2, P2⟩
  have R2 : Hid (RP (w.heap.size + 1) (w.alloc (.cells #[.int .i64 0, .string ⟨#[]⟩, .string ⟨#[]⟩, .int .i64 0, .int .i64 0, .int .i64 0, .int .i64 0, .int .i64 0, .int .i64 0, .int .i64 0] 31)) (w.heap.size + 1) (y2.setCell ⟨w1.heap.size, 3, none⟩ (.int .i64 x2)) fb w1.heap.size v F 1 [⟨11, true, 1, 0, 0⟩, ⟨17, true, 2, 0, 0⟩, ⟨39, false, 3, 0, 9⟩]) := P2
  clear F2 P2 R1 c1 z1
  have F3 := R2.out.int (by decide) HTS.out 32 4 0 1099511627776 (by omega)
  go_wp2_with fail
  refine F3.mono ?_
  rintro e y3 ⟨x3, o3, rfl, c3, z3, P3⟩
  have R3 : Hid (RP (w.heap.size + 1) (w.alloc (.cells #[.int .i64 0, .string ⟨#[]⟩, .string ⟨#[]⟩, .int .i64 0, .int .i64 0, .int .i64 0, .int .i64 0, .int .i64 0, .int .i64 0, .int .i64 0] 31)) (w.heap.size + 1) (y3.setCell ⟨w1.heap.size, 4, none⟩ (.int .i64 x3)) fb w1.heap.size v F 1 [⟨11, true, 1, 0, 0⟩, ⟨17, true, 2, 0, 0⟩, ⟨39, false, 3, 0, 9⟩, ⟨32, false, 4, 0, 1099511627776⟩]) := P3
  clear F3 P3 R2 c2 z2
  have F4 := R3.out.int (by decide) HTS.out 31 5 0 1099511627776 (by omega)
  go_wp2_with fail
  refine F4.mono ?_
  rintro e y4 ⟨x4, o4, rfl, c4, z4, P4⟩
  have R4 : Hid (RP (w.heap.size + 1) (w.alloc (.cells #[.int .i64 0, .string ⟨#[]⟩, .string ⟨#[]⟩, .int .i64 0, .int .i64 0, .int .i64 0, .int .i64 0, .int .i64 0, .int .i64 0, .int .i64 0] 31)) (w.heap.size + 1) (y4.setCell ⟨w1.heap.size, 5, none⟩ (.int .i64 x4)) fb w1.heap.size v F 1 [⟨11, true, 1, 0, 0⟩, ⟨17, true, 2, 0, 0⟩, ⟨39, false, 3, 0, 9⟩, ⟨32, false, 4, 0, 1099511627776⟩, ⟨31, false, 5, 0, 1099511627776⟩]) := P4
  clear F4 P4 R3 c3 z3
  have F5 := R4.out.int (by decide) HTS.out 14 6 0 1099511627776 (by omega)
  go_wp2_with fail
  refine F5.mono ?_
  rintro e y5 ⟨x5, o5, rfl, c5, z5, P5⟩
  have R5 : Hid (RP (w.heap.size + 1) (w.alloc (.cells #[.int .i64 0, .string ⟨#[]⟩, .string ⟨#[]⟩, .int .i64 0, .int .i64 0, .int .i64 0, .int .i64 0, .int .i64 0, .int .i64 0, .int .i64 0] 31)) (w.heap.size + 1) (y5.setCell ⟨w1.heap.size, 6, none⟩ (.int .i64 x5)) fb w1.heap.size v F 1 [⟨11, true, 1, 0, 0⟩, ⟨17, true, 2, 0, 0⟩, ⟨39, false, 3, 0, 9⟩, ⟨32, false, 4, 0, 1099511627776⟩, ⟨31, false, 5, 0, 1099511627776⟩, ⟨14, false, 6, 0, 1099511627776⟩]) := P5
  clear F5 P5 R4 c4 z4
  have F6 := R5.out.int (by decide) HTS.out 151 7 0 1099511627776 (by omega)
  go_wp2_with fail
  refine F6.mono ?_
  rintro e y6 ⟨x6, o6, rfl, c6, z6, P6⟩
  have R6 : Hid (RP (w.heap.size + 1) (w.alloc (.cells #[.int .i64 0, .string ⟨#[]⟩, .string ⟨#[]⟩, .int .i64 0, .int .i64 0, .int .i64 0, .int .i64 0, .int .i64 0, .int .i64 0, .int .i64 0] 31)) (w.heap.size + 1) (y6.setCell ⟨w1.heap.size, 7, none⟩ (.int .i64 x6)) fb w1.heap.size v F 1 [⟨11, true, 1, 0, 0⟩, ⟨17, true, 2, 0, 0⟩, ⟨39, false, 3, 0, 9⟩, ⟨32, false, 4, 0, 1099511627776⟩, ⟨31, false, 5, 0, 1099511627776⟩, ⟨14, false, 6, 0, 1099511627776⟩, ⟨151, false, 7, 0, 1099511627776⟩]) := P6
  clear F6 P6 R5 c5 z5
  have F7 := R6.out.int (by decide) HTS.out 103 9 0 999 (by omega)
  go_wp2_with fail
  refine F7.mono ?_
  rintro e y7 ⟨x7, o7, rfl, c7, z7, P7⟩
  have R7 : Hid (RP (w.heap.size + 1) (w.alloc (.cells #[.int .i64 0, .string ⟨#[]⟩, .string ⟨#[]⟩, .int .i64 0, .int .i64 0, .int .i64 0, .int .i64 0, .int .i64 0, .int .i64 0, .int .i64 0] 31)) (w.heap.size + 1) (y7.setCell ⟨w1.heap.size, 9, none⟩ (.int .i64 x7)) fb w1.heap.size v F 1 [⟨11, true, 1, 0, 0⟩, ⟨17, true, 2, 0, 0⟩, ⟨39, false, 3, 0, 9⟩, ⟨32, false, 4, 0, 1099511627776⟩, ⟨31, false, 5, 0, 1099511627776⟩, ⟨14, false, 6, 0, 1099511627776⟩, ⟨151, false, 7, 0, 1099511627776⟩, ⟨103, false, 9, 0, 999⟩]) := P7
  clear F7 P7 R6 c6 z6
  have DN := RP.done (k := 1) R7.out HND.out
  have HBR : Hid (Below (w.heap.size + 1) (w.alloc (.cells #[.int .i64 0, .string ⟨#[]⟩, .string ⟨#[]⟩, .int .i64 0, .int .i64 0, .int .i64 0, .int .i64 0, .int .i64 0, .int .i64 0, .int .i64 0] 31)) (y7.setCell ⟨w1.heap.size, 9, none⟩ (.int .i64 x7))) := R7.out.below
  obtain ⟨DT, DE, hDD⟩ : ∃ DT DE, doneE (decS 1 F) (F.map Prod.fst) = (DT, DE) := ⟨_, _, rfl⟩
  have HY : Hid ((doneE (decS 1 F) (F.map Prod.fst)).2 = 0 → (decS 1 F).2.2 = 0) := fun h => (done_run h).1
  rw [hDD] at DN HDT HY
  dsimp only at DN HDT HY
  clear hDD R7
  go_wp2_with fail
  refine DN.mono ?_
  rintro e w9 ⟨u, rfl, T9, hu, b9⟩
  have HB9 : Hid (Below (w.heap.size + 1) (w.alloc (.cells #[.int .i64 0, .string ⟨#[]⟩, .string ⟨#[]⟩, .int .i64 0, .int .i64 0, .int .i64 0, .int .i64 0, .int .i64 0, .int .i64 0, .int .i64 0] 31)) w9) := HBR.out.trans (b9.mono (lo_size HBR.out))
  have C9 : Hid (TellAt w9 w.heap.size (zeroT 0)) := C0.out.still (by rw [show (w.alloc (.cells #[.int .i64 0, .string ⟨#[]⟩, .string ⟨#[]⟩, .int .i64 0, .int .i64 0, .int .i64 0, .int .i64 0, .int .i64 0, .int .i64 0, .int .i64 0] 31)).heap.size = w.heap.size + 1 by simp]; exact HB9.out)
  have HBW : Hid (Below w.heap.size w w9) := B0.out.trans (HB9.out.mono (by omega))
  have HT9 : Hid (TellAt w9 w1.heap.size u) := T9
  have HU : Hid (u = (fil (listK 1) (x0F F) (zeroT 1)).2) := hu
  clear DN T9 hu b9 HBR HB9 c7 z7
  by_cases hDE : DE = 0
  case neg =>
    have te : (DE == 0) = false := beq_false_of_ne hDE
    have HN : Hid (DE ≠ 0) := hDE
    clear hDE
    obtain ⟨r0, r1, r2, r3, r4, r5, r6, r7, r8, r9⟩ := C9.out.zero
    have z := C9.out.fz
    have P : Hid (TellAt (put0 w9 w.heap.size) w.heap.size (zeroT 0)) := put_at C9.out (zeroT 0)
    have PB : Hid (But (fun j => j = w.heap.size) w9 (put0 w9 w.heap.size)) := put_but w9 w.heap.size (zeroT 0)
    go_wp2_with fail
    have P' := P.out
    have PB' := PB.out
    unfold put0 at P' PB'
    clear P PB
    generalize hW9 : World.setCell _ ⟨w.heap.size, 9, none⟩ _ = W9 at *
    obtain ⟨p0, p1, p2, p3, p4, p5, p6, p7, p8, p9⟩ := P'.zero
    refine bodyPost_ret (v := .tuple #[.agg #[.int .i64 0, .string ⟨#[]⟩, .string ⟨#[]⟩, .int .i64 0, .int .i64 0, .int .i64 0, .int .i64 0, .int .i64 0, .int .i64 0, .int .i64 0], .int .i64 DT, .int .i64 DE]) (by simp [results, Tryd.results14, go_sem, p0, p1, p2, p3, p4, p5, p6, p7, p8, p9]) rfl ?_
    exact ⟨zeroT 0, by rw [HDT.out]; rfl, zero_same13 (by rw [HDT.out]; exact HN.out), HBW.out.trans (PB'.below HBW.out.size (fun i e => by have e' : i = w.heap.size := e; omega))⟩
  case pos =>
    have HSM : Hid (Same u (decA s.data.toList)) := by
      show Same u _
      have h0 : (decT s.data.toList).2 = 0 := by rw [HDT.out]; exact hDE
      rw [HAK.out h0, HU.out]
      have := fil_told (l := F) (listK 1) [] (zeroT 1) (HY.out hDE)
      rw [show runS (x0F F) (([] : List Pl).map Pl.want) = x0F F from rfl] at this
      rw [this]
      exact Same.refl _
    have HZ : Hid (decT s.data.toList = (0, 0)) := decT_zero (by rw [HDT.out]; exact hDE)
    subst hDE
    obtain ⟨r0, r1, r2, r3, r4, r5, r6, r7, r8, r9⟩ := C9.out.zero
    have z := C9.out.fz
    obtain ⟨d0, d1, d2, d3, d4, d5, d6, d7, d8, d9⟩ := HT9.out.all
    have P : Hid (TellAt (put10 w9 w.heap.size u) w.heap.size u) := put_at C9.out u
    have PB : Hid (But (fun j => j = w.heap.size) w9 (put10 w9 w.heap.size u)) := put_but w9 w.heap.size u
    go_wp2_with fail
    have P' := P.out
    have PB' := PB.out
    unfold put10 at P' PB'
    clear P PB
    generalize hW9 : World.setCell _ ⟨w.heap.size, 9, none⟩ _ = W9 at *
    obtain ⟨p0, p1, p2, p3, p4, p5, p6, p7, p8, p9⟩ := P'.all
    refine bodyPost_ret (v := .tuple #[.agg #[.int .i64 (u.2 0), .string (u.1 1), .string (u.1 2), .int .i64 (u.2 3), .int .i64 (u.2 4), .int .i64 (u.2 5), .int .i64 (u.2 6), .int .i64 (u.2 7), .int .i64 (u.2 8), .int .i64 (u.2 9)], .int .i64 0, .int .i64 0]) (by simp [results, Tryd.results14, go_sem, p0, p1, p2, p3, p4, p5, p6, p7, p8, p9]) rfl ?_
    exact ⟨u, by rw [HZ.out]; rfl, HSM.out, HBW.out.trans (PB'.below HBW.out.size (fun i e => by have e' : i = w.heap.size := e; omega))⟩
set_option maxRecDepth 100000 in
set_option maxHeartbeats 8000000 in
theorem refDecode_2 (s : ByteArray) (w : World) (hs : s.size ≤ 1000000) (hE : readE s.data.toList = 0) (hk : kindOf (textOf (fieldsL s.data.toList).1 35) = 2) :
    Calls Tryd.prog 14 #[.string s] w (DecOk s.data.toList w) := by
  have RD := fun w => refRead_any s w hs
  obtain ⟨_, ⟨V35, rest, hl⟩, hnd⟩ := read_head hE
  have h35 : textOf (fieldsL s.data.toList).1 35 = V35 := textOf_mem hnd (by rw [hl]; simp)
  have TS := text_small s.data.toList
  obtain ⟨F, hF⟩ : ∃ F, (fieldsL s.data.toList).1 = F := ⟨_, rfl⟩
  rw [h35] at hk
  have HDT : Hid (decT s.data.toList = doneE (decS 2 F) (F.map Prod.fst)) := by
    show decT s.data.toList = _
    unfold decT decE
    rw [if_neg (by omega), h35, hF, hk, if_neg (by omega)]
  have HAK : Hid ((decT s.data.toList).2 = 0 → decA s.data.toList = tolds (listK 2) F (zeroT 2)) := fun h => by
    unfold decA
    rw [if_pos h, h35, hF, hk]
  have hv := word_is (tk := V35) (by omega)
  rw [hk] at hv
  have hv' : V35 = ⟨#[57]⟩ := hv
  subst hv'
  clear hv
  have HRD : Hid (∀ w e w', RRead s.data.toList w e w' → ∃ fb v, e = .returned (.tuple #[.pointer (some ⟨fb, 0, none⟩), .int .i64 0]) ∧ RSt w.heap.size (fun j => w.heap.size ≤ j) w w' fb v F ([], 0, 0)) := fun w e w' h => by
    rcases h with ⟨h1, _⟩ | ⟨_, fb, v, h1, h2⟩
    · exact absurd hE h1
    · rw [hF] at h2; exact ⟨fb, v, h1, h2⟩
  rw [hF] at hl hnd TS
  have HND : Hid ((F.map Prod.fst).Nodup) := hnd
  have HTS : Hid (∀ t s, textO F t = some s → s.size ≤ 100000) := TS
  clear h35 hF hk hnd TS hE
  have B0 : Hid (Below w.heap.size w (w.alloc (.cells #[.int .i64 0, .string ⟨#[]⟩, .string ⟨#[]⟩, .int .i64 0, .int .i64 0, .int .i64 0, .int .i64 0, .int .i64 0, .int .i64 0, .int .i64 0] 31))) := outR_below w
  have C0 : Hid (TellAt (w.alloc (.cells #[.int .i64 0, .string ⟨#[]⟩, .string ⟨#[]⟩, .int .i64 0, .int .i64 0, .int .i64 0, .int .i64 0, .int .i64 0, .int .i64 0, .int .i64 0] 31)) w.heap.size (zeroT 0)) := outR_at w
  go_enter Tryd.func14, Tryd.ntmps14
  go_wp2_with fail
  refine (RD _).mono ?_
  intro e w1 hrd
  obtain ⟨fb, v, rfl, hS1⟩ := HRD.out _ _ _ hrd
  obtain ⟨sz, Q0⟩ := rs_start hS1
  have HSZ : Hid (w.heap.size < w1.heap.size) := sz
  have K1 := Q0.kind hl
  clear RD hrd HRD hS1 Q0 sz
  go_wp2_with fail
  refine K1.mono ?_
  rintro e w2 ⟨rfl, Q1⟩
  clear K1
  have BQ := Q1.below
  have ck := Q1.tell.cell 0 (by omega)
  have zk := Q1.tell.fz 0
  have ck' : w2.cell? ⟨w1.heap.size, 0, none⟩ = some (.int .i64 0) := ck
  have Q2 : Hid (RP (w.heap.size + 1) (w.alloc (.cells #[.int .i64 0, .string ⟨#[]⟩, .string ⟨#[]⟩, .int .i64 0, .int .i64 0, .int .i64 0, .int .i64 0, .int .i64 0, .int .i64 0, .int .i64 0] 31)) (w.heap.size + 1) (w2.setCell ⟨w1.heap.size, 0, none⟩ (.int .i64 2)) fb w1.heap.size v F 2 []) := Q1.start 2
  clear BQ Q1 ck
  have F0 := Q2.out.name (by decide) HTS.out 11 1 0 0 (by omega)
  go_wp2_with fail
  refine F0.mono ?_
  rintro e y0 ⟨x0, o0, rfl, c0, z0, P0⟩
  have R0 : Hid (RP (w.heap.size + 1) (w.alloc (.cells #[.int .i64 0, .string ⟨#[]⟩, .string ⟨#[]⟩, .int .i64 0, .int .i64 0, .int .i64 0, .int .i64 0, .int .i64 0, .int .i64 0, .int .i64 0] 31)) (w.heap.size + 1) (y0.setCell ⟨w1.heap.size, 1, none⟩ (.string x0)) fb w1.heap.size v F 2 [⟨11, true, 1, 0, 0⟩]) := P0
  clear F0 P0 Q2 ck' zk
  have F1 := R0.out.int (by decide) HTS.out 39 3 0 9 (by omega)
  go_wp2_with fail
  refine F1.mono ?_
  rintro e y1 ⟨x1, o1, rfl, c1, z1, P1⟩
  have R1 : Hid (RP (w.heap.size + 1) (w.alloc (.cells #[.int .i64 0, .string ⟨#[]⟩, .string ⟨#[]⟩, .int .i64 0, .int .i64 0, .int .i64 0, .int .i64 0, .int .i64 0, .int .i64 0, .int .i64 0] 31)) (w.heap.size + 1) (y1.setCell ⟨w1.heap.size, 3, none⟩ (.int .i64 x1)) fb w1.heap.size v F 2 [⟨11, true, 1, 0, 0⟩, ⟨39, false, 3, 0, 9⟩]) := P1
  clear F1 P1 R0 c0 z0
  have F2 := R1.out.int (by decide) HTS.out 103 9 0 999 (by omega)
  go_wp2_with fail
  refine F2.mono ?_
  rintro e y2 ⟨x2, o2, rfl, c2, z2, P2⟩
  have R2 : Hid (RP (w.heap.size + 1) (w.alloc (.cells #[.int .i64 0, .string ⟨#[]⟩, .string ⟨#[]⟩, .int .i64 0, .int .i64 0, .int .i64 0, .int .i64 0, .int .i64 0, .int .i64 0, .int .i64 0] 31)) (w.heap.size + 1) (y2.setCell ⟨w1.heap.size, 9, none⟩ (.int .i64 x2)) fb w1.heap.size v F 2 [⟨11, true, 1, 0, 0⟩, ⟨39, false, 3, 0, 9⟩, ⟨103, false, 9, 0, 999⟩]) := P2
  clear F2 P2 R1 c1 z1
  have DN := RP.done (k := 2) R2.out HND.out
  have HBR : Hid (Below (w.heap.size + 1) (w.alloc (.cells #[.int .i64 0, .string ⟨#[]⟩, .string ⟨#[]⟩, .int .i64 0, .int .i64 0, .int .i64 0, .int .i64 0, .int .i64 0, .int .i64 0, .int .i64 0] 31)) (y2.setCell ⟨w1.heap.size, 9, none⟩ (.int .i64 x2))) := R2.out.below
  obtain ⟨DT, DE, hDD⟩ : ∃ DT DE, doneE (decS 2 F) (F.map Prod.fst) = (DT, DE) := ⟨_, _, rfl⟩
  have HY : Hid ((doneE (decS 2 F) (F.map Prod.fst)).2 = 0 → (decS 2 F).2.2 = 0) := fun h => (done_run h).1
  rw [hDD] at DN HDT HY
  dsimp only at DN HDT HY
  clear hDD R2
  go_wp2_with fail
  refine DN.mono ?_
  rintro e w9 ⟨u, rfl, T9, hu, b9⟩
  have HB9 : Hid (Below (w.heap.size + 1) (w.alloc (.cells #[.int .i64 0, .string ⟨#[]⟩, .string ⟨#[]⟩, .int .i64 0, .int .i64 0, .int .i64 0, .int .i64 0, .int .i64 0, .int .i64 0, .int .i64 0] 31)) w9) := HBR.out.trans (b9.mono (lo_size HBR.out))
  have C9 : Hid (TellAt w9 w.heap.size (zeroT 0)) := C0.out.still (by rw [show (w.alloc (.cells #[.int .i64 0, .string ⟨#[]⟩, .string ⟨#[]⟩, .int .i64 0, .int .i64 0, .int .i64 0, .int .i64 0, .int .i64 0, .int .i64 0, .int .i64 0] 31)).heap.size = w.heap.size + 1 by simp]; exact HB9.out)
  have HBW : Hid (Below w.heap.size w w9) := B0.out.trans (HB9.out.mono (by omega))
  have HT9 : Hid (TellAt w9 w1.heap.size u) := T9
  have HU : Hid (u = (fil (listK 2) (x0F F) (zeroT 2)).2) := hu
  clear DN T9 hu b9 HBR HB9 c2 z2
  by_cases hDE : DE = 0
  case neg =>
    have te : (DE == 0) = false := beq_false_of_ne hDE
    have HN : Hid (DE ≠ 0) := hDE
    clear hDE
    obtain ⟨r0, r1, r2, r3, r4, r5, r6, r7, r8, r9⟩ := C9.out.zero
    have z := C9.out.fz
    have P : Hid (TellAt (put0 w9 w.heap.size) w.heap.size (zeroT 0)) := put_at C9.out (zeroT 0)
    have PB : Hid (But (fun j => j = w.heap.size) w9 (put0 w9 w.heap.size)) := put_but w9 w.heap.size (zeroT 0)
    go_wp2_with fail
    have P' := P.out
    have PB' := PB.out
    unfold put0 at P' PB'
    clear P PB
    generalize hW9 : World.setCell _ ⟨w.heap.size, 9, none⟩ _ = W9 at *
    obtain ⟨p0, p1, p2, p3, p4, p5, p6, p7, p8, p9⟩ := P'.zero
    refine bodyPost_ret (v := .tuple #[.agg #[.int .i64 0, .string ⟨#[]⟩, .string ⟨#[]⟩, .int .i64 0, .int .i64 0, .int .i64 0, .int .i64 0, .int .i64 0, .int .i64 0, .int .i64 0], .int .i64 DT, .int .i64 DE]) (by simp [results, Tryd.results14, go_sem, p0, p1, p2, p3, p4, p5, p6, p7, p8, p9]) rfl ?_
    exact ⟨zeroT 0, by rw [HDT.out]; rfl, zero_same13 (by rw [HDT.out]; exact HN.out), HBW.out.trans (PB'.below HBW.out.size (fun i e => by have e' : i = w.heap.size := e; omega))⟩
  case pos =>
    have HSM : Hid (Same u (decA s.data.toList)) := by
      show Same u _
      have h0 : (decT s.data.toList).2 = 0 := by rw [HDT.out]; exact hDE
      rw [HAK.out h0, HU.out]
      have := fil_told (l := F) (listK 2) [] (zeroT 2) (HY.out hDE)
      rw [show runS (x0F F) (([] : List Pl).map Pl.want) = x0F F from rfl] at this
      rw [this]
      exact Same.refl _
    have HZ : Hid (decT s.data.toList = (0, 0)) := decT_zero (by rw [HDT.out]; exact hDE)
    subst hDE
    obtain ⟨r0, r1, r2, r3, r4, r5, r6, r7, r8, r9⟩ := C9.out.zero
    have z := C9.out.fz
    obtain ⟨d0, d1, d2, d3, d4, d5, d6, d7, d8, d9⟩ := HT9.out.all
    have P : Hid (TellAt (put10 w9 w.heap.size u) w.heap.size u) := put_at C9.out u
    have PB : Hid (But (fun j => j = w.heap.size) w9 (put10 w9 w.heap.size u)) := put_but w9 w.heap.size u
    go_wp2_with fail
    have P' := P.out
    have PB' := PB.out
    unfold put10 at P' PB'
    clear P PB
    generalize hW9 : World.setCell _ ⟨w.heap.size, 9, none⟩ _ = W9 at *
    obtain ⟨p0, p1, p2, p3, p4, p5, p6, p7, p8, p9⟩ := P'.all
    refine bodyPost_ret (v := .tuple #[.agg #[.int .i64 (u.2 0), .string (u.1 1), .string (u.1 2), .int .i64 (u.2 3), .int .i64 (u.2 4), .int .i64 (u.2 5), .int .i64 (u.2 6), .int .i64 (u.2 7), .int .i64 (u.2 8), .int .i64 (u.2 9)], .int .i64 0, .int .i64 0]) (by simp [results, Tryd.results14, go_sem, p0, p1, p2, p3, p4, p5, p6, p7, p8, p9]) rfl ?_
    exact ⟨u, by rw [HZ.out]; rfl, HSM.out, HBW.out.trans (PB'.below HBW.out.size (fun i e => by have e' : i = w.heap.size := e; omega))⟩
set_option maxRecDepth 100000 in
set_option maxHeartbeats 8000000 in
theorem refDecode_3 (s : ByteArray) (w : World) (hs : s.size ≤ 1000000) (hE : readE s.data.toList = 0) (hk : kindOf (textOf (fieldsL s.data.toList).1 35) = 3) :
    Calls Tryd.prog 14 #[.string s] w (DecOk s.data.toList w) := by
  have RD := fun w => refRead_any s w hs
  obtain ⟨_, ⟨V35, rest, hl⟩, hnd⟩ := read_head hE
  have h35 : textOf (fieldsL s.data.toList).1 35 = V35 := textOf_mem hnd (by rw [hl]; simp)
  have TS := text_small s.data.toList
  obtain ⟨F, hF⟩ : ∃ F, (fieldsL s.data.toList).1 = F := ⟨_, rfl⟩
  rw [h35] at hk
  have HDT : Hid (decT s.data.toList = doneE (decS 3 F) (F.map Prod.fst)) := by
    show decT s.data.toList = _
    unfold decT decE
    rw [if_neg (by omega), h35, hF, hk, if_neg (by omega)]
  have HAK : Hid ((decT s.data.toList).2 = 0 → decA s.data.toList = tolds (listK 3) F (zeroT 3)) := fun h => by
    unfold decA
    rw [if_pos h, h35, hF, hk]
  have hv := word_is (tk := V35) (by omega)
  rw [hk] at hv
  have hv' : V35 = ⟨#[51]⟩ := hv
  subst hv'
  clear hv
  have HRD : Hid (∀ w e w', RRead s.data.toList w e w' → ∃ fb v, e = .returned (.tuple #[.pointer (some ⟨fb, 0, none⟩), .int .i64 0]) ∧ RSt w.heap.size (fun j => w.heap.size ≤ j) w w' fb v F ([], 0, 0)) := fun w e w' h => by
    rcases h with ⟨h1, _⟩ | ⟨_, fb, v, h1, h2⟩
    · exact absurd hE h1
    · rw [hF] at h2; exact ⟨fb, v, h1, h2⟩
  rw [hF] at hl hnd TS
  have HND : Hid ((F.map Prod.fst).Nodup) := hnd
  have HTS : Hid (∀ t s, textO F t = some s → s.size ≤ 100000) := TS
  clear h35 hF hk hnd TS hE
  have B0 : Hid (Below w.heap.size w (w.alloc (.cells #[.int .i64 0, .string ⟨#[]⟩, .string ⟨#[]⟩, .int .i64 0, .int .i64 0, .int .i64 0, .int .i64 0, .int .i64 0, .int .i64 0, .int .i64 0] 31))) := outR_below w
  have C0 : Hid (TellAt (w.alloc (.cells #[.int .i64 0, .string ⟨#[]⟩, .string ⟨#[]⟩, .int .i64 0, .int .i64 0, .int .i64 0, .int .i64 0, .int .i64 0, .int .i64 0, .int .i64 0] 31)) w.heap.size (zeroT 0)) := outR_at w
  go_enter Tryd.func14, Tryd.ntmps14
  go_wp2_with fail
  refine (RD _).mono ?_
  intro e w1 hrd
  obtain ⟨fb, v, rfl, hS1⟩ := HRD.out _ _ _ hrd
  obtain ⟨sz, Q0⟩ := rs_start hS1
  have HSZ : Hid (w.heap.size < w1.heap.size) := sz
  have K1 := Q0.kind hl
  clear RD hrd HRD hS1 Q0 sz
  go_wp2_with fail
  refine K1.mono ?_
  rintro e w2 ⟨rfl, Q1⟩
  clear K1
  have BQ := Q1.below
  have ck := Q1.tell.cell 0 (by omega)
  have zk := Q1.tell.fz 0
  have ck' : w2.cell? ⟨w1.heap.size, 0, none⟩ = some (.int .i64 0) := ck
  have Q2 : Hid (RP (w.heap.size + 1) (w.alloc (.cells #[.int .i64 0, .string ⟨#[]⟩, .string ⟨#[]⟩, .int .i64 0, .int .i64 0, .int .i64 0, .int .i64 0, .int .i64 0, .int .i64 0, .int .i64 0] 31)) (w.heap.size + 1) (w2.setCell ⟨w1.heap.size, 0, none⟩ (.int .i64 3)) fb w1.heap.size v F 3 []) := Q1.start 3
  clear BQ Q1 ck
  have F0 := Q2.out.int (by decide) HTS.out 371 8 0 99999 (by omega)
  go_wp2_with fail
  refine F0.mono ?_
  rintro e y0 ⟨x0, o0, rfl, c0, z0, P0⟩
  have R0 : Hid (RP (w.heap.size + 1) (w.alloc (.cells #[.int .i64 0, .string ⟨#[]⟩, .string ⟨#[]⟩, .int .i64 0, .int .i64 0, .int .i64 0, .int .i64 0, .int .i64 0, .int .i64 0, .int .i64 0] 31)) (w.heap.size + 1) (y0.setCell ⟨w1.heap.size, 8, none⟩ (.int .i64 x0)) fb w1.heap.size v F 3 [⟨371, false, 8, 0, 99999⟩]) := P0
  clear F0 P0 Q2 ck' zk
  have F1 := R0.out.int (by decide) HTS.out 373 9 0 999 (by omega)
  go_wp2_with fail
  refine F1.mono ?_
  rintro e y1 ⟨x1, o1, rfl, c1, z1, P1⟩
  have R1 : Hid (RP (w.heap.size + 1) (w.alloc (.cells #[.int .i64 0, .string ⟨#[]⟩, .string ⟨#[]⟩, .int .i64 0, .int .i64 0, .int .i64 0, .int .i64 0, .int .i64 0, .int .i64 0, .int .i64 0] 31)) (w.heap.size + 1) (y1.setCell ⟨w1.heap.size, 9, none⟩ (.int .i64 x1)) fb w1.heap.size v F 3 [⟨371, false, 8, 0, 99999⟩, ⟨373, false, 9, 0, 999⟩]) := P1
  clear F1 P1 R0 c0 z0
  have DN := RP.done (k := 3) R1.out HND.out
  have HBR : Hid (Below (w.heap.size + 1) (w.alloc (.cells #[.int .i64 0, .string ⟨#[]⟩, .string ⟨#[]⟩, .int .i64 0, .int .i64 0, .int .i64 0, .int .i64 0, .int .i64 0, .int .i64 0, .int .i64 0] 31)) (y1.setCell ⟨w1.heap.size, 9, none⟩ (.int .i64 x1))) := R1.out.below
  obtain ⟨DT, DE, hDD⟩ : ∃ DT DE, doneE (decS 3 F) (F.map Prod.fst) = (DT, DE) := ⟨_, _, rfl⟩
  have HY : Hid ((doneE (decS 3 F) (F.map Prod.fst)).2 = 0 → (decS 3 F).2.2 = 0) := fun h => (done_run h).1
  rw [hDD] at DN HDT HY
  dsimp only at DN HDT HY
  clear hDD R1
  go_wp2_with fail
  refine DN.mono ?_
  rintro e w9 ⟨u, rfl, T9, hu, b9⟩
  have HB9 : Hid (Below (w.heap.size + 1) (w.alloc (.cells #[.int .i64 0, .string ⟨#[]⟩, .string ⟨#[]⟩, .int .i64 0, .int .i64 0, .int .i64 0, .int .i64 0, .int .i64 0, .int .i64 0, .int .i64 0] 31)) w9) := HBR.out.trans (b9.mono (lo_size HBR.out))
  have C9 : Hid (TellAt w9 w.heap.size (zeroT 0)) := C0.out.still (by rw [show (w.alloc (.cells #[.int .i64 0, .string ⟨#[]⟩, .string ⟨#[]⟩, .int .i64 0, .int .i64 0, .int .i64 0, .int .i64 0, .int .i64 0, .int .i64 0, .int .i64 0] 31)).heap.size = w.heap.size + 1 by simp]; exact HB9.out)
  have HBW : Hid (Below w.heap.size w w9) := B0.out.trans (HB9.out.mono (by omega))
  have HT9 : Hid (TellAt w9 w1.heap.size u) := T9
  have HU : Hid (u = (fil (listK 3) (x0F F) (zeroT 3)).2) := hu
  clear DN T9 hu b9 HBR HB9 c1 z1
  by_cases hDE : DE = 0
  case neg =>
    have te : (DE == 0) = false := beq_false_of_ne hDE
    have HN : Hid (DE ≠ 0) := hDE
    clear hDE
    obtain ⟨r0, r1, r2, r3, r4, r5, r6, r7, r8, r9⟩ := C9.out.zero
    have z := C9.out.fz
    have P : Hid (TellAt (put0 w9 w.heap.size) w.heap.size (zeroT 0)) := put_at C9.out (zeroT 0)
    have PB : Hid (But (fun j => j = w.heap.size) w9 (put0 w9 w.heap.size)) := put_but w9 w.heap.size (zeroT 0)
    go_wp2_with fail
    have P' := P.out
    have PB' := PB.out
    unfold put0 at P' PB'
    clear P PB
    generalize hW9 : World.setCell _ ⟨w.heap.size, 9, none⟩ _ = W9 at *
    obtain ⟨p0, p1, p2, p3, p4, p5, p6, p7, p8, p9⟩ := P'.zero
    refine bodyPost_ret (v := .tuple #[.agg #[.int .i64 0, .string ⟨#[]⟩, .string ⟨#[]⟩, .int .i64 0, .int .i64 0, .int .i64 0, .int .i64 0, .int .i64 0, .int .i64 0, .int .i64 0], .int .i64 DT, .int .i64 DE]) (by simp [results, Tryd.results14, go_sem, p0, p1, p2, p3, p4, p5, p6, p7, p8, p9]) rfl ?_
    exact ⟨zeroT 0, by rw [HDT.out]; rfl, zero_same13 (by rw [HDT.out]; exact HN.out), HBW.out.trans (PB'.below HBW.out.size (fun i e => by have e' : i = w.heap.size := e; omega))⟩
  case pos =>
    have HSM : Hid (Same u (decA s.data.toList)) := by
      show Same u _
      have h0 : (decT s.data.toList).2 = 0 := by rw [HDT.out]; exact hDE
      rw [HAK.out h0, HU.out]
      have := fil_told (l := F) (listK 3) [] (zeroT 3) (HY.out hDE)
      rw [show runS (x0F F) (([] : List Pl).map Pl.want) = x0F F from rfl] at this
      rw [this]
      exact Same.refl _
    have HZ : Hid (decT s.data.toList = (0, 0)) := decT_zero (by rw [HDT.out]; exact hDE)
    subst hDE
    obtain ⟨r0, r1, r2, r3, r4, r5, r6, r7, r8, r9⟩ := C9.out.zero
    have z := C9.out.fz
    obtain ⟨d0, d1, d2, d3, d4, d5, d6, d7, d8, d9⟩ := HT9.out.all
    have P : Hid (TellAt (put10 w9 w.heap.size u) w.heap.size u) := put_at C9.out u
    have PB : Hid (But (fun j => j = w.heap.size) w9 (put10 w9 w.heap.size u)) := put_but w9 w.heap.size u
    go_wp2_with fail
    have P' := P.out
    have PB' := PB.out
    unfold put10 at P' PB'
    clear P PB
    generalize hW9 : World.setCell _ ⟨w.heap.size, 9, none⟩ _ = W9 at *
    obtain ⟨p0, p1, p2, p3, p4, p5, p6, p7, p8, p9⟩ := P'.all
    refine bodyPost_ret (v := .tuple #[.agg #[.int .i64 (u.2 0), .string (u.1 1), .string (u.1 2), .int .i64 (u.2 3), .int .i64 (u.2 4), .int .i64 (u.2 5), .int .i64 (u.2 6), .int .i64 (u.2 7), .int .i64 (u.2 8), .int .i64 (u.2 9)], .int .i64 0, .int .i64 0]) (by simp [results, Tryd.results14, go_sem, p0, p1, p2, p3, p4, p5, p6, p7, p8, p9]) rfl ?_
    exact ⟨u, by rw [HZ.out]; rfl, HSM.out, HBW.out.trans (PB'.below HBW.out.size (fun i e => by have e' : i = w.heap.size := e; omega))⟩
set_option maxRecDepth 100000 in
set_option maxHeartbeats 8000000 in
theorem refDecode_4 (s : ByteArray) (w : World) (hs : s.size ≤ 1000000) (hE : readE s.data.toList = 0) (hk : kindOf (textOf (fieldsL s.data.toList).1 35) = 4) :
    Calls Tryd.prog 14 #[.string s] w (DecOk s.data.toList w) := by
  have RD := fun w => refRead_any s w hs
  obtain ⟨_, ⟨V35, rest, hl⟩, hnd⟩ := read_head hE
  have h35 : textOf (fieldsL s.data.toList).1 35 = V35 := textOf_mem hnd (by rw [hl]; simp)
  have TS := text_small s.data.toList
  obtain ⟨F, hF⟩ : ∃ F, (fieldsL s.data.toList).1 = F := ⟨_, rfl⟩
  rw [h35] at hk
  have HDT : Hid (decT s.data.toList = doneE (decS 4 F) (F.map Prod.fst)) := by
    show decT s.data.toList = _
    unfold decT decE
    rw [if_neg (by omega), h35, hF, hk, if_neg (by omega)]
  have HAK : Hid ((decT s.data.toList).2 = 0 → decA s.data.toList = tolds (listK 4) F (zeroT 4)) := fun h => by
    unfold decA
    rw [if_pos h, h35, hF, hk]
  have hv := word_is (tk := V35) (by omega)
  rw [hk] at hv
  have hv' : V35 = ⟨#[106]⟩ := hv
  subst hv'
  clear hv
  have HRD : Hid (∀ w e w', RRead s.data.toList w e w' → ∃ fb v, e = .returned (.tuple #[.pointer (some ⟨fb, 0, none⟩), .int .i64 0]) ∧ RSt w.heap.size (fun j => w.heap.size ≤ j) w w' fb v F ([], 0, 0)) := fun w e w' h => by
    rcases h with ⟨h1, _⟩ | ⟨_, fb, v, h1, h2⟩
    · exact absurd hE h1
    · rw [hF] at h2; exact ⟨fb, v, h1, h2⟩
  rw [hF] at hl hnd TS
  have HND : Hid ((F.map Prod.fst).Nodup) := hnd
  have HTS : Hid (∀ t s, textO F t = some s → s.size ≤ 100000) := TS
  clear h35 hF hk hnd TS hE
  have B0 : Hid (Below w.heap.size w (w.alloc (.cells #[.int .i64 0, .string ⟨#[]⟩, .string ⟨#[]⟩, .int .i64 0, .int .i64 0, .int .i64 0, .int .i64 0, .int .i64 0, .int .i64 0, .int .i64 0] 31))) := outR_below w
  have C0 : Hid (TellAt (w.alloc (.cells #[.int .i64 0, .string ⟨#[]⟩, .string ⟨#[]⟩, .int .i64 0, .int .i64 0, .int .i64 0, .int .i64 0, .int .i64 0, .int .i64 0, .int .i64 0] 31)) w.heap.size (zeroT 0)) := outR_at w
  go_enter Tryd.func14, Tryd.ntmps14
  go_wp2_with fail
  refine (RD _).mono ?_
  intro e w1 hrd
  obtain ⟨fb, v, rfl, hS1⟩ := HRD.out _ _ _ hrd
  obtain ⟨sz, Q0⟩ := rs_start hS1
  have HSZ : Hid (w.heap.size < w1.heap.size) := sz
  have K1 := Q0.kind hl
  clear RD hrd HRD hS1 Q0 sz
  go_wp2_with fail
  refine K1.mono ?_
  rintro e w2 ⟨rfl, Q1⟩
  clear K1
  have BQ := Q1.below
  have ck := Q1.tell.cell 0 (by omega)
  have zk := Q1.tell.fz 0
  have ck' : w2.cell? ⟨w1.heap.size, 0, none⟩ = some (.int .i64 0) := ck
  have Q2 : Hid (RP (w.heap.size + 1) (w.alloc (.cells #[.int .i64 0, .string ⟨#[]⟩, .string ⟨#[]⟩, .int .i64 0, .int .i64 0, .int .i64 0, .int .i64 0, .int .i64 0, .int .i64 0, .int .i64 0] 31)) (w.heap.size + 1) (w2.setCell ⟨w1.heap.size, 0, none⟩ (.int .i64 4)) fb w1.heap.size v F 4 []) := Q1.start 4
  clear BQ Q1 ck
  have F0 := Q2.out.int (by decide) HTS.out 371 8 0 99999 (by omega)
  go_wp2_with fail
  refine F0.mono ?_
  rintro e y0 ⟨x0, o0, rfl, c0, z0, P0⟩
  have R0 : Hid (RP (w.heap.size + 1) (w.alloc (.cells #[.int .i64 0, .string ⟨#[]⟩, .string ⟨#[]⟩, .int .i64 0, .int .i64 0, .int .i64 0, .int .i64 0, .int .i64 0, .int .i64 0, .int .i64 0] 31)) (w.heap.size + 1) (y0.setCell ⟨w1.heap.size, 8, none⟩ (.int .i64 x0)) fb w1.heap.size v F 4 [⟨371, false, 8, 0, 99999⟩]) := P0
  clear F0 P0 Q2 ck' zk
  have F1 := R0.out.int (by decide) HTS.out 380 9 0 999 (by omega)
  go_wp2_with fail
  refine F1.mono ?_
  rintro e y1 ⟨x1, o1, rfl, c1, z1, P1⟩
  have R1 : Hid (RP (w.heap.size + 1) (w.alloc (.cells #[.int .i64 0, .string ⟨#[]⟩, .string ⟨#[]⟩, .int .i64 0, .int .i64 0, .int .i64 0, .int .i64 0, .int .i64 0, .int .i64 0, .int .i64 0] 31)) (w.heap.size + 1) (y1.setCell ⟨w1.heap.size, 9, none⟩ (.int .i64 x1)) fb w1.heap.size v F 4 [⟨371, false, 8, 0, 99999⟩, ⟨380, false, 9, 0, 999⟩]) := P1
  clear F1 P1 R0 c0 z0
  have DN := RP.done (k := 4) R1.out HND.out
  have HBR : Hid (Below (w.heap.size + 1) (w.alloc (.cells #[.int .i64 0, .string ⟨#[]⟩, .string ⟨#[]⟩, .int .i64 0, .int .i64 0, .int .i64 0, .int .i64 0, .int .i64 0, .int .i64 0, .int .i64 0] 31)) (y1.setCell ⟨w1.heap.size, 9, none⟩ (.int .i64 x1))) := R1.out.below
  obtain ⟨DT, DE, hDD⟩ : ∃ DT DE, doneE (decS 4 F) (F.map Prod.fst) = (DT, DE) := ⟨_, _, rfl⟩
  have HY : Hid ((doneE (decS 4 F) (F.map Prod.fst)).2 = 0 → (decS 4 F).2.2 = 0) := fun h => (done_run h).1
  rw [hDD] at DN HDT HY
  dsimp only at DN HDT HY
  clear hDD R1
  go_wp2_with fail
  refine DN.mono ?_
  rintro e w9 ⟨u, rfl, T9, hu, b9⟩
  have HB9 : Hid (Below (w.heap.size + 1) (w.alloc (.cells #[.int .i64 0, .string ⟨#[]⟩, .string ⟨#[]⟩, .int .i64 0, .int .i64 0, .int .i64 0, .int .i64 0, .int .i64 0, .int .i64 0, .int .i64 0] 31)) w9) := HBR.out.trans (b9.mono (lo_size HBR.out))
  have C9 : Hid (TellAt w9 w.heap.size (zeroT 0)) := C0.out.still (by rw [show (w.alloc (.cells #[.int .i64 0, .string ⟨#[]⟩, .string ⟨#[]⟩, .int .i64 0, .int .i64 0, .int .i64 0, .int .i64 0, .int .i64 0, .int .i64 0, .int .i64 0] 31)).heap.size = w.heap.size + 1 by simp]; exact HB9.out)
  have HBW : Hid (Below w.heap.size w w9) := B0.out.trans (HB9.out.mono (by omega))
  have HT9 : Hid (TellAt w9 w1.heap.size u) := T9
  have HU : Hid (u = (fil (listK 4) (x0F F) (zeroT 4)).2) := hu
  clear DN T9 hu b9 HBR HB9 c1 z1
  by_cases hDE : DE = 0
  case neg =>
    have te : (DE == 0) = false := beq_false_of_ne hDE
    have HN : Hid (DE ≠ 0) := hDE
    clear hDE
    obtain ⟨r0, r1, r2, r3, r4, r5, r6, r7, r8, r9⟩ := C9.out.zero
    have z := C9.out.fz
    have P : Hid (TellAt (put0 w9 w.heap.size) w.heap.size (zeroT 0)) := put_at C9.out (zeroT 0)
    have PB : Hid (But (fun j => j = w.heap.size) w9 (put0 w9 w.heap.size)) := put_but w9 w.heap.size (zeroT 0)
    go_wp2_with fail
    have P' := P.out
    have PB' := PB.out
    unfold put0 at P' PB'
    clear P PB
    generalize hW9 : World.setCell _ ⟨w.heap.size, 9, none⟩ _ = W9 at *
    obtain ⟨p0, p1, p2, p3, p4, p5, p6, p7, p8, p9⟩ := P'.zero
    refine bodyPost_ret (v := .tuple #[.agg #[.int .i64 0, .string ⟨#[]⟩, .string ⟨#[]⟩, .int .i64 0, .int .i64 0, .int .i64 0, .int .i64 0, .int .i64 0, .int .i64 0, .int .i64 0], .int .i64 DT, .int .i64 DE]) (by simp [results, Tryd.results14, go_sem, p0, p1, p2, p3, p4, p5, p6, p7, p8, p9]) rfl ?_
    exact ⟨zeroT 0, by rw [HDT.out]; rfl, zero_same13 (by rw [HDT.out]; exact HN.out), HBW.out.trans (PB'.below HBW.out.size (fun i e => by have e' : i = w.heap.size := e; omega))⟩
  case pos =>
    have HSM : Hid (Same u (decA s.data.toList)) := by
      show Same u _
      have h0 : (decT s.data.toList).2 = 0 := by rw [HDT.out]; exact hDE
      rw [HAK.out h0, HU.out]
      have := fil_told (l := F) (listK 4) [] (zeroT 4) (HY.out hDE)
      rw [show runS (x0F F) (([] : List Pl).map Pl.want) = x0F F from rfl] at this
      rw [this]
      exact Same.refl _
    have HZ : Hid (decT s.data.toList = (0, 0)) := decT_zero (by rw [HDT.out]; exact hDE)
    subst hDE
    obtain ⟨r0, r1, r2, r3, r4, r5, r6, r7, r8, r9⟩ := C9.out.zero
    have z := C9.out.fz
    obtain ⟨d0, d1, d2, d3, d4, d5, d6, d7, d8, d9⟩ := HT9.out.all
    have P : Hid (TellAt (put10 w9 w.heap.size u) w.heap.size u) := put_at C9.out u
    have PB : Hid (But (fun j => j = w.heap.size) w9 (put10 w9 w.heap.size u)) := put_but w9 w.heap.size u
    go_wp2_with fail
    have P' := P.out
    have PB' := PB.out
    unfold put10 at P' PB'
    clear P PB
    generalize hW9 : World.setCell _ ⟨w.heap.size, 9, none⟩ _ = W9 at *
    obtain ⟨p0, p1, p2, p3, p4, p5, p6, p7, p8, p9⟩ := P'.all
    refine bodyPost_ret (v := .tuple #[.agg #[.int .i64 (u.2 0), .string (u.1 1), .string (u.1 2), .int .i64 (u.2 3), .int .i64 (u.2 4), .int .i64 (u.2 5), .int .i64 (u.2 6), .int .i64 (u.2 7), .int .i64 (u.2 8), .int .i64 (u.2 9)], .int .i64 0, .int .i64 0]) (by simp [results, Tryd.results14, go_sem, p0, p1, p2, p3, p4, p5, p6, p7, p8, p9]) rfl ?_
    exact ⟨u, by rw [HZ.out]; rfl, HSM.out, HBW.out.trans (PB'.below HBW.out.size (fun i e => by have e' : i = w.heap.size := e; omega))⟩
theorem refDecode_any (s : ByteArray) (w : World) (hs : s.size ≤ 1000000) : Calls Tryd.prog 14 #[.string s] w (DecOk s.data.toList w) := by
  by_cases hE : readE s.data.toList = 0
  · have r := kind_range (textOf (fieldsL s.data.toList).1 35)
    rcases (show kindOf (textOf (fieldsL s.data.toList).1 35) = 0 ∨ kindOf (textOf (fieldsL s.data.toList).1 35) = 1 ∨ kindOf (textOf (fieldsL s.data.toList).1 35) = 2 ∨ kindOf (textOf (fieldsL s.data.toList).1 35) = 3 ∨ kindOf (textOf (fieldsL s.data.toList).1 35) = 4 by omega) with h | h | h | h | h
    · exact refDecode_none s w hs hE h
    · exact refDecode_1 s w hs hE h
    · exact refDecode_2 s w hs hE h
    · exact refDecode_3 s w hs hE h
    · exact refDecode_4 s w hs hE h
  · exact refDecode_read s w hs hE
end Go.Proofs.YtdacmhnniecmhaaDoor
