/-
  Contracts of the functions that read hands on, and of tell's read: a form is asked for one field after another, each is put into the tell.
-/
import Derived.Test.YtdacmhnniecmhaaDoorHA
import Derived.Test.YtdacmhnniecmhaaDoorHB
namespace Go.Proofs.YtdacmhnniecmhaaDoor
open Go.ChangeShapes Go.WideShapes Go.ChangeAt Go.RowKit Go.Lib

/-- A tell put into a block. -/
def put10 (w : World) (r : Nat) (t : TellP) : World := ((((((((((w.setCell ⟨r, 0, none⟩ (.int .i64 (t.2 0))).setCell ⟨r, 1, none⟩ (.string (t.1 1))).setCell ⟨r, 2, none⟩ (.string (t.1 2))).setCell ⟨r, 3, none⟩ (.int .i64 (t.2 3))).setCell ⟨r, 4, none⟩ (.int .i64 (t.2 4))).setCell ⟨r, 5, none⟩ (.int .i64 (t.2 5))).setCell ⟨r, 6, none⟩ (.int .i64 (t.2 6))).setCell ⟨r, 7, none⟩ (.int .i64 (t.2 7))).setCell ⟨r, 8, none⟩ (.int .i64 (t.2 8))).setCell ⟨r, 9, none⟩ (.int .i64 (t.2 9)))
theorem put_cell {w : World} {r j j' : Nat} {v x : Value} (h : w.cell? ⟨r, j, none⟩ = some x) (hj : j ≠ j') : (w.setCell ⟨r, j', none⟩ v).cell? ⟨r, j, none⟩ = some x :=
  (World.cell?_setCell_other _ _ _ _ (by simp only [ne_eq, Addr.mk.injEq]; omega)).trans h
theorem put_at {w : World} {r : Nat} {u : TellP} (h' : TellAt w r u) (t : TellP) : TellAt (put10 w r t) r t := by
  have h := h'.cell
  have f := h'.fz
  refine ⟨fun j hj => ?_, fun j => by unfold put10; simp only [World.frozen?_setCell]; exact f j⟩
  unfold put10
  rcases (show j = 0 ∨ j = 1 ∨ j = 2 ∨ j = 3 ∨ j = 4 ∨ j = 5 ∨ j = 6 ∨ j = 7 ∨ j = 8 ∨ j = 9 by omega) with rfl | rfl | rfl | rfl | rfl | rfl | rfl | rfl | rfl | rfl
  · exact put_cell (put_cell (put_cell (put_cell (put_cell (put_cell (put_cell (put_cell (put_cell (World.cell?_setCell_same _ _ _ (h 0 (by omega))) (by omega)) (by omega)) (by omega)) (by omega)) (by omega)) (by omega)) (by omega)) (by omega)) (by omega)
  · exact put_cell (put_cell (put_cell (put_cell (put_cell (put_cell (put_cell (put_cell (World.cell?_setCell_same _ _ _ (put_cell (h 1 (by omega)) (by omega))) (by omega)) (by omega)) (by omega)) (by omega)) (by omega)) (by omega)) (by omega)) (by omega)
  · exact put_cell (put_cell (put_cell (put_cell (put_cell (put_cell (put_cell (World.cell?_setCell_same _ _ _ (put_cell (put_cell (h 2 (by omega)) (by omega)) (by omega))) (by omega)) (by omega)) (by omega)) (by omega)) (by omega)) (by omega)) (by omega)
  · exact put_cell (put_cell (put_cell (put_cell (put_cell (put_cell (World.cell?_setCell_same _ _ _ (put_cell (put_cell (put_cell (h 3 (by omega)) (by omega)) (by omega)) (by omega))) (by omega)) (by omega)) (by omega)) (by omega)) (by omega)) (by omega)
  · exact put_cell (put_cell (put_cell (put_cell (put_cell (World.cell?_setCell_same _ _ _ (put_cell (put_cell (put_cell (put_cell (h 4 (by omega)) (by omega)) (by omega)) (by omega)) (by omega))) (by omega)) (by omega)) (by omega)) (by omega)) (by omega)
  · exact put_cell (put_cell (put_cell (put_cell (World.cell?_setCell_same _ _ _ (put_cell (put_cell (put_cell (put_cell (put_cell (h 5 (by omega)) (by omega)) (by omega)) (by omega)) (by omega)) (by omega))) (by omega)) (by omega)) (by omega)) (by omega)
  · exact put_cell (put_cell (put_cell (World.cell?_setCell_same _ _ _ (put_cell (put_cell (put_cell (put_cell (put_cell (put_cell (h 6 (by omega)) (by omega)) (by omega)) (by omega)) (by omega)) (by omega)) (by omega))) (by omega)) (by omega)) (by omega)
  · exact put_cell (put_cell (World.cell?_setCell_same _ _ _ (put_cell (put_cell (put_cell (put_cell (put_cell (put_cell (put_cell (h 7 (by omega)) (by omega)) (by omega)) (by omega)) (by omega)) (by omega)) (by omega)) (by omega))) (by omega)) (by omega)
  · exact put_cell (World.cell?_setCell_same _ _ _ (put_cell (put_cell (put_cell (put_cell (put_cell (put_cell (put_cell (put_cell (h 8 (by omega)) (by omega)) (by omega)) (by omega)) (by omega)) (by omega)) (by omega)) (by omega)) (by omega))) (by omega)
  · exact World.cell?_setCell_same _ _ _ (put_cell (put_cell (put_cell (put_cell (put_cell (put_cell (put_cell (put_cell (put_cell (h 9 (by omega)) (by omega)) (by omega)) (by omega)) (by omega)) (by omega)) (by omega)) (by omega)) (by omega)) (by omega))
theorem put_but (w : World) (r : Nat) (t : TellP) : But (fun j => j = r) w (put10 w r t) := by
  unfold put10
  exact (((((((((((But.refl (fun j => j = r) w).setCell r 0 _ (fun _ => rfl)).setCell r 1 _ (fun _ => rfl)).setCell r 2 _ (fun _ => rfl)).setCell r 3 _ (fun _ => rfl)).setCell r 4 _ (fun _ => rfl)).setCell r 5 _ (fun _ => rfl)).setCell r 6 _ (fun _ => rfl)).setCell r 7 _ (fun _ => rfl)).setCell r 8 _ (fun _ => rfl)).setCell r 9 _ (fun _ => rfl))
theorem zero_cells (k : Int) (w : World) : boxT w (zeroT k) = w.alloc (.cells #[.int .i64 k, .string ⟨#[]⟩, .string ⟨#[]⟩, .int .i64 0, .int .i64 0, .int .i64 0, .int .i64 0, .int .i64 0, .int .i64 0, .int .i64 0] 23) := rfl
/-- A form at fb, a tell at block b, a pointer to the form at block cb. -/
structure RdSt (n0 : Nat) (w : World) (fb bm b cb n : Nat) (tv : Value) (tags : List Int) (x : StP) (t : TellP) : Prop where
  frm : Frm n0 w fb bm n tv tags x.1 x.2.1 x.2.2
  small : SmallL x.1
  tell : TellAt w b t
  ptr : w.cell? ⟨cb, 0, none⟩ = some (.pointer (some ⟨fb, 0, none⟩))
  nf : b ≠ fb
  nm : b ≠ bm
  nt : tv.ownBlock ≠ some b
  cf : cb ≠ fb
  cm : cb ≠ bm
  nc : cb ≠ b
theorem RdSt.still {n0 : Nat} {w w' : World} {fb bm b cb n : Nat} {tv : Value} {tags : List Int} {x : StP} {t : TellP} (h : RdSt n0 w fb bm b cb n tv tags x t) (k : Below w.heap.size w w') : RdSt n0 w' fb bm b cb n tv tags x t :=
  ⟨h.frm.still k, h.small, h.tell.still k, (k.cell (p := ⟨cb, 0, none⟩) (World.block_lt_of_cell? _ _ h.ptr)).trans h.ptr, h.nf, h.nm, h.nt, h.cf, h.cm, h.nc⟩
def ThreeB (fb bm b k : Nat) : Prop := k = fb ∨ k = bm ∨ k = b
theorem RdSt.asked {n0 : Nat} {w w' : World} {fb bm b cb n n' : Nat} {tv : Value} {tags : List Int} {x y : StP} {t : TellP} (h : RdSt n0 w fb bm b cb n tv tags x t) (hF : Frm n0 w' fb bm n' tv tags y.1 y.2.1 y.2.2) (hs : SmallL y.1) (hB : But (Two fb bm) w w') : RdSt n0 w' fb bm b cb n' tv tags y t :=
  ⟨hF, hs, h.tell.but hB (fun e => e.elim h.nf h.nm), (hB.cell (World.block_lt_of_cell? _ _ h.ptr) (fun e => e.elim h.cf h.cm)).trans h.ptr, h.nf, h.nm, h.nt, h.cf, h.cm, h.nc⟩
theorem RdSt.put {n0 : Nat} {w : World} {fb bm b cb n : Nat} {tv : Value} {tags : List Int} {x : StP} {t t' : TellP} {j : Nat} {v : Value} (h : RdSt n0 w fb bm b cb n tv tags x t) (hT : TellAt (w.setCell ⟨b, j, none⟩ v) b t') : RdSt n0 (w.setCell ⟨b, j, none⟩ v) fb bm b cb n tv tags x t' := by
  have hB : But (fun k => k = b) w (w.setCell ⟨b, j, none⟩ v) := (But.refl _ w).setCell b j _ (fun _ => rfl)
  exact ⟨h.frm.keepS hB (fun e => h.nf e.symm) (fun e => h.nm e.symm) (fun g hg e => h.nt (by rw [hg, e])), h.small, hT, (hB.cell (World.block_lt_of_cell? _ _ h.ptr) h.nc).trans h.ptr, h.nf, h.nm, h.nt, h.cf, h.cm, h.nc⟩
set_option maxHeartbeats 4000000 in
theorem read1_any {n0 : Nat} {w : World} {fb bm b cb n : Nat} {tv : Value} {tags : List Int} {x : StP} {t : TellP} (h : RdSt n0 w fb bm b cb n tv tags x t) (hn : n ≤ 1000000) {p : Pl} (h10 : p.off < 10) (hi : p.isName = true ↔ p.off = 1 ∨ p.off = 2) (hp : p.isName = true) (t1 : 1 ≤ p.tag) (t2 : p.tag ≤ 99999) :
    Calls Tryd.prog 51 #[.int .i64 p.tag, .pointer (some ⟨b, p.off, none⟩), .pointer (some ⟨cb, 0, none⟩)] w fun e w' => e = .returned (.tuple #[]) ∧ RdSt n0 w' fb bm b cb (n + 1) tv tags (stepW x p.want) (p.got x t) ∧ But (ThreeB fb bm b) w w' := by
  have F := name_any h.frm hn p.tag (by omega) (by omega)
  have c0 := h.ptr
  have HH : Hid (RdSt n0 w fb bm b cb n tv tags x t) := h
  have hw : p.want = (p.tag, .name) := by unfold Pl.want; rw [if_pos hp]
  have hg : p.got x t = (upd t.1 p.off (askV x.1 x.2.2 p.tag nameVE id ⟨#[]⟩), t.2) := by unfold Pl.got; rw [if_pos hp]
  rw [hw, hg]
  clear h hn t1 t2 hw hg
  go_enter Tryd.func51, Tryd.ntmps51
  go_wp2_with fail
  refine F.mono ?_
  rintro e w1 ⟨v, rfl, hv, hF, hB⟩
  have S1 : RdSt n0 w1 fb bm b cb (n + 1) tv tags (stepW x (p.tag, .name)) t := HH.out.asked hF (small_step HH.out.small _) hB
  have c1 := S1.tell.text h10 hi hp
  have f1 := S1.tell.fz p.off
  have S2 := S1.put (S1.tell.setText h10 hi hp v)
  have hB2 : But (ThreeB fb bm b) w (w1.setCell ⟨b, p.off, none⟩ (.string v)) := (hB.mono (fun k _ e => by rcases e with e | e; exact .inl e; exact .inr (.inl e))).setCell b p.off _ (fun _ => .inr (.inr rfl))
  rw [hv] at S2 hB2
  have HS : Hid (RdSt n0 (w1.setCell ⟨b, p.off, none⟩ (.string v)) fb bm b cb (n + 1) tv tags (stepW x (p.tag, .name)) (upd t.1 p.off (askV x.1 x.2.2 p.tag nameVE id ⟨#[]⟩), t.2) ∧ But (ThreeB fb bm b) w (w1.setCell ⟨b, p.off, none⟩ (.string v))) := by rw [hv]; exact ⟨S2, hB2⟩
  clear F hv hF hB S1 S2 hB2 HH c0
  go_wp2_with fail
  go_end0
  exact ⟨rfl, HS.out⟩
set_option maxHeartbeats 4000000 in
theorem read2_any {n0 : Nat} {w : World} {fb bm b cb n : Nat} {tv : Value} {tags : List Int} {x : StP} {t : TellP} (h : RdSt n0 w fb bm b cb n tv tags x t) (hn : n ≤ 1000000) {p : Pl} (h10 : p.off < 10) (hi : p.isName = true ↔ p.off = 1 ∨ p.off = 2) (hp : p.isName = false) (t1 : 1 ≤ p.tag) (t2 : p.tag ≤ 99999) :
    Calls Tryd.prog 53 #[.int .i64 p.tag, .pointer (some ⟨b, p.off, none⟩), .int .i64 p.low, .int .i64 p.high, .pointer (some ⟨cb, 0, none⟩)] w fun e w' => e = .returned (.tuple #[]) ∧ RdSt n0 w' fb bm b cb (n + 1) tv tags (stepW x p.want) (p.got x t) ∧ But (ThreeB fb bm b) w w' := by
  have hp' : ¬ p.isName = true := by rw [hp]; decide
  have F := int_any h.frm hn p.tag (by omega) (by omega) (h.small p.tag) p.low p.high
  have c0 := h.ptr
  have HH : Hid (RdSt n0 w fb bm b cb n tv tags x t) := h
  have hw : p.want = (p.tag, .int p.low p.high) := by unfold Pl.want; rw [if_neg hp']
  have hg : p.got x t = (t.1, upd t.2 p.off (askV x.1 x.2.2 p.tag (fun s => (intVE s p.low p.high).2) (fun s => ((intVE s p.low p.high).1 : Int)) 0)) := by unfold Pl.got; rw [if_neg hp']
  rw [hw, hg]
  clear h hn t1 t2 hw hg
  go_enter Tryd.func53, Tryd.ntmps53
  go_wp2_with fail
  refine F.mono ?_
  rintro e w1 ⟨v, rfl, hv, hF, hB⟩
  have S1 : RdSt n0 w1 fb bm b cb (n + 1) tv tags (stepW x (p.tag, .int p.low p.high)) t := HH.out.asked hF (small_step HH.out.small _) hB
  have c1 := S1.tell.num h10 hi hp
  have f1 := S1.tell.fz p.off
  have S2 := S1.put (S1.tell.setNum h10 hi hp v)
  have hB2 : But (ThreeB fb bm b) w (w1.setCell ⟨b, p.off, none⟩ (.int .i64 v)) := (hB.mono (fun k _ e => by rcases e with e | e; exact .inl e; exact .inr (.inl e))).setCell b p.off _ (fun _ => .inr (.inr rfl))
  rw [hv] at S2 hB2
  have HS : Hid (RdSt n0 (w1.setCell ⟨b, p.off, none⟩ (.int .i64 v)) fb bm b cb (n + 1) tv tags (stepW x (p.tag, .int p.low p.high)) (t.1, upd t.2 p.off (askV x.1 x.2.2 p.tag (fun s => (intVE s p.low p.high).2) (fun s => ((intVE s p.low p.high).1 : Int)) 0)) ∧ But (ThreeB fb bm b) w (w1.setCell ⟨b, p.off, none⟩ (.int .i64 v))) := by rw [hv]; exact ⟨S2, hB2⟩
  clear F hv hF hB S1 S2 hB2 HH c0
  go_wp2_with fail
  go_end0
  exact ⟨rfl, HS.out⟩
/-- Where read stands behind some fields. -/
def DJ (W : World) (n0 fb bm b cb N : Nat) (tv : Value) (tags : List Int) (L : List Pl) (x0 : StP) (t0 : TellP) (i : Nat) (w : World) : Prop := ∃ n x t, RdSt n0 w fb bm b cb n tv tags x t ∧ n ≤ N + i ∧ fil (L.drop i) x t = fil L x0 t0 ∧ But (ThreeB fb bm b) W w
theorem drop_pl' {L : List Pl} {k : Nat} (h : k < L.length) : L.drop k = L[k] :: L.drop (k + 1) := List.drop_eq_getElem_cons h
set_option maxHeartbeats 4000000 in
theorem read_each {n0 : Nat} {w : World} {fb bm b cb N : Nat} {tv : Value} {tags : List Int} {x : StP} {t : TellP} (h : RdSt n0 w fb bm b cb N tv tags x t) (hN : N ≤ 900) (h1 : 1 ≤ t.2 0) (h4 : t.2 0 ≤ 4) :
    Calls Tryd.prog 15 #[.pointer (some ⟨b, 0, none⟩), .func (.func 51) #[] #[.pointer (some ⟨cb, 0, none⟩)], .func (.func 53) #[] #[.pointer (some ⟨cb, 0, none⟩)]] w fun e w' => e = .returned (.tuple #[]) ∧ ∃ n, RdSt n0 w' fb bm b cb n tv tags (fil (listK (t.2 0)) x t).1 (fil (listK (t.2 0)) x t).2 ∧ But (ThreeB fb bm b) w w' := by
  have nS : ¬ ThreeB fb bm b w.heap.size := fun e => by
    have := h.frm.lt
    have := h.frm.map.lt
    have := h.tell.lt
    rcases e with e | e | e <;> omega
  have l8 := list_len (t.2 0)
  refine (eachRead h1 h4 h.tell.kind (DJ w n0 fb bm b cb N tv tags (listK (t.2 0)) x t) (fun w' k => ⟨N, x, t, h.still k, by omega, by rw [List.drop_zero], But.of_below k⟩) ?_ ?_ ?_).mono ?_
  · rintro i wa wb ⟨n, y, u, S, hn, hg, B⟩ k
    exact ⟨n, y, u, S.still k, hn, hg, B.trans (But.of_below (S := fun _ => False) k) (fun _ _ e => e.elim)⟩
  · rintro i hi hn wa ⟨n, y, u, S, hm, hg, B⟩ lw
    obtain ⟨e1, e2, _, _, e5, e6, e7⟩ := list_ends _ _ (List.getElem_mem hi)
    refine (read1_any S (by omega) e5 e7 hn e1 e2).mono ?_
    rintro e wb ⟨rfl, S2, B2⟩
    rw [drop_pl' hi, fil] at hg
    exact ⟨rfl, ⟨_, _, _, S2, by omega, hg, B.trans B2 (fun _ _ e => e)⟩, fun o => B2.cell lw nS⟩
  · rintro i hi hn wa ⟨n, y, u, S, hm, hg, B⟩ lw
    obtain ⟨e1, e2, _, _, e5, e6, e7⟩ := list_ends _ _ (List.getElem_mem hi)
    refine (read2_any S (by omega) e5 e7 hn e1 e2).mono ?_
    rintro e wb ⟨rfl, S2, B2⟩
    rw [drop_pl' hi, fil] at hg
    exact ⟨rfl, ⟨_, _, _, S2, by omega, hg, B.trans B2 (fun _ _ e => e)⟩, fun o => B2.cell lw nS⟩
  · rintro e w' ⟨rfl, n, y, u, S, hm, hg, B⟩
    rw [List.drop_length, fil] at hg
    rw [← hg]
    exact ⟨rfl, n, S, B⟩
theorem fil_kind : ∀ (L : List Pl) (x : StP) (t : TellP), (∀ p ∈ L, 1 ≤ p.off) → (fil L x t).2.2 0 = t.2 0
  | [], _, _, _ => rfl
  | p :: q, x, t, h => by
    rw [fil, fil_kind q _ _ (fun r hr => h r (by simp [hr]))]
    unfold Pl.got
    split
    · rfl
    · exact upd_other _ _ (by have := h p (by simp); omega)
/-- A form behind the asks for a tell. -/
structure Red (w0 : World) (n0 : Nat) (w : World) (fb bm n : Nat) (tv : Value) (tags : List Int) (x : StP) : Prop where
  frm : Frm n0 w fb bm n tv tags x.1 x.2.1 x.2.2
  but : But (Two fb bm) w0 w
set_option maxRecDepth 100000 in
set_option maxHeartbeats 8000000 in
theorem readTell_any {n0 : Nat} {w : World} {fb bm n : Nat} {tv : Value} {l : List Fd} (h : Frm n0 w fb bm n tv (l.map Prod.fst) (lookF l) 0 0) (hs : SmallL (lookF l)) (hn : n ≤ 900) (k : Int) (h1 : 1 ≤ k) (h4 : k ≤ 4) :
    Calls Tryd.prog 32 #[.pointer (some ⟨fb, 0, none⟩), .int .i64 k] w fun e w' => ∃ n' u, e = .returned (tellV u) ∧ u = (fil (listK k) (x0F l) (zeroT k)).2 ∧ Red w n0 w' fb bm n' tv (l.map Prod.fst) (decS k l) := by
  have lf : fb < w.heap.size := h.lt
  have lm : bm < w.heap.size := h.map.lt
  have lt : ∀ j, w.heap.size ≤ j → tv.ownBlock ≠ some j := fun j hj e => by have := (h.own.lt _ e).2; omega
  obtain ⟨W3, hW3⟩ : ∃ W3, W3 = ((w.alloc (.cells #[.pointer (some ⟨fb, 0, none⟩)] 59)).alloc (.cells #[.int .i64 0, .string ⟨#[]⟩, .string ⟨#[]⟩, .int .i64 0, .int .i64 0, .int .i64 0, .int .i64 0, .int .i64 0, .int .i64 0, .int .i64 0] 23)).alloc (.cells #[.int .i64 k, .string ⟨#[]⟩, .string ⟨#[]⟩, .int .i64 0, .int .i64 0, .int .i64 0, .int .i64 0, .int .i64 0, .int .i64 0, .int .i64 0] 23) := ⟨_, rfl⟩
  have b1 : Below w.heap.size w (w.alloc (.cells #[.pointer (some ⟨fb, 0, none⟩)] 59)) := (Below.refl _ w).alloc (Nat.le_refl _) _
  have b2 : Below w.heap.size w ((w.alloc (.cells #[.pointer (some ⟨fb, 0, none⟩)] 59)).alloc (.cells #[.int .i64 0, .string ⟨#[]⟩, .string ⟨#[]⟩, .int .i64 0, .int .i64 0, .int .i64 0, .int .i64 0, .int .i64 0, .int .i64 0, .int .i64 0] 23)) := b1.alloc b1.size _
  have b3 : Below w.heap.size w W3 := by rw [hW3]; exact b2.alloc b2.size _
  have T3 : TellAt W3 (w.heap.size + 1 + 1) (zeroT k) := by
    have := TellAt.box ((w.alloc (.cells #[.pointer (some ⟨fb, 0, none⟩)] 59)).alloc (.cells #[.int .i64 0, .string ⟨#[]⟩, .string ⟨#[]⟩, .int .i64 0, .int .i64 0, .int .i64 0, .int .i64 0, .int .i64 0, .int .i64 0, .int .i64 0] 23)) (zeroT k)
    rw [zero_cells] at this
    rw [hW3]
    simpa using this
  have R3 : TellAt W3 (w.heap.size + 1) (zeroT 0) := by
    have := (TellAt.box (w.alloc (.cells #[.pointer (some ⟨fb, 0, none⟩)] 59)) (zeroT 0)).still ((Below.refl _ _).alloc (Nat.le_refl _) (.cells #[.int .i64 k, .string ⟨#[]⟩, .string ⟨#[]⟩, .int .i64 0, .int .i64 0, .int .i64 0, .int .i64 0, .int .i64 0, .int .i64 0, .int .i64 0] 23))
    rw [zero_cells] at this
    rw [hW3]
    simpa using this
  have P3 : W3.cell? ⟨w.heap.size, 0, none⟩ = some (.pointer (some ⟨fb, 0, none⟩)) := by
    have b12 : Below (w.alloc (.cells #[.pointer (some ⟨fb, 0, none⟩)] 59)).heap.size (w.alloc (.cells #[.pointer (some ⟨fb, 0, none⟩)] 59)) W3 := by rw [hW3]; exact ((Below.refl _ _).alloc (Nat.le_refl _) _).alloc (by simp) _
    exact (b12.cell (p := ⟨w.heap.size, 0, none⟩) (by simp)).trans (by simp)
  have S3 : RdSt n0 W3 fb bm (w.heap.size + 1 + 1) w.heap.size n tv (l.map Prod.fst) (x0F l) (zeroT k) := ⟨h.still b3, hs, T3, P3, by omega, by omega, lt _ (by omega), by omega, by omega, by omega⟩
  have E := read_each S3 hn h1 h4
  have k0 : (zeroT k).2 0 = k := rfl
  rw [k0, fil_st] at E
  have HD : Hid (decS k l = runS (x0F l) ((listK k).map Pl.want)) := rfl
  obtain ⟨u, hu⟩ : ∃ u, u = (fil (listK k) (x0F l) (zeroT k)).2 := ⟨_, rfl⟩
  rw [← hu] at E ⊢
  have HU : Hid (u.2 0 = k) := by
    show u.2 0 = k
    rw [hu, fil_kind _ _ _ (fun p hp => (list_ends _ p hp).2.2.2.2.2.1)]
    rfl
  have HB3 : Hid (Below w.heap.size w W3) := b3
  have HR3 : Hid (TellAt W3 (w.heap.size + 1) (zeroT 0)) := R3
  have HLT : Hid (∀ j, w.heap.size ≤ j → tv.ownBlock ≠ some j) := lt
  rw [hW3] at E
  have HW3 : Hid (W3 = ((w.alloc (.cells #[.pointer (some ⟨fb, 0, none⟩)] 59)).alloc (.cells #[.int .i64 0, .string ⟨#[]⟩, .string ⟨#[]⟩, .int .i64 0, .int .i64 0, .int .i64 0, .int .i64 0, .int .i64 0, .int .i64 0, .int .i64 0] 23)).alloc (.cells #[.int .i64 k, .string ⟨#[]⟩, .string ⟨#[]⟩, .int .i64 0, .int .i64 0, .int .i64 0, .int .i64 0, .int .i64 0, .int .i64 0, .int .i64 0] 23)) := hW3
  have HLF : Hid (fb < w.heap.size ∧ bm < w.heap.size) := ⟨lf, lm⟩
  clear h hs hn b1 b2 b3 T3 R3 P3 S3 hu hW3 lt lf lm k0
  unfold tellV
  go_enter Tryd.func32, Tryd.ntmps32
  go_wp2_with fail
  refine E.mono ?_
  rintro e w4 ⟨rfl, n4, S4, B4⟩
  rw [← HW3.out] at B4
  have nR : ¬ ThreeB fb bm (w.heap.size + 1 + 1) (w.heap.size + 1) := fun e => by
    have := HLF.out
    rcases e with e | e | e <;> omega
  have R4 := HR3.out.but B4 nR
  have HB4 : Hid (But (Two fb bm) w w4) := (But.of_below HB3.out).trans B4 (fun i hi e => by rcases e with e | e | e; exact .inl e; exact .inr e; omega)
  obtain ⟨d0, d1, d2, d3, d4, d5, d6, d7, d8, d9⟩ := S4.tell.all
  obtain ⟨r0, r1, r2, r3, r4, r5, r6, r7, r8, r9⟩ := R4.all
  have z := R4.fz
  have P : Hid (TellAt (put10 w4 (w.heap.size + 1) u) (w.heap.size + 1) u) := put_at R4 u
  have PB : Hid (But (fun j => j = w.heap.size + 1) w4 (put10 w4 (w.heap.size + 1) u)) := put_but _ _ _
  have HF4 : Hid (Frm n0 w4 fb bm n4 tv (l.map Prod.fst) (decS k l).1 (decS k l).2.1 (decS k l).2.2) := by rw [HD.out]; exact S4.frm
  clear E S4 B4 R4
  go_wp2_with fail
  have P' := P.out
  have PB' := PB.out
  unfold put10 at P' PB'
  clear P PB
  generalize hW9 : World.setCell _ ⟨w.heap.size + 1, 9, none⟩ _ = W9 at *
  obtain ⟨p0, p1, p2, p3, p4, p5, p6, p7, p8, p9⟩ := P'.all
  refine bodyPost_ret (v := .agg #[.int .i64 (u.2 0), .string (u.1 1), .string (u.1 2), .int .i64 (u.2 3), .int .i64 (u.2 4), .int .i64 (u.2 5), .int .i64 (u.2 6), .int .i64 (u.2 7), .int .i64 (u.2 8), .int .i64 (u.2 9)]) (by simp [results, Tryd.results32, go_sem, p0, p1, p2, p3, p4, p5, p6, p7, p8, p9]) rfl ?_
  refine ⟨n4, u, rfl, rfl, ⟨HF4.out.keepS PB' (fun e => by have := HLF.out; have e' : fb = w.heap.size + 1 := e; omega) (fun e => by have := HLF.out; have e' : bm = w.heap.size + 1 := e; omega) (fun g hg e => HLT.out (w.heap.size + 1) (by omega) (by have e' : g = w.heap.size + 1 := e; rw [hg, e'])), ?_⟩⟩
  exact HB4.out.trans PB' (fun i hi e => by have e' : i = w.heap.size + 1 := e; omega)
end Go.Proofs.YtdacmhnniecmhaaDoor
/-
  The contract of tell's Decode, for every text.
-/
namespace Go.Proofs.YtdacmhnniecmhaaDoor
open Go.ChangeShapes Go.WideShapes Go.ChangeAt Go.RowKit Go.Lib

/-- What Decode answers of a text. -/
def DecOk (l : List UInt8) (w : World) (e : Ending) (w' : World) : Prop := ∃ u, e = .returned (.tuple #[tellV u, .int .i64 (decT l).1, .int .i64 (decT l).2]) ∧ Same u (decA l) ∧ Below w.heap.size w w'
/-- No tell, put into a block. -/
def put0 (w : World) (r : Nat) : World := ((((((((((w.setCell ⟨r, 0, none⟩ (.int .i64 0)).setCell ⟨r, 1, none⟩ (.string ⟨#[]⟩)).setCell ⟨r, 2, none⟩ (.string ⟨#[]⟩)).setCell ⟨r, 3, none⟩ (.int .i64 0)).setCell ⟨r, 4, none⟩ (.int .i64 0)).setCell ⟨r, 5, none⟩ (.int .i64 0)).setCell ⟨r, 6, none⟩ (.int .i64 0)).setCell ⟨r, 7, none⟩ (.int .i64 0)).setCell ⟨r, 8, none⟩ (.int .i64 0)).setCell ⟨r, 9, none⟩ (.int .i64 0))
theorem put0_eq (w : World) (r : Nat) : put10 w r (zeroT 0) = put0 w r := rfl
theorem TellAt.zero {w : World} {b : Nat} (h : TellAt w b (zeroT 0)) : w.cell? ⟨b, 0, none⟩ = some (.int .i64 0) ∧ w.cell? ⟨b, 1, none⟩ = some (.string ⟨#[]⟩) ∧ w.cell? ⟨b, 2, none⟩ = some (.string ⟨#[]⟩) ∧ w.cell? ⟨b, 3, none⟩ = some (.int .i64 0) ∧ w.cell? ⟨b, 4, none⟩ = some (.int .i64 0) ∧ w.cell? ⟨b, 5, none⟩ = some (.int .i64 0) ∧ w.cell? ⟨b, 6, none⟩ = some (.int .i64 0) ∧ w.cell? ⟨b, 7, none⟩ = some (.int .i64 0) ∧ w.cell? ⟨b, 8, none⟩ = some (.int .i64 0) ∧ w.cell? ⟨b, 9, none⟩ = some (.int .i64 0) := h.all
theorem zero_same13 {l : List UInt8} (h : (decT l).2 ≠ 0) : Same (zeroT 0) (decA l) := by
  have e : decA l = zeroT 0 := if_neg h
  rw [e]
  exact Same.refl _
/-- The block of the result. -/
abbrev outW (w : World) : World := w.alloc (.cells #[.int .i64 0, .string ⟨#[]⟩, .string ⟨#[]⟩, .int .i64 0, .int .i64 0, .int .i64 0, .int .i64 0, .int .i64 0, .int .i64 0, .int .i64 0] 23)
theorem out_below (w : World) : Below w.heap.size w (outW w) := (Below.refl _ w).alloc (Nat.le_refl _) _
theorem out_at (w : World) : TellAt (outW w) w.heap.size (zeroT 0) := TellAt.box w (zeroT 0)
set_option maxRecDepth 100000 in
set_option maxHeartbeats 8000000 in
theorem decode_read (s : ByteArray) (w : World) (hs : s.size ≤ 1000000) (hE : readE s.data.toList ≠ 0) :
    Calls Tryd.prog 13 #[.string s] w (DecOk s.data.toList w) := by
  have RD := fun w => read_any s w hs
  obtain ⟨E, hEE⟩ : ∃ E, readE s.data.toList = E := ⟨_, rfl⟩
  have HD : Hid (decT s.data.toList = (0, (E : Int))) := by show decT s.data.toList = _; unfold decT; rw [if_pos hE, hEE]
  rw [hEE] at RD hE
  have te : ((E : Int) == 0) = false := beq_false_of_ne (by omega)
  have HE : Hid (E ≠ 0) := hE
  clear hE hEE
  have B0 : Hid (Below w.heap.size w (outW w)) := out_below w
  have C0 : Hid (TellAt (outW w) w.heap.size (zeroT 0)) := out_at w
  go_enter Tryd.func13, Tryd.ntmps13
  go_wp2_with fail
  refine (RD _).mono ?_
  rintro e w1 (⟨_, rfl, b1⟩ | ⟨e0, _⟩)
  · have C1 : Hid (TellAt w1 w.heap.size (zeroT 0)) := C0.out.still b1
    have HB1 : Hid (Below w.heap.size w w1) := B0.out.trans (b1.mono B0.out.size)
    clear b1 RD
    obtain ⟨r0, r1, r2, r3, r4, r5, r6, r7, r8, r9⟩ := C1.out.zero
    have z := C1.out.fz
    have P : Hid (TellAt (put0 w1 w.heap.size) w.heap.size (zeroT 0)) := put_at C1.out (zeroT 0)
    have PB : Hid (But (fun j => j = w.heap.size) w1 (put0 w1 w.heap.size)) := put_but w1 w.heap.size (zeroT 0)
    go_wp2_with fail
    have P' := P.out
    have PB' := PB.out
    unfold put0 at P' PB'
    clear P PB
    generalize hW9 : World.setCell _ ⟨w.heap.size, 9, none⟩ _ = W9 at *
    obtain ⟨p0, p1, p2, p3, p4, p5, p6, p7, p8, p9⟩ := P'.zero
    refine bodyPost_ret (v := .tuple #[.agg #[.int .i64 0, .string ⟨#[]⟩, .string ⟨#[]⟩, .int .i64 0, .int .i64 0, .int .i64 0, .int .i64 0, .int .i64 0, .int .i64 0, .int .i64 0], .int .i64 0, .int .i64 (E : Int)]) (by simp [results, Tryd.results13, go_sem, p0, p1, p2, p3, p4, p5, p6, p7, p8, p9]) rfl ?_
    exact ⟨zeroT 0, by rw [HD.out]; rfl, zero_same13 (by rw [HD.out]; have := HE.out; show (E : Int) ≠ 0; omega), HB1.out.trans (PB'.below HB1.out.size (fun i e => by have e' : i = w.heap.size := e; omega))⟩
  · exact absurd e0 HE.out
set_option maxRecDepth 100000 in
set_option maxHeartbeats 8000000 in
theorem decode_kind (s : ByteArray) (w : World) (hs : s.size ≤ 1000000) (hl : Let w) (hE : readE s.data.toList = 0) (hk : kindOf (textOf (fieldsL s.data.toList).1 35) = 0) :
    Calls Tryd.prog 13 #[.string s] w (DecOk s.data.toList w) := by
  have RD := fun w => read_any s w hs
  have HD : Hid (decT s.data.toList = (35, 120)) := by show decT s.data.toList = _; unfold decT decE; rw [if_neg (by omega), if_pos hk]
  have LK := kind_text hE
  have KO := fun w h => kindOf_any (textOf (fieldsL s.data.toList).1 35) w h
  rw [hk] at KO
  generalize (fieldsL s.data.toList).1 = F at *
  have HE : Hid (readE s.data.toList = 0) := hE
  have IK := fun w => isKind_any 0 w
  rw [show decide ((1 : Int) ≤ 0 ∧ (0 : Int) ≤ 4) = false by decide] at IK
  clear hE hk
  have B0 : Hid (Below w.heap.size w (outW w)) := out_below w
  have C0 : Hid (TellAt (outW w) w.heap.size (zeroT 0)) := out_at w
  go_enter Tryd.func13, Tryd.ntmps13
  go_wp2_with fail
  refine (RD _).mono ?_
  rintro e w1 (⟨e0, _, _⟩ | ⟨_, n0, fb, bm, tv, rfl, hn0, b1, F1⟩)
  · exact absurd HE.out e0
  · have C1 : Hid (TellAt w1 w.heap.size (zeroT 0)) := C0.out.still b1
    have HB1 : Hid (Below w.heap.size w w1) := B0.out.trans (b1.mono B0.out.size)
    have K1 := kind_yes F1 _ true LK
    have K2 := KO w1 (hl.still HB1.out)
    generalize textOf F 35 = tk at *
    clear b1 RD F1 KO
    go_wp2_with fail
    refine K1.mono ?_
    rintro e w2 ⟨rfl, rfl⟩
    go_wp2_with fail
    refine K2.mono ?_
    rintro e w2 ⟨rfl, rfl⟩
    go_wp2_with fail
    refine (IK _).mono ?_
    rintro e w2 ⟨rfl, rfl⟩
    obtain ⟨r0, r1, r2, r3, r4, r5, r6, r7, r8, r9⟩ := C1.out.zero
    have z := C1.out.fz
    clear IK
    have P : Hid (TellAt (put0 w2 w.heap.size) w.heap.size (zeroT 0)) := put_at C1.out (zeroT 0)
    have PB : Hid (But (fun j => j = w.heap.size) w2 (put0 w2 w.heap.size)) := put_but w2 w.heap.size (zeroT 0)
    go_wp2_with fail
    have P' := P.out
    have PB' := PB.out
    unfold put0 at P' PB'
    clear P PB
    generalize hW9 : World.setCell _ ⟨w.heap.size, 9, none⟩ _ = W9 at *
    obtain ⟨p0, p1, p2, p3, p4, p5, p6, p7, p8, p9⟩ := P'.zero
    refine bodyPost_ret (v := .tuple #[.agg #[.int .i64 0, .string ⟨#[]⟩, .string ⟨#[]⟩, .int .i64 0, .int .i64 0, .int .i64 0, .int .i64 0, .int .i64 0, .int .i64 0, .int .i64 0], .int .i64 35, .int .i64 120]) (by simp [results, Tryd.results13, go_sem, p0, p1, p2, p3, p4, p5, p6, p7, p8, p9]) rfl ?_
    exact ⟨zeroT 0, by rw [HD.out]; rfl, zero_same13 (by rw [HD.out]; simp), HB1.out.trans (PB'.below HB1.out.size (fun i e => by have e' : i = w.heap.size := e; omega))⟩
set_option maxRecDepth 100000 in
set_option maxHeartbeats 8000000 in
theorem decode_main (s : ByteArray) (w : World) (hs : s.size ≤ 1000000) (hl : Let w) (hE : readE s.data.toList = 0) (K : Int) (hk : kindOf (textOf (fieldsL s.data.toList).1 35) = K) (hk0 : K ≠ 0) :
    Calls Tryd.prog 13 #[.string s] w (DecOk s.data.toList w) := by
  have RD := fun w => read_any s w hs
  have LK := kind_text hE
  have SM := small_fields s.data.toList
  obtain ⟨RG, h64⟩ := fields_range s.data.toList
  have KO := fun w h => kindOf_any (textOf (fieldsL s.data.toList).1 35) w h
  rw [hk] at KO
  have k15 := kind_range (textOf (fieldsL s.data.toList).1 35)
  rw [hk] at k15
  obtain ⟨F, hF⟩ : ∃ F, (fieldsL s.data.toList).1 = F := ⟨_, rfl⟩
  rw [hF] at RD LK SM RG h64 KO hk
  have HDT : Hid (decT s.data.toList = doneE (decS K F) (F.map Prod.fst)) := by
    show decT s.data.toList = _
    unfold decT decE
    rw [if_neg (by omega), hF, hk, if_neg hk0]
  have HAK : Hid ((decT s.data.toList).2 = 0 → decA s.data.toList = tolds (listK K) F (zeroT K)) := fun h => by
    unfold decA
    rw [if_pos h, hF, hk]
  have RT : ∀ t ∈ F.map Prod.fst, -9223372036854775808 ≤ t ∧ t ≤ 9223372036854775807 := fun t ht => by
    obtain ⟨f, hf, rfl⟩ := List.mem_map.1 ht
    have := RG f hf
    omega
  have HE : Hid (readE s.data.toList = 0) := hE
  have IK := fun w => isKind_any K w
  rw [decide_eq_true (show 1 ≤ K ∧ K ≤ 4 by omega)] at IK
  have HR : Hid (1 ≤ K ∧ K ≤ 4) := by show 1 ≤ K ∧ K ≤ 4; omega
  have HT : Hid (∀ t ∈ F.map Prod.fst, -9223372036854775808 ≤ t ∧ t ≤ 9223372036854775807) := RT
  have HS : Hid (SmallL (lookF F)) := SM
  have H64 : Hid (F.length ≤ 64) := h64
  clear hE hk hF RG hk0 k15 RT SM h64
  have B0 : Hid (Below w.heap.size w (outW w)) := out_below w
  have C0 : Hid (TellAt (outW w) w.heap.size (zeroT 0)) := out_at w
  go_enter Tryd.func13, Tryd.ntmps13
  go_wp2_with fail
  refine (RD _).mono ?_
  rintro e w1 (⟨e0, _, _⟩ | ⟨_, n0, fb, bm, tv, rfl, hn0, b1, F1⟩)
  · exact absurd HE.out e0
  · have C1 : Hid (TellAt w1 w.heap.size (zeroT 0)) := C0.out.still b1
    have HB1 : Hid (Below w.heap.size w w1) := B0.out.trans (b1.mono B0.out.size)
    have K1 := kind_yes F1 _ true LK
    have K2 := KO w1 (hl.still HB1.out)
    have RE := readTell_any F1 HS.out (by have := H64.out; omega) K HR.out.1 HR.out.2
    have LF : Hid (w.heap.size < n0) := by
      show w.heap.size < n0
      have := hn0
      have := B0.out.size
      first | omega | (simp at *; omega)
    have lof := F1.lof
    have lom := F1.lom
    have NF : Hid (¬ (fun j => j = w.heap.size) fb ∧ ¬ (fun j => j = w.heap.size) bm) := ⟨fun e => by have e' : fb = w.heap.size := e; have := LF.out; omega, fun e => by have e' : bm = w.heap.size := e; have := LF.out; omega⟩
    have NT : Hid (¬ Two fb bm w.heap.size) := fun e => by have := LF.out; rcases e with e | e <;> omega
    have LT : Hid (∀ i, Two fb bm i → w.heap.size ≤ i) := fun i e => by have := LF.out; rcases e with e | e <;> omega
    clear b1 RD F1 KO hn0 lof lom LK
    generalize textOf F 35 = tk at *
    go_wp2_with fail
    refine K1.mono ?_
    rintro e w2 ⟨rfl, rfl⟩
    go_wp2_with fail
    refine K2.mono ?_
    rintro e w2 ⟨rfl, rfl⟩
    go_wp2_with fail
    refine (IK _).mono ?_
    rintro e w2 ⟨rfl, rfl⟩
    clear IK K1 K2
    go_wp2_with fail
    refine RE.mono ?_
    rintro e w3 ⟨n3, u, rfl, hu, R3⟩
    have HU : Hid (u = (fil (listK K) (x0F F) (zeroT K)).2) := hu
    have C3 := C1.out.but R3.but NT.out
    have HB3 : Hid (Below w.heap.size w w3) := HB1.out.trans (R3.but.below HB1.out.size LT.out)
    obtain ⟨r0, r1, r2, r3, r4, r5, r6, r7, r8, r9⟩ := C3.zero
    have z := C3.fz
    have PB := put_but w3 w.heap.size u
    have D1 := done_any (R3.frm.keepS PB NF.out.1 NF.out.2 (fun g hg e => by have e' : g = w.heap.size := e; have := (R3.frm.own.lt g hg).1; have := LF.out; omega)) HT.out
    have HC4 : Hid (TellAt (put10 w3 w.heap.size u) w.heap.size u) := put_at C3 u
    have HB4 : Hid (Below w.heap.size w (put10 w3 w.heap.size u)) := HB3.out.trans (PB.below HB3.out.size (fun i e => by have e' : i = w.heap.size := e; omega))
    have HY : Hid ((doneE (decS K F) (F.map Prod.fst)).2 = 0 → (decS K F).2.2 = 0) := fun h => (done_run h).1
    obtain ⟨DT, DE, hDD⟩ : ∃ DT DE, doneE (decS K F) (F.map Prod.fst) = (DT, DE) := ⟨_, _, rfl⟩
    rw [hDD] at D1 HDT HY
    dsimp only at D1 HDT HY
    unfold put10 at D1
    clear RE C1 R3 hu hDD C3 PB
    unfold tellV
    go_wp2_with fail
    refine D1.mono ?_
    rintro e w6 ⟨rfl, b6⟩
    have HC6 : Hid (TellAt w6 w.heap.size u) := HC4.out.still b6
    have HB6 : Hid (Below w.heap.size w w6) := HB4.out.trans (b6.mono HB4.out.size)
    clear D1 b6 r0 r1 r2 r3 r4 r5 r6 r7 r8 r9 z
    obtain ⟨r0, r1, r2, r3, r4, r5, r6, r7, r8, r9⟩ := HC6.out.all
    have z := HC6.out.fz
    by_cases hDE : DE = 0
    case neg =>
      have te : (DE == 0) = false := beq_false_of_ne hDE
      have HN : Hid (DE ≠ 0) := hDE
      clear hDE
      have P : Hid (TellAt (put0 w6 w.heap.size) w.heap.size (zeroT 0)) := put_at HC6.out (zeroT 0)
      have PB : Hid (But (fun j => j = w.heap.size) w6 (put0 w6 w.heap.size)) := put_but w6 w.heap.size (zeroT 0)
      go_wp2_with fail
      have P' := P.out
      have PB' := PB.out
      unfold put0 at P' PB'
      clear P PB
      generalize hW9 : World.setCell _ ⟨w.heap.size, 9, none⟩ _ = W9 at *
      obtain ⟨p0, p1, p2, p3, p4, p5, p6, p7, p8, p9⟩ := P'.zero
      refine bodyPost_ret (v := .tuple #[.agg #[.int .i64 0, .string ⟨#[]⟩, .string ⟨#[]⟩, .int .i64 0, .int .i64 0, .int .i64 0, .int .i64 0, .int .i64 0, .int .i64 0, .int .i64 0], .int .i64 DT, .int .i64 DE]) (by simp [results, Tryd.results13, go_sem, p0, p1, p2, p3, p4, p5, p6, p7, p8, p9]) rfl ?_
      exact ⟨zeroT 0, by rw [HDT.out]; rfl, zero_same13 (by rw [HDT.out]; exact HN.out), HB6.out.trans (PB'.below HB6.out.size (fun i e => by have e' : i = w.heap.size := e; omega))⟩
    case pos =>
      have HSM : Hid (Same u (decA s.data.toList)) := by
        show Same u _
        have h0 : (decT s.data.toList).2 = 0 := by rw [HDT.out]; exact hDE
        rw [HAK.out h0, HU.out]
        have := fil_told (l := F) (listK K) [] (zeroT K) (HY.out hDE)
        rw [show runS (x0F F) (([] : List Pl).map Pl.want) = x0F F from rfl] at this
        rw [this]
        exact Same.refl _
      have HZ : Hid (decT s.data.toList = (0, 0)) := decT_zero (by rw [HDT.out]; exact hDE)
      subst hDE
      have P : Hid (TellAt (put10 w6 w.heap.size u) w.heap.size u) := put_at HC6.out u
      have PB : Hid (But (fun j => j = w.heap.size) w6 (put10 w6 w.heap.size u)) := put_but w6 w.heap.size u
      go_wp2_with fail
      have P' := P.out
      have PB' := PB.out
      unfold put10 at P' PB'
      clear P PB
      generalize hW9 : World.setCell _ ⟨w.heap.size, 9, none⟩ _ = W9 at *
      obtain ⟨p0, p1, p2, p3, p4, p5, p6, p7, p8, p9⟩ := P'.all
      refine bodyPost_ret (v := .tuple #[.agg #[.int .i64 (u.2 0), .string (u.1 1), .string (u.1 2), .int .i64 (u.2 3), .int .i64 (u.2 4), .int .i64 (u.2 5), .int .i64 (u.2 6), .int .i64 (u.2 7), .int .i64 (u.2 8), .int .i64 (u.2 9)], .int .i64 0, .int .i64 0]) (by simp [results, Tryd.results13, go_sem, p0, p1, p2, p3, p4, p5, p6, p7, p8, p9]) rfl ?_
      exact ⟨u, by rw [HZ.out]; rfl, HSM.out, HB6.out.trans (PB'.below HB6.out.size (fun i e => by have e' : i = w.heap.size := e; omega))⟩
theorem decode_any (s : ByteArray) (w : World) (hs : s.size ≤ 1000000) (hl : Let w) : Calls Tryd.prog 13 #[.string s] w (DecOk s.data.toList w) := by
  by_cases hE : readE s.data.toList = 0
  · by_cases hk : kindOf (textOf (fieldsL s.data.toList).1 35) = 0
    · exact decode_kind s w hs hl hE hk
    · exact decode_main s w hs hl hE _ rfl hk
  · exact decode_read s w hs hE
end Go.Proofs.YtdacmhnniecmhaaDoor
