/-
  Contracts of the functions that read hands on (Reply): a form is asked for one field after another, each is put into the thing.
-/
import Derived.Deep.RegionHeld3
import Derived.Test.YtdbkoflejimibaaGreatDoorJC
namespace Go.Proofs.YtdbkoflejimibaaGreatDoor.PP.R
open Go.ChangeShapes Go.WideShapes Go.ChangeAt Go.RowKit Go.Lib

/-- The blocks that reading writes: the form, its map, the thing, a tag, an error's number. -/
def Five (fb bm b m k : Nat) : Prop := k = fb ∨ k = bm ∨ k = b ∨ k = m + 1 ∨ k = m + 2
def ThreeB (fb bm b k : Nat) : Prop := k = fb ∨ k = bm ∨ k = b
/-- A form at fb (asked for at most N - 900 times since it was new), a thing at block b, a pointer to the form at block m, a tag and an error's number behind it, the functions that read hands on in block vb; k: the kind. -/
structure DV (n0 : Nat) (W w : World) (fb bm b m vb N : Nat) (tv : Value) (tags : List Int) (k : Int) (x : StP) (t : ThP) (A E : Int) : Prop where
  frm : ∃ n, n ≤ N ∧ Frm n0 w fb bm n tv tags x.1 x.2.1 x.2.2
  small : SmallL x.1
  th : ThAt nm w b t
  ptr : w.cell? ⟨m, 0, none⟩ = some (.pointer (some ⟨fb, 0, none⟩))
  ca : w.cell? ⟨m + 1, 0, none⟩ = some (.int .i64 A)
  fa : w.frozen? ⟨m + 1, 0, none⟩ = false
  ce : w.cell? ⟨m + 2, 0, none⟩ = some (.int .i64 E)
  fe : w.frozen? ⟨m + 2, 0, none⟩ = false
  v0 : w.cell? ⟨vb, 0, none⟩ = some (.func (.func 64) #[] #[.pointer (some ⟨m, 0, none⟩)])
  v1 : w.cell? ⟨vb, 1, none⟩ = some (.func (.func 65) #[] #[.pointer (some ⟨m, 0, none⟩)])
  v2 : w.cell? ⟨vb, 2, none⟩ = some (.func (.func 66) #[] #[.pointer (some ⟨m, 0, none⟩), .pointer (some ⟨m + 1, 0, none⟩), .pointer (some ⟨m + 2, 0, none⟩)])
  kd : t.2 0 = k
  hv : vb = m + 3
  lf : fb < m
  lm : bm < m
  lb : b < m
  lt : ∀ g, tv.ownBlock = some g → g < m
  nf : b ≠ fb
  nb : b ≠ bm
  nt : tv.ownBlock ≠ some b
  fr : But (Five fb bm b m) W w
  wd : Let W
  wl : ∀ j, Five fb bm b m j → j ≠ 1
theorem DV.kind {n0 : Nat} {W w : World} {fb bm b m vb N : Nat} {tv : Value} {tags : List Int} {k : Int} {x : StP} {t : ThP} {A E : Int} (h : DV n0 W w fb bm b m vb N tv tags k x t A E) : w.cell? ⟨b, 0, none⟩ = some (.int .i64 k) := by
  rw [← h.kd]
  exact h.th.num (j := 0) (by omega) rfl
theorem DV.lt2 {n0 : Nat} {W w : World} {fb bm b m vb N : Nat} {tv : Value} {tags : List Int} {k : Int} {x : StP} {t : ThP} {A E : Int} (h : DV n0 W w fb bm b m vb N tv tags k x t A E) : m < w.heap.size ∧ m + 1 < w.heap.size ∧ m + 2 < w.heap.size ∧ vb < w.heap.size := ⟨World.block_lt_of_cell? _ _ h.ptr, World.block_lt_of_cell? _ _ h.ca, World.block_lt_of_cell? _ _ h.ce, World.block_lt_of_cell? _ _ h.v0⟩
/-- All that a step may change. -/
theorem DV.move {n0 : Nat} {W w w' : World} {fb bm b m vb N N' : Nat} {tv : Value} {tags : List Int} {k k' : Int} {x x' : StP} {t t' : ThP} {A E A' E' : Int} (h : DV n0 W w fb bm b m vb N tv tags k x t A E) (hB : But (Five fb bm b m) w w') (frm : ∃ n, n ≤ N' ∧ Frm n0 w' fb bm n tv tags x'.1 x'.2.1 x'.2.2) (small : SmallL x'.1) (th : ThAt nm w' b t') (ca : w'.cell? ⟨m + 1, 0, none⟩ = some (.int .i64 A')) (fa : w'.frozen? ⟨m + 1, 0, none⟩ = false) (ce : w'.cell? ⟨m + 2, 0, none⟩ = some (.int .i64 E')) (fe : w'.frozen? ⟨m + 2, 0, none⟩ = false) (kd : t'.2 0 = k') : DV n0 W w' fb bm b m vb N' tv tags k' x' t' A' E' := by
  obtain ⟨l0, _, _, l3⟩ := h.lt2
  have := h.hv
  have := h.lf
  have := h.lm
  have := h.lb
  have n0 : ¬ Five fb bm b m m := fun e => by rcases e with e | e | e | e | e <;> omega
  have n3 : ¬ Five fb bm b m vb := fun e => by rcases e with e | e | e | e | e <;> omega
  exact ⟨frm, small, th, (hB.cell l0 n0).trans h.ptr, ca, fa, ce, fe, (hB.cell l3 n3).trans h.v0, (hB.cell l3 n3).trans h.v1, (hB.cell l3 n3).trans h.v2, kd, h.hv, h.lf, h.lm, h.lb, h.lt, h.nf, h.nb, h.nt, h.fr.trans hB (fun _ _ e => e), h.wd, h.wl⟩
theorem DV.still {n0 : Nat} {W w w' : World} {fb bm b m vb N : Nat} {tv : Value} {tags : List Int} {k : Int} {x : StP} {t : ThP} {A E : Int} (h : DV n0 W w fb bm b m vb N tv tags k x t A E) (B : Below w.heap.size w w') : DV n0 W w' fb bm b m vb N tv tags k x t A E := by
  obtain ⟨_, l1, l2, _⟩ := h.lt2
  obtain ⟨n, hn, F⟩ := h.frm
  exact h.move (But.of_below B) ⟨n, hn, F.still B⟩ h.small (h.th.still B) ((B.cell (p := ⟨m + 1, 0, none⟩) l1).trans h.ca) ((B.frozen (p := ⟨m + 1, 0, none⟩) l1).trans h.fa) ((B.cell (p := ⟨m + 2, 0, none⟩) l2).trans h.ce) ((B.frozen (p := ⟨m + 2, 0, none⟩) l2).trans h.fe) h.kd
theorem DV.drew {n0 : Nat} {W w : World} {fb bm b m vb N : Nat} {tv : Value} {tags : List Int} {k : Int} {x : StP} {t : ThP} {A E : Int} (h : DV n0 W w fb bm b m vb N tv tags k x t A E) : DV n0 W w.drew fb bm b m vb N tv tags k x t A E := h.still (below_drewN _ 1 _)
/-- The form is asked. -/
theorem DV.asked {n0 : Nat} {W w w' : World} {fb bm b m vb N n : Nat} {tv : Value} {tags : List Int} {k : Int} {x y : StP} {t : ThP} {A E : Int} (h : DV n0 W w fb bm b m vb N tv tags k x t A E) (hB : But (Two fb bm) w w') (hn : n ≤ N + 1) (F : Frm n0 w' fb bm n tv tags y.1 y.2.1 y.2.2) (hs : SmallL y.1) : DV n0 W w' fb bm b m vb (N + 1) tv tags k y t A E := by
  obtain ⟨_, l1, l2, _⟩ := h.lt2
  have := h.lf
  have := h.lm
  have n1 : ¬ Two fb bm (m + 1) := fun e => by rcases e with e | e <;> omega
  have n2 : ¬ Two fb bm (m + 2) := fun e => by rcases e with e | e <;> omega
  exact h.move (hB.mono fun i _ e => e.elim .inl (fun e => .inr (.inl e))) ⟨n, hn, F⟩ hs (h.th.but hB (fun e => e.elim h.nf h.nb)) ((hB.cell l1 n1).trans h.ca) ((hB.frozen l1 n1).trans h.fa) ((hB.cell l2 n2).trans h.ce) ((hB.frozen l2 n2).trans h.fe) h.kd
/-- A cell of the thing is written. -/
theorem DV.put {n0 : Nat} {W w : World} {fb bm b m vb N : Nat} {tv : Value} {tags : List Int} {k k' : Int} {x : StP} {t t' : ThP} {A E : Int} {j : Nat} {v : Value} (h : DV n0 W w fb bm b m vb N tv tags k x t A E) (hT : ThAt nm (w.setCell ⟨b, j, none⟩ v) b t') (kd : t'.2 0 = k') : DV n0 W (w.setCell ⟨b, j, none⟩ v) fb bm b m vb N tv tags k' x t' A E := by
  obtain ⟨_, l1, l2, _⟩ := h.lt2
  have := h.lb
  have hB : But (fun i => i = b) w (w.setCell ⟨b, j, none⟩ v) := (But.refl _ w).setCell b j _ (fun _ => rfl)
  obtain ⟨n, hn, F⟩ := h.frm
  exact h.move (hB.mono fun i _ e => .inr (.inr (.inl e))) ⟨n, hn, F.keepS hB (fun e => h.nf e.symm) (fun e => h.nb e.symm) (fun g hg e => h.nt (by rw [hg, e]))⟩ h.small hT ((hB.cell l1 (by omega)).trans h.ca) ((hB.frozen l1 (by omega)).trans h.fa) ((hB.cell l2 (by omega)).trans h.ce) ((hB.frozen l2 (by omega)).trans h.fe) kd
theorem DV.beyond {n0 : Nat} {W w : World} {fb bm b m vb N : Nat} {tv : Value} {tags : List Int} {k : Int} {x : StP} {t : ThP} {A E : Int} (h : DV n0 W w fb bm b m vb N tv tags k x t A E) (s : ByteArray) : DV n0 W w fb bm b m vb N tv tags k x (upd t.1 7 s, t.2) A E :=
  { h with th := h.th.beyond (Nat.le_refl _) s, kd := h.kd }
/-- A tag and an error's number are told. -/
theorem DV.told {n0 : Nat} {W w : World} {fb bm b m vb N : Nat} {tv : Value} {tags : List Int} {k : Int} {x : StP} {t : ThP} {A E : Int} (h : DV n0 W w fb bm b m vb N tv tags k x t A E) (A' E' : Int) : (w.setCell ⟨m + 1, 0, none⟩ (.int .i64 A')).cell? ⟨m + 2, 0, none⟩ = some (.int .i64 E) ∧ (w.setCell ⟨m + 1, 0, none⟩ (.int .i64 A')).frozen? ⟨m + 2, 0, none⟩ = false ∧ DV n0 W ((w.setCell ⟨m + 1, 0, none⟩ (.int .i64 A')).setCell ⟨m + 2, 0, none⟩ (.int .i64 E')) fb bm b m vb N tv tags k x t A' E' := by
  obtain ⟨_, l1, l2, _⟩ := h.lt2
  have := h.lf
  have := h.lm
  have := h.lb
  have B1 : But (fun i => i = m + 1) w (w.setCell ⟨m + 1, 0, none⟩ (.int .i64 A')) := (But.refl _ w).setCell (m + 1) 0 _ (fun _ => rfl)
  have e2 := (B1.cell (o := 0) l2 (by omega)).trans h.ce
  have f2 := (B1.frozen (o := 0) l2 (by omega)).trans h.fe
  have e1 : (w.setCell ⟨m + 1, 0, none⟩ (.int .i64 A')).cell? ⟨m + 1, 0, none⟩ = some (.int .i64 A') := World.cell?_setCell_same _ _ _ h.ca
  have g1 : (w.setCell ⟨m + 1, 0, none⟩ (.int .i64 A')).frozen? ⟨m + 1, 0, none⟩ = false := by rw [World.frozen?_setCell]; exact h.fa
  have l1' : m + 1 < (w.setCell ⟨m + 1, 0, none⟩ (.int .i64 A')).heap.size := World.block_lt_of_cell? _ _ e1
  have B2 : But (fun i => i = m + 2) (w.setCell ⟨m + 1, 0, none⟩ (.int .i64 A')) ((w.setCell ⟨m + 1, 0, none⟩ (.int .i64 A')).setCell ⟨m + 2, 0, none⟩ (.int .i64 E')) := (But.refl _ _).setCell (m + 2) 0 _ (fun _ => rfl)
  have B : But (fun i => i = m + 1 ∨ i = m + 2) w ((w.setCell ⟨m + 1, 0, none⟩ (.int .i64 A')).setCell ⟨m + 2, 0, none⟩ (.int .i64 E')) := (B1.mono (fun _ _ e => .inl e)).trans B2 (fun _ _ e => .inr e)
  obtain ⟨n, hn, F⟩ := h.frm
  refine ⟨e2, f2, h.move (B.mono fun i _ e => e.elim (fun e => .inr (.inr (.inr (.inl e)))) (fun e => .inr (.inr (.inr (.inr e))))) ⟨n, hn, F.keepS B (by omega) (by omega) (fun g hg e => by have := h.lt g hg; omega)⟩ h.small (h.th.but B (by omega)) ((B2.cell l1' (by omega)).trans e1) ((B2.frozen l1' (by omega)).trans g1) (World.cell?_setCell_same _ _ _ e2) (by rw [World.frozen?_setCell]; exact f2) h.kd⟩
theorem got_kind {p : Pl} (h : p.off ≠ 0) (x : StP) (t : ThP) : (p.got x t).2 0 = t.2 0 := by
  unfold Pl.got
  split
  · rfl
  · exact upd_other _ _ (fun e => h e.symm)
set_option maxHeartbeats 4000000 in
theorem DV.name {n0 : Nat} {W w : World} {fb bm b m vb N : Nat} {tv : Value} {tags : List Int} {k : Int} {x : StP} {t : ThP} {A E : Int} (h0 : DV n0 W w fb bm b m vb N tv tags k x t A E) (p : Pl) (h7 : p.off < 7) (hz : p.off ≠ 0) (hi : nm p.off = true) (hp : p.isName = true) (hN : N ≤ 1000000) (t1 : 1 ≤ p.tag) (t2 : p.tag ≤ 99999) :
    Calls Tryz.prog 64 #[.int .i64 p.tag, .pointer (some ⟨b, p.off, none⟩), .pointer (some ⟨m, 0, none⟩)] w.drew fun e w' => e = .returned (.tuple #[]) ∧ DV n0 W w' fb bm b m vb (N + 1) tv tags k (stepW x p.want) (p.got x t) A E := by
  have h := h0.drew
  obtain ⟨n, hn, Fr⟩ := h.frm
  have F := name_any Fr (by omega) p.tag (by omega) (by omega)
  have c0 := h.ptr
  have HH : Hid (DV n0 W w.drew fb bm b m vb N tv tags k x t A E) := h
  have HN : Hid (n ≤ N) := hn
  have HK := (got_kind hz x t).trans h0.kd
  have hw : p.want = (p.tag, .name) := by unfold Pl.want; rw [if_pos hp]
  have hg : p.got x t = (upd t.1 p.off (askV x.1 x.2.2 p.tag nameVE id ⟨#[]⟩), t.2) := by unfold Pl.got; rw [if_pos hp]
  rw [hg] at HK
  rw [hw, hg]
  have HK' : Hid (t.2 0 = k) := h0.kd
  clear h h0 hn hN t1 t2 hw hg Fr HK
  go_enter Tryz.func64, Tryz.ntmps64
  go_wp2_with fail
  refine F.mono ?_
  rintro e w1 ⟨v, rfl, hv, hF, hB⟩
  have S1 : DV n0 W w1 fb bm b m vb (N + 1) tv tags k (stepW x (p.tag, .name)) t A E := HH.out.asked hB (by have := HN.out; omega) hF (small_step HH.out.small _)
  have c1 := S1.th.text h7 hi
  have f1 := S1.th.fz p.off
  have S2 := S1.put (k' := k) (S1.th.setText h7 hi v) HK'.out
  have HS : Hid (DV n0 W (w1.setCell ⟨b, p.off, none⟩ (.string v)) fb bm b m vb (N + 1) tv tags k (stepW x (p.tag, .name)) (upd t.1 p.off (askV x.1 x.2.2 p.tag nameVE id ⟨#[]⟩), t.2) A E) := by rw [← hv]; exact S2
  clear F hv hF hB S1 S2 HH c0
  go_wp2_with fail
  go_end0
  exact ⟨rfl, HS.out⟩
set_option maxHeartbeats 4000000 in
theorem DV.num {n0 : Nat} {W w : World} {fb bm b m vb N : Nat} {tv : Value} {tags : List Int} {k : Int} {x : StP} {t : ThP} {A E : Int} (h0 : DV n0 W w fb bm b m vb N tv tags k x t A E) (p : Pl) (h7 : p.off < 7) (hz : p.off ≠ 0) (hi : nm p.off = false) (hp : p.isName = false) (hN : N ≤ 1000000) (t1 : 1 ≤ p.tag) (t2 : p.tag ≤ 99999) :
    Calls Tryz.prog 65 #[.int .i64 p.tag, .pointer (some ⟨b, p.off, none⟩), .int .i64 p.low, .int .i64 p.high, .pointer (some ⟨m, 0, none⟩)] w.drew fun e w' => e = .returned (.tuple #[]) ∧ DV n0 W w' fb bm b m vb (N + 1) tv tags k (stepW x p.want) (p.got x t) A E := by
  have hp' : ¬ p.isName = true := by rw [hp]; decide
  have h := h0.drew
  obtain ⟨n, hn, Fr⟩ := h.frm
  have F := int_any Fr (by omega) p.tag (by omega) (by omega) (h.small p.tag) p.low p.high
  have c0 := h.ptr
  have HH : Hid (DV n0 W w.drew fb bm b m vb N tv tags k x t A E) := h
  have HN : Hid (n ≤ N) := hn
  have HK : Hid ((p.got x t).2 0 = k) := (got_kind hz x t).trans h0.kd
  have hw : p.want = (p.tag, .int p.low p.high) := by unfold Pl.want; rw [if_neg hp']
  have hg : p.got x t = (t.1, upd t.2 p.off (askV x.1 x.2.2 p.tag (fun s => (intVE s p.low p.high).2) (fun s => ((intVE s p.low p.high).1 : Int)) 0)) := by unfold Pl.got; rw [if_neg hp']
  rw [hg] at HK
  rw [hw, hg]
  clear h h0 hn hN t1 t2 hw hg Fr
  go_enter Tryz.func65, Tryz.ntmps65
  go_wp2_with fail
  refine F.mono ?_
  rintro e w1 ⟨v, rfl, hv, hF, hB⟩
  have S1 : DV n0 W w1 fb bm b m vb (N + 1) tv tags k (stepW x (p.tag, .int p.low p.high)) t A E := HH.out.asked hB (by have := HN.out; omega) hF (small_step HH.out.small _)
  have c1 := S1.th.num h7 hi
  have f1 := S1.th.fz p.off
  have S2 := S1.put (k' := k) (S1.th.setNum h7 hi v) (by have := HK.out; rw [← hv] at this; exact this)
  have HS : Hid (DV n0 W (w1.setCell ⟨b, p.off, none⟩ (.int .i64 v)) fb bm b m vb (N + 1) tv tags k (stepW x (p.tag, .int p.low p.high)) (t.1, upd t.2 p.off (askV x.1 x.2.2 p.tag (fun s => (intVE s p.low p.high).2) (fun s => ((intVE s p.low p.high).1 : Int)) 0)) A E) := by rw [← hv]; exact S2
  clear F hv hF hB S1 S2 HH c0
  go_wp2_with fail
  go_end0
  exact ⟨rfl, HS.out⟩
/-- Behind the word of a report: it lies at the place 7, and the kind is told. -/
def repT (x : StP) (t : ThP) (K : Int) : ThP := (upd t.1 7 (askV x.1 x.2.2 150 nameVE id ⟨#[]⟩), upd t.2 0 K)
/-- What is told of a word of a report: c, if it is no report's, else what was told before. -/
def repE (sd : ByteArray) (K c A : Int) : Int := if sd ≠ noText ∧ K = 0 then c else A
theorem repE_no {sd : ByteArray} {K c A : Int} (h : K ≠ 0) : repE sd K c A = A := if_neg (fun e => h e.2)
theorem Let.kept {S : Nat → Prop} {w w' : World} (h : Let w) (k : But S w w') (hS : ¬ S 1) : Let w' := by
  have lt := World.block_lt_of_cell? _ _ (h.at (K := 0) (by omega))
  exact Let7.of (fun j => k.cell (o := j) lt hS) h
set_option maxHeartbeats 8000000 in
theorem DV.rep {n0 : Nat} {W w : World} {fb bm b m vb N : Nat} {tv : Value} {tags : List Int} {k : Int} {x : StP} {t : ThP} {A E : Int} (h0 : DV n0 W w fb bm b m vb N tv tags k x t A E) (hN : N ≤ 1000000) {K : Int} (hK : kindOf (askV x.1 x.2.2 150 nameVE id ⟨#[]⟩) = K) :
    Calls Tryz.prog 66 #[.int .i64 150, .pointer (some ⟨b, 0, none⟩), .pointer (some ⟨m, 0, none⟩), .pointer (some ⟨m + 1, 0, none⟩), .pointer (some ⟨m + 2, 0, none⟩)] w.drew fun e w' => e = .returned (.tuple #[]) ∧ DV n0 W w' fb bm b m vb (N + 1) tv tags K (stepW x (150, .name)) (repT x t K) (repE (askV x.1 x.2.2 150 nameVE id ⟨#[]⟩) K 150 A) (repE (askV x.1 x.2.2 150 nameVE id ⟨#[]⟩) K 120 E) := by
  unfold repE
  have h := h0.drew
  obtain ⟨n, hn, Fr⟩ := h.frm
  have F := name_any Fr (by omega) 150 (by omega) (by omega)
  have c0 := h.ptr
  have HH : Hid (DV n0 W w.drew fb bm b m vb N tv tags k x t A E) := h
  have HN : Hid (n ≤ N) := hn
  have KR := kind_range (askV x.1 x.2.2 150 nameVE id ⟨#[]⟩)
  rw [hK] at KR
  have HK0 : Hid (askV x.1 x.2.2 150 nameVE id (⟨#[]⟩ : ByteArray) = noText → K = 0) := fun e => by rw [← hK, e]; exact kind_none
  obtain ⟨sd, hsd⟩ : ∃ sd, askV x.1 x.2.2 150 nameVE id (⟨#[]⟩ : ByteArray) = sd := ⟨_, rfl⟩
  have ht : repT x t K = (upd t.1 7 sd, upd t.2 0 K) := by unfold repT; rw [hsd]
  rw [hsd] at hK HK0 F ⊢
  rw [ht]
  have KO := fun w h => kindOf_any sd w h
  rw [hK] at KO
  have IK := fun w => isKind_any K w
  have HT : Hid (Let W) := h.wd
  clear h h0 hn hN Fr hsd ht hK
  by_cases hs : sd = noText
  · have hk0 : K = 0 := HK0.out hs
    have eb : sd.toList.isEmpty = true := by rw [empty_bytes]; exact decide_eq_true hs
    rw [if_neg (fun c => c.1 hs), if_neg (fun c => c.1 hs)]
    clear hs HK0 KR IK
    subst hk0
    go_enter Tryz.func66, Tryz.ntmps66
    go_wp2_with fail
    refine F.mono ?_
    rintro e w1 ⟨v, rfl, hv, hF, hB⟩
    have S1 : DV n0 W w1 fb bm b m vb (N + 1) tv tags k (stepW x (150, .name)) t A E := HH.out.asked hB (by have := HN.out; omega) hF (small_step HH.out.small _)
    subst hv
    have KO1 := KO w1 (HT.out.kept S1.fr (fun e => S1.wl _ e rfl))
    have c1 := S1.kind
    have f1 := S1.th.fz 0
    have S2 := (S1.put (k' := 0) (S1.th.setNum (o := 0) (by omega) rfl 0) (by show upd t.2 0 _ 0 = _; exact upd_same _ _ _))
    have HS : Hid (DV n0 W (w1.setCell ⟨b, 0, none⟩ (.int .i64 0)) fb bm b m vb (N + 1) tv tags 0 (stepW x (150, .name)) (upd t.1 7 v, upd t.2 0 0) A E) := S2.beyond v
    clear F hF hB S1 S2 HH c0 KO
    go_wp2_with fail
    refine KO1.mono ?_
    rintro e w2 ⟨rfl, rfl⟩
    go_wp2_with fail
    go_end0
    exact ⟨rfl, HS.out⟩
  · have eb : sd.toList.isEmpty = false := by rw [empty_bytes]; exact decide_eq_false hs
    by_cases hk0 : K = 0
    · rw [if_pos ⟨hs, hk0⟩, if_pos ⟨hs, hk0⟩]
      subst hk0
      rw [show decide ((1 : Int) ≤ 0 ∧ (0 : Int) ≤ 7) = false by decide] at IK
      clear hs HK0 KR
      go_enter Tryz.func66, Tryz.ntmps66
      go_wp2_with fail
      refine F.mono ?_
      rintro e w1 ⟨v, rfl, hv, hF, hB⟩
      have S1 : DV n0 W w1 fb bm b m vb (N + 1) tv tags k (stepW x (150, .name)) t A E := HH.out.asked hB (by have := HN.out; omega) hF (small_step HH.out.small _)
      subst hv
      have KO1 := KO w1 (HT.out.kept S1.fr (fun e => S1.wl _ e rfl))
      have c1 := S1.kind
      have f1 := S1.th.fz 0
      have S2 := (S1.put (k' := 0) (S1.th.setNum (o := 0) (by omega) rfl 0) (by show upd t.2 0 _ 0 = _; exact upd_same _ _ _))
      have c2 := S2.kind
      have c3 := S2.ca
      have f3 := S2.fa
      obtain ⟨c4, f4, S4⟩ := S2.told 150 120
      have HS : Hid (DV n0 W (((w1.setCell ⟨b, 0, none⟩ (.int .i64 0)).setCell ⟨m + 1, 0, none⟩ (.int .i64 150)).setCell ⟨m + 2, 0, none⟩ (.int .i64 120)) fb bm b m vb (N + 1) tv tags 0 (stepW x (150, .name)) (upd t.1 7 v, upd t.2 0 0) 150 120) := S4.beyond v
      clear F hF hB S1 S2 S4 HH c0 KO
      go_wp2_with fail
      refine KO1.mono ?_
      rintro e w2 ⟨rfl, rfl⟩
      go_wp2_with fail
      refine (IK _).mono ?_
      rintro e w2 ⟨rfl, rfl⟩
      go_wp2_with fail
      go_end0
      exact ⟨rfl, HS.out⟩
    · rw [if_neg (fun c => hk0 c.2), if_neg (fun c => hk0 c.2)]
      rw [decide_eq_true (show (1 : Int) ≤ K ∧ K ≤ 7 by omega)] at IK
      clear hs HK0 KR hk0
      go_enter Tryz.func66, Tryz.ntmps66
      go_wp2_with fail
      refine F.mono ?_
      rintro e w1 ⟨v, rfl, hv, hF, hB⟩
      have S1 : DV n0 W w1 fb bm b m vb (N + 1) tv tags k (stepW x (150, .name)) t A E := HH.out.asked hB (by have := HN.out; omega) hF (small_step HH.out.small _)
      subst hv
      have KO1 := KO w1 (HT.out.kept S1.fr (fun e => S1.wl _ e rfl))
      have c1 := S1.kind
      have f1 := S1.th.fz 0
      have S2 := (S1.put (k' := K) (S1.th.setNum (o := 0) (by omega) rfl K) (by show upd t.2 0 _ 0 = _; exact upd_same _ _ _))
      have c2 := S2.kind
      have HS : Hid (DV n0 W (w1.setCell ⟨b, 0, none⟩ (.int .i64 K)) fb bm b m vb (N + 1) tv tags K (stepW x (150, .name)) (upd t.1 7 v, upd t.2 0 K) A E) := S2.beyond v
      clear F hF hB S1 S2 HH c0 KO
      go_wp2_with fail
      refine KO1.mono ?_
      rintro e w2 ⟨rfl, rfl⟩
      go_wp2_with fail
      refine (IK _).mono ?_
      rintro e w2 ⟨rfl, rfl⟩
      go_wp2_with fail
      go_end0
      exact ⟨rfl, HS.out⟩
end Go.Proofs.YtdbkoflejimibaaGreatDoor.PP.R
/-
  The walk of post's throughReply with the functions that read hands on, a theorem a kind.
-/
namespace Go.Proofs.YtdbkoflejimibaaGreatDoor.PP.R
open Go.ChangeShapes Go.WideShapes Go.ChangeAt Go.RowKit Go.Lib

set_option maxRecDepth 100000 in
set_option maxHeartbeats 4000000 in
theorem thrRead_7 {n0 : Nat} {W w : World} {fb bm b m : Nat} {tv : Value} {tags : List Int} {x : StP} {t : ThP} {A E : Int} (H0 : Hid (DV n0 W (w.alloc (.cells #[.func (.func 64) #[] #[.pointer (some ⟨m, 0, none⟩)], .func (.func 65) #[] #[.pointer (some ⟨m, 0, none⟩)], .func (.func 66) #[] #[.pointer (some ⟨m, 0, none⟩), .pointer (some ⟨m + 1, 0, none⟩), .pointer (some ⟨m + 2, 0, none⟩)]] 79)) fb bm b m w.heap.size 900 tv tags 7 x t A E)) :
    Calls Tryz.prog 24 #[.pointer (some ⟨b, 0, none⟩), .agg #[.func (.func 64) #[] #[.pointer (some ⟨m, 0, none⟩)], .func (.func 65) #[] #[.pointer (some ⟨m, 0, none⟩)], .func (.func 66) #[] #[.pointer (some ⟨m, 0, none⟩), .pointer (some ⟨m + 1, 0, none⟩), .pointer (some ⟨m + 2, 0, none⟩)]]] w fun e w' => e = .returned (.tuple #[]) ∧ DV n0 W w' fb bm b m w.heap.size (900 + 2) tv tags 7 (fil (listK 7) x t).1 (fil (listK 7) x t).2 A E := by
  go_enter Tryz.func24, Tryz.ntmps24
  have c0 := H0.out.kind
  have F1 := H0.out.num ⟨34, false, 1, 1, 1099511627776⟩ (by decide) (by decide) rfl rfl (by omega) (by decide) (by decide)
  dsimp only at F1
  go_wp2_with fail
  go_region_held3 (fun w' => w'.cell? ⟨w.heap.size, 0, none⟩ = some (.func (.func 64) #[] #[.pointer (some ⟨m, 0, none⟩)]) ∧ w'.cell? ⟨w.heap.size, 1, none⟩ = some (.func (.func 65) #[] #[.pointer (some ⟨m, 0, none⟩)]) ∧ w'.cell? ⟨w.heap.size, 2, none⟩ = some (.func (.func 66) #[] #[.pointer (some ⟨m, 0, none⟩), .pointer (some ⟨m + 1, 0, none⟩), .pointer (some ⟨m + 2, 0, none⟩)])) (go_keep) ((go_at_call 65; refine F1.mono ?_; rintro e w1 ⟨rfl, h1⟩; have H1 : Hid (DV n0 W w1 fb bm b m w.heap.size _ tv tags _ _ _ _ _ ) := h1; have c1 := h1.kind; have x1 := h1.v0; have y1 := h1.v1; have z1 := h1.v2; clear h1 F1))
  have F2 := H1.out.name ⟨11, true, 2, 0, 0⟩ (by decide) (by decide) rfl rfl (by omega) (by decide) (by decide)
  dsimp only at F2
  go_wp2_with fail
  go_region_held3 (fun w' => w'.cell? ⟨w.heap.size, 0, none⟩ = some (.func (.func 64) #[] #[.pointer (some ⟨m, 0, none⟩)]) ∧ w'.cell? ⟨w.heap.size, 1, none⟩ = some (.func (.func 65) #[] #[.pointer (some ⟨m, 0, none⟩)]) ∧ w'.cell? ⟨w.heap.size, 2, none⟩ = some (.func (.func 66) #[] #[.pointer (some ⟨m, 0, none⟩), .pointer (some ⟨m + 1, 0, none⟩), .pointer (some ⟨m + 2, 0, none⟩)])) (go_keep) ((go_at_call 64; refine F2.mono ?_; rintro e w2 ⟨rfl, h2⟩; have H2 : Hid (DV n0 W w2 fb bm b m w.heap.size _ tv tags _ _ _ _ _ ) := h2; have c2 := h2.kind; have x2 := h2.v0; have y2 := h2.v1; have z2 := h2.v2; clear h2 F2))
  go_wp2_with fail
  refine bodyPost_ret (results_none rfl _ _ _) rfl ?_
  exact ⟨rfl, H2.out⟩
set_option maxRecDepth 100000 in
set_option maxHeartbeats 4000000 in
theorem thrRead_5 {n0 : Nat} {W w : World} {fb bm b m : Nat} {tv : Value} {tags : List Int} {x : StP} {t : ThP} {A E : Int} (hK : Hid (kindOf (askV (fil head3 x t).1.1 (fil head3 x t).1.2.2 150 nameVE id (⟨#[]⟩ : ByteArray)) = 5)) (H0 : Hid (DV n0 W (w.alloc (.cells #[.func (.func 64) #[] #[.pointer (some ⟨m, 0, none⟩)], .func (.func 65) #[] #[.pointer (some ⟨m, 0, none⟩)], .func (.func 66) #[] #[.pointer (some ⟨m, 0, none⟩), .pointer (some ⟨m + 1, 0, none⟩), .pointer (some ⟨m + 2, 0, none⟩)]] 79)) fb bm b m w.heap.size 900 tv tags 0 x t A E)) :
    Calls Tryz.prog 24 #[.pointer (some ⟨b, 0, none⟩), .agg #[.func (.func 64) #[] #[.pointer (some ⟨m, 0, none⟩)], .func (.func 65) #[] #[.pointer (some ⟨m, 0, none⟩)], .func (.func 66) #[] #[.pointer (some ⟨m, 0, none⟩), .pointer (some ⟨m + 1, 0, none⟩), .pointer (some ⟨m + 2, 0, none⟩)]]] w fun e w' => e = .returned (.tuple #[]) ∧ DV n0 W w' fb bm b m w.heap.size (900 + 6) tv tags 5 (fil (tailK 5) (stepW (fil head3 x t).1 (150, .name)) (repT (fil head3 x t).1 (fil head3 x t).2 5)).1 (fil (tailK 5) (stepW (fil head3 x t).1 (150, .name)) (repT (fil head3 x t).1 (fil head3 x t).2 5)).2 A E := by
  go_enter Tryz.func24, Tryz.ntmps24
  have c0 := H0.out.kind
  have F1 := H0.out.num ⟨34, false, 1, 1, 1099511627776⟩ (by decide) (by decide) rfl rfl (by omega) (by decide) (by decide)
  dsimp only at F1
  go_wp2_with fail
  go_region_held3 (fun w' => w'.cell? ⟨w.heap.size, 0, none⟩ = some (.func (.func 64) #[] #[.pointer (some ⟨m, 0, none⟩)]) ∧ w'.cell? ⟨w.heap.size, 1, none⟩ = some (.func (.func 65) #[] #[.pointer (some ⟨m, 0, none⟩)]) ∧ w'.cell? ⟨w.heap.size, 2, none⟩ = some (.func (.func 66) #[] #[.pointer (some ⟨m, 0, none⟩), .pointer (some ⟨m + 1, 0, none⟩), .pointer (some ⟨m + 2, 0, none⟩)])) (go_keep) ((go_at_call 65; refine F1.mono ?_; rintro e w1 ⟨rfl, h1⟩; have H1 : Hid (DV n0 W w1 fb bm b m w.heap.size _ tv tags _ _ _ _ _ ) := h1; have c1 := h1.kind; have x1 := h1.v0; have y1 := h1.v1; have z1 := h1.v2; clear h1 F1))
  have F2 := H1.out.name ⟨11, true, 2, 0, 0⟩ (by decide) (by decide) rfl rfl (by omega) (by decide) (by decide)
  dsimp only at F2
  go_wp2_with fail
  go_region_held3 (fun w' => w'.cell? ⟨w.heap.size, 0, none⟩ = some (.func (.func 64) #[] #[.pointer (some ⟨m, 0, none⟩)]) ∧ w'.cell? ⟨w.heap.size, 1, none⟩ = some (.func (.func 65) #[] #[.pointer (some ⟨m, 0, none⟩)]) ∧ w'.cell? ⟨w.heap.size, 2, none⟩ = some (.func (.func 66) #[] #[.pointer (some ⟨m, 0, none⟩), .pointer (some ⟨m + 1, 0, none⟩), .pointer (some ⟨m + 2, 0, none⟩)])) (go_keep) ((go_at_call 64; refine F2.mono ?_; rintro e w2 ⟨rfl, h2⟩; have H2 : Hid (DV n0 W w2 fb bm b m w.heap.size _ tv tags _ _ _ _ _ ) := h2; have c2 := h2.kind; have x2 := h2.v0; have y2 := h2.v1; have z2 := h2.v2; clear h2 F2))
  have F3 := H2.out.name ⟨17, true, 3, 0, 0⟩ (by decide) (by decide) rfl rfl (by omega) (by decide) (by decide)
  dsimp only at F3
  go_wp2_with fail
  go_region_held3 (fun w' => w'.cell? ⟨w.heap.size, 0, none⟩ = some (.func (.func 64) #[] #[.pointer (some ⟨m, 0, none⟩)]) ∧ w'.cell? ⟨w.heap.size, 1, none⟩ = some (.func (.func 65) #[] #[.pointer (some ⟨m, 0, none⟩)]) ∧ w'.cell? ⟨w.heap.size, 2, none⟩ = some (.func (.func 66) #[] #[.pointer (some ⟨m, 0, none⟩), .pointer (some ⟨m + 1, 0, none⟩), .pointer (some ⟨m + 2, 0, none⟩)])) (go_keep) ((go_at_call 64; refine F3.mono ?_; rintro e w3 ⟨rfl, h3⟩; have H3 : Hid (DV n0 W w3 fb bm b m w.heap.size _ tv tags _ _ _ _ _ ) := h3; have c3 := h3.kind; have x3 := h3.v0; have y3 := h3.v1; have z3 := h3.v2; clear h3 F3))
  have F4 := H3.out.rep (by omega) (K := 5) hK.out
  go_wp2_with fail
  go_region_held3 (fun w' => w'.cell? ⟨w.heap.size, 0, none⟩ = some (.func (.func 64) #[] #[.pointer (some ⟨m, 0, none⟩)]) ∧ w'.cell? ⟨w.heap.size, 1, none⟩ = some (.func (.func 65) #[] #[.pointer (some ⟨m, 0, none⟩)]) ∧ w'.cell? ⟨w.heap.size, 2, none⟩ = some (.func (.func 66) #[] #[.pointer (some ⟨m, 0, none⟩), .pointer (some ⟨m + 1, 0, none⟩), .pointer (some ⟨m + 2, 0, none⟩)])) (go_keep) ((go_at_call 66; refine F4.mono ?_; rintro e w4 ⟨rfl, h4⟩; have H4 : Hid (DV n0 W w4 fb bm b m w.heap.size _ tv tags _ _ _ _ _ ) := h4; have c4 := h4.kind; have x4 := h4.v0; have y4 := h4.v1; have z4 := h4.v2; clear h4 F4))
  have F5 := H4.out.num ⟨32, false, 4, 1, 1099511627776⟩ (by decide) (by decide) rfl rfl (by omega) (by decide) (by decide)
  dsimp only at F5
  go_wp2_with fail
  go_region_held3 (fun w' => w'.cell? ⟨w.heap.size, 0, none⟩ = some (.func (.func 64) #[] #[.pointer (some ⟨m, 0, none⟩)]) ∧ w'.cell? ⟨w.heap.size, 1, none⟩ = some (.func (.func 65) #[] #[.pointer (some ⟨m, 0, none⟩)]) ∧ w'.cell? ⟨w.heap.size, 2, none⟩ = some (.func (.func 66) #[] #[.pointer (some ⟨m, 0, none⟩), .pointer (some ⟨m + 1, 0, none⟩), .pointer (some ⟨m + 2, 0, none⟩)])) (go_keep) ((go_at_call 65; refine F5.mono ?_; rintro e w5 ⟨rfl, h5⟩; have H5 : Hid (DV n0 W w5 fb bm b m w.heap.size _ tv tags _ _ _ _ _ ) := h5; have c5 := h5.kind; have x5 := h5.v0; have y5 := h5.v1; have z5 := h5.v2; clear h5 F5))
  have F6 := H5.out.num ⟨31, false, 5, 1, 1099511627776⟩ (by decide) (by decide) rfl rfl (by omega) (by decide) (by decide)
  dsimp only at F6
  go_wp2_with fail
  go_region_held3 (fun w' => w'.cell? ⟨w.heap.size, 0, none⟩ = some (.func (.func 64) #[] #[.pointer (some ⟨m, 0, none⟩)]) ∧ w'.cell? ⟨w.heap.size, 1, none⟩ = some (.func (.func 65) #[] #[.pointer (some ⟨m, 0, none⟩)]) ∧ w'.cell? ⟨w.heap.size, 2, none⟩ = some (.func (.func 66) #[] #[.pointer (some ⟨m, 0, none⟩), .pointer (some ⟨m + 1, 0, none⟩), .pointer (some ⟨m + 2, 0, none⟩)])) (go_keep) ((go_at_call 65; refine F6.mono ?_; rintro e w6 ⟨rfl, h6⟩; have H6 : Hid (DV n0 W w6 fb bm b m w.heap.size _ tv tags _ _ _ _ _ ) := h6; have c6 := h6.kind; have x6 := h6.v0; have y6 := h6.v1; have z6 := h6.v2; clear h6 F6))
  go_wp2_with fail
  go_end0
  refine ⟨rfl, ?_⟩
  have h := H6.out
  rw [repE_no (by decide), repE_no (by decide)] at h
  exact h
set_option maxRecDepth 100000 in
set_option maxHeartbeats 4000000 in
theorem thrRead_6 {n0 : Nat} {W w : World} {fb bm b m : Nat} {tv : Value} {tags : List Int} {x : StP} {t : ThP} {A E : Int} (hK : Hid (kindOf (askV (fil head3 x t).1.1 (fil head3 x t).1.2.2 150 nameVE id (⟨#[]⟩ : ByteArray)) = 6)) (H0 : Hid (DV n0 W (w.alloc (.cells #[.func (.func 64) #[] #[.pointer (some ⟨m, 0, none⟩)], .func (.func 65) #[] #[.pointer (some ⟨m, 0, none⟩)], .func (.func 66) #[] #[.pointer (some ⟨m, 0, none⟩), .pointer (some ⟨m + 1, 0, none⟩), .pointer (some ⟨m + 2, 0, none⟩)]] 79)) fb bm b m w.heap.size 900 tv tags 0 x t A E)) :
    Calls Tryz.prog 24 #[.pointer (some ⟨b, 0, none⟩), .agg #[.func (.func 64) #[] #[.pointer (some ⟨m, 0, none⟩)], .func (.func 65) #[] #[.pointer (some ⟨m, 0, none⟩)], .func (.func 66) #[] #[.pointer (some ⟨m, 0, none⟩), .pointer (some ⟨m + 1, 0, none⟩), .pointer (some ⟨m + 2, 0, none⟩)]]] w fun e w' => e = .returned (.tuple #[]) ∧ DV n0 W w' fb bm b m w.heap.size (900 + 5) tv tags 6 (fil (tailK 6) (stepW (fil head3 x t).1 (150, .name)) (repT (fil head3 x t).1 (fil head3 x t).2 6)).1 (fil (tailK 6) (stepW (fil head3 x t).1 (150, .name)) (repT (fil head3 x t).1 (fil head3 x t).2 6)).2 A E := by
  go_enter Tryz.func24, Tryz.ntmps24
  have c0 := H0.out.kind
  have F1 := H0.out.num ⟨34, false, 1, 1, 1099511627776⟩ (by decide) (by decide) rfl rfl (by omega) (by decide) (by decide)
  dsimp only at F1
  go_wp2_with fail
  go_region_held3 (fun w' => w'.cell? ⟨w.heap.size, 0, none⟩ = some (.func (.func 64) #[] #[.pointer (some ⟨m, 0, none⟩)]) ∧ w'.cell? ⟨w.heap.size, 1, none⟩ = some (.func (.func 65) #[] #[.pointer (some ⟨m, 0, none⟩)]) ∧ w'.cell? ⟨w.heap.size, 2, none⟩ = some (.func (.func 66) #[] #[.pointer (some ⟨m, 0, none⟩), .pointer (some ⟨m + 1, 0, none⟩), .pointer (some ⟨m + 2, 0, none⟩)])) (go_keep) ((go_at_call 65; refine F1.mono ?_; rintro e w1 ⟨rfl, h1⟩; have H1 : Hid (DV n0 W w1 fb bm b m w.heap.size _ tv tags _ _ _ _ _ ) := h1; have c1 := h1.kind; have x1 := h1.v0; have y1 := h1.v1; have z1 := h1.v2; clear h1 F1))
  have F2 := H1.out.name ⟨11, true, 2, 0, 0⟩ (by decide) (by decide) rfl rfl (by omega) (by decide) (by decide)
  dsimp only at F2
  go_wp2_with fail
  go_region_held3 (fun w' => w'.cell? ⟨w.heap.size, 0, none⟩ = some (.func (.func 64) #[] #[.pointer (some ⟨m, 0, none⟩)]) ∧ w'.cell? ⟨w.heap.size, 1, none⟩ = some (.func (.func 65) #[] #[.pointer (some ⟨m, 0, none⟩)]) ∧ w'.cell? ⟨w.heap.size, 2, none⟩ = some (.func (.func 66) #[] #[.pointer (some ⟨m, 0, none⟩), .pointer (some ⟨m + 1, 0, none⟩), .pointer (some ⟨m + 2, 0, none⟩)])) (go_keep) ((go_at_call 64; refine F2.mono ?_; rintro e w2 ⟨rfl, h2⟩; have H2 : Hid (DV n0 W w2 fb bm b m w.heap.size _ tv tags _ _ _ _ _ ) := h2; have c2 := h2.kind; have x2 := h2.v0; have y2 := h2.v1; have z2 := h2.v2; clear h2 F2))
  have F3 := H2.out.name ⟨17, true, 3, 0, 0⟩ (by decide) (by decide) rfl rfl (by omega) (by decide) (by decide)
  dsimp only at F3
  go_wp2_with fail
  go_region_held3 (fun w' => w'.cell? ⟨w.heap.size, 0, none⟩ = some (.func (.func 64) #[] #[.pointer (some ⟨m, 0, none⟩)]) ∧ w'.cell? ⟨w.heap.size, 1, none⟩ = some (.func (.func 65) #[] #[.pointer (some ⟨m, 0, none⟩)]) ∧ w'.cell? ⟨w.heap.size, 2, none⟩ = some (.func (.func 66) #[] #[.pointer (some ⟨m, 0, none⟩), .pointer (some ⟨m + 1, 0, none⟩), .pointer (some ⟨m + 2, 0, none⟩)])) (go_keep) ((go_at_call 64; refine F3.mono ?_; rintro e w3 ⟨rfl, h3⟩; have H3 : Hid (DV n0 W w3 fb bm b m w.heap.size _ tv tags _ _ _ _ _ ) := h3; have c3 := h3.kind; have x3 := h3.v0; have y3 := h3.v1; have z3 := h3.v2; clear h3 F3))
  have F4 := H3.out.rep (by omega) (K := 6) hK.out
  go_wp2_with fail
  go_region_held3 (fun w' => w'.cell? ⟨w.heap.size, 0, none⟩ = some (.func (.func 64) #[] #[.pointer (some ⟨m, 0, none⟩)]) ∧ w'.cell? ⟨w.heap.size, 1, none⟩ = some (.func (.func 65) #[] #[.pointer (some ⟨m, 0, none⟩)]) ∧ w'.cell? ⟨w.heap.size, 2, none⟩ = some (.func (.func 66) #[] #[.pointer (some ⟨m, 0, none⟩), .pointer (some ⟨m + 1, 0, none⟩), .pointer (some ⟨m + 2, 0, none⟩)])) (go_keep) ((go_at_call 66; refine F4.mono ?_; rintro e w4 ⟨rfl, h4⟩; have H4 : Hid (DV n0 W w4 fb bm b m w.heap.size _ tv tags _ _ _ _ _ ) := h4; have c4 := h4.kind; have x4 := h4.v0; have y4 := h4.v1; have z4 := h4.v2; clear h4 F4))
  have F5 := H4.out.name ⟨19, true, 6, 0, 0⟩ (by decide) (by decide) rfl rfl (by omega) (by decide) (by decide)
  dsimp only at F5
  go_wp2_with fail
  go_region_held3 (fun w' => w'.cell? ⟨w.heap.size, 0, none⟩ = some (.func (.func 64) #[] #[.pointer (some ⟨m, 0, none⟩)]) ∧ w'.cell? ⟨w.heap.size, 1, none⟩ = some (.func (.func 65) #[] #[.pointer (some ⟨m, 0, none⟩)]) ∧ w'.cell? ⟨w.heap.size, 2, none⟩ = some (.func (.func 66) #[] #[.pointer (some ⟨m, 0, none⟩), .pointer (some ⟨m + 1, 0, none⟩), .pointer (some ⟨m + 2, 0, none⟩)])) (go_keep) ((go_at_call 64; refine F5.mono ?_; rintro e w5 ⟨rfl, h5⟩; have H5 : Hid (DV n0 W w5 fb bm b m w.heap.size _ tv tags _ _ _ _ _ ) := h5; have c5 := h5.kind; have x5 := h5.v0; have y5 := h5.v1; have z5 := h5.v2; clear h5 F5))
  go_wp2_with fail
  go_end0
  refine ⟨rfl, ?_⟩
  have h := H5.out
  rw [repE_no (by decide), repE_no (by decide)] at h
  exact h
set_option maxRecDepth 100000 in
set_option maxHeartbeats 4000000 in
theorem thrRead_k {n0 : Nat} {W w : World} {fb bm b m : Nat} {tv : Value} {tags : List Int} {x : StP} {t : ThP} {A E : Int} {k : Int} (t5 : (k == 5) = false) (t6 : (k == 6) = false) (hK : Hid (kindOf (askV (fil head3 x t).1.1 (fil head3 x t).1.2.2 150 nameVE id (⟨#[]⟩ : ByteArray)) = k)) (H0 : Hid (DV n0 W (w.alloc (.cells #[.func (.func 64) #[] #[.pointer (some ⟨m, 0, none⟩)], .func (.func 65) #[] #[.pointer (some ⟨m, 0, none⟩)], .func (.func 66) #[] #[.pointer (some ⟨m, 0, none⟩), .pointer (some ⟨m + 1, 0, none⟩), .pointer (some ⟨m + 2, 0, none⟩)]] 79)) fb bm b m w.heap.size 900 tv tags 0 x t A E)) :
    Calls Tryz.prog 24 #[.pointer (some ⟨b, 0, none⟩), .agg #[.func (.func 64) #[] #[.pointer (some ⟨m, 0, none⟩)], .func (.func 65) #[] #[.pointer (some ⟨m, 0, none⟩)], .func (.func 66) #[] #[.pointer (some ⟨m, 0, none⟩), .pointer (some ⟨m + 1, 0, none⟩), .pointer (some ⟨m + 2, 0, none⟩)]]] w fun e w' => e = .returned (.tuple #[]) ∧ DV n0 W w' fb bm b m w.heap.size (900 + 4) tv tags k (fil [] (stepW (fil head3 x t).1 (150, .name)) (repT (fil head3 x t).1 (fil head3 x t).2 k)).1 (fil [] (stepW (fil head3 x t).1 (150, .name)) (repT (fil head3 x t).1 (fil head3 x t).2 k)).2 (repE (askV (fil head3 x t).1.1 (fil head3 x t).1.2.2 150 nameVE id (⟨#[]⟩ : ByteArray)) k 150 A) (repE (askV (fil head3 x t).1.1 (fil head3 x t).1.2.2 150 nameVE id (⟨#[]⟩ : ByteArray)) k 120 E) := by
  go_enter Tryz.func24, Tryz.ntmps24
  have c0 := H0.out.kind
  have F1 := H0.out.num ⟨34, false, 1, 1, 1099511627776⟩ (by decide) (by decide) rfl rfl (by omega) (by decide) (by decide)
  dsimp only at F1
  go_wp2_with fail
  go_region_held3 (fun w' => w'.cell? ⟨w.heap.size, 0, none⟩ = some (.func (.func 64) #[] #[.pointer (some ⟨m, 0, none⟩)]) ∧ w'.cell? ⟨w.heap.size, 1, none⟩ = some (.func (.func 65) #[] #[.pointer (some ⟨m, 0, none⟩)]) ∧ w'.cell? ⟨w.heap.size, 2, none⟩ = some (.func (.func 66) #[] #[.pointer (some ⟨m, 0, none⟩), .pointer (some ⟨m + 1, 0, none⟩), .pointer (some ⟨m + 2, 0, none⟩)])) (go_keep) ((go_at_call 65; refine F1.mono ?_; rintro e w1 ⟨rfl, h1⟩; have H1 : Hid (DV n0 W w1 fb bm b m w.heap.size _ tv tags _ _ _ _ _ ) := h1; have c1 := h1.kind; have x1 := h1.v0; have y1 := h1.v1; have z1 := h1.v2; clear h1 F1))
  have F2 := H1.out.name ⟨11, true, 2, 0, 0⟩ (by decide) (by decide) rfl rfl (by omega) (by decide) (by decide)
  dsimp only at F2
  go_wp2_with fail
  go_region_held3 (fun w' => w'.cell? ⟨w.heap.size, 0, none⟩ = some (.func (.func 64) #[] #[.pointer (some ⟨m, 0, none⟩)]) ∧ w'.cell? ⟨w.heap.size, 1, none⟩ = some (.func (.func 65) #[] #[.pointer (some ⟨m, 0, none⟩)]) ∧ w'.cell? ⟨w.heap.size, 2, none⟩ = some (.func (.func 66) #[] #[.pointer (some ⟨m, 0, none⟩), .pointer (some ⟨m + 1, 0, none⟩), .pointer (some ⟨m + 2, 0, none⟩)])) (go_keep) ((go_at_call 64; refine F2.mono ?_; rintro e w2 ⟨rfl, h2⟩; have H2 : Hid (DV n0 W w2 fb bm b m w.heap.size _ tv tags _ _ _ _ _ ) := h2; have c2 := h2.kind; have x2 := h2.v0; have y2 := h2.v1; have z2 := h2.v2; clear h2 F2))
  have F3 := H2.out.name ⟨17, true, 3, 0, 0⟩ (by decide) (by decide) rfl rfl (by omega) (by decide) (by decide)
  dsimp only at F3
  go_wp2_with fail
  go_region_held3 (fun w' => w'.cell? ⟨w.heap.size, 0, none⟩ = some (.func (.func 64) #[] #[.pointer (some ⟨m, 0, none⟩)]) ∧ w'.cell? ⟨w.heap.size, 1, none⟩ = some (.func (.func 65) #[] #[.pointer (some ⟨m, 0, none⟩)]) ∧ w'.cell? ⟨w.heap.size, 2, none⟩ = some (.func (.func 66) #[] #[.pointer (some ⟨m, 0, none⟩), .pointer (some ⟨m + 1, 0, none⟩), .pointer (some ⟨m + 2, 0, none⟩)])) (go_keep) ((go_at_call 64; refine F3.mono ?_; rintro e w3 ⟨rfl, h3⟩; have H3 : Hid (DV n0 W w3 fb bm b m w.heap.size _ tv tags _ _ _ _ _ ) := h3; have c3 := h3.kind; have x3 := h3.v0; have y3 := h3.v1; have z3 := h3.v2; clear h3 F3))
  have F4 := H3.out.rep (by omega) (K := k) hK.out
  go_wp2_with fail
  go_region_held3 (fun w' => w'.cell? ⟨w.heap.size, 0, none⟩ = some (.func (.func 64) #[] #[.pointer (some ⟨m, 0, none⟩)]) ∧ w'.cell? ⟨w.heap.size, 1, none⟩ = some (.func (.func 65) #[] #[.pointer (some ⟨m, 0, none⟩)]) ∧ w'.cell? ⟨w.heap.size, 2, none⟩ = some (.func (.func 66) #[] #[.pointer (some ⟨m, 0, none⟩), .pointer (some ⟨m + 1, 0, none⟩), .pointer (some ⟨m + 2, 0, none⟩)])) (go_keep) ((go_at_call 66; refine F4.mono ?_; rintro e w4 ⟨rfl, h4⟩; have H4 : Hid (DV n0 W w4 fb bm b m w.heap.size _ tv tags _ _ _ _ _ ) := h4; have c4 := h4.kind; have x4 := h4.v0; have y4 := h4.v1; have z4 := h4.v2; clear h4 F4))
  go_wp2_with fail
  go_end0
  exact ⟨rfl, H4.out⟩
end Go.Proofs.YtdbkoflejimibaaGreatDoor.PP.R
/-
  The contract of post's read (Reply).
-/
namespace Go.Proofs.YtdbkoflejimibaaGreatDoor.PP.R
open Go.ChangeShapes Go.WideShapes Go.ChangeAt Go.RowKit Go.Lib

/-- The blocks that read makes: a pointer to the form, a tag, an error's number. -/
abbrev laidR (w : World) (fb : Nat) : World := ((w.alloc (.cells #[.pointer (some ⟨fb, 0, none⟩)] 68)).alloc (.cells #[.int .i64 0] 3)).alloc (.cells #[.int .i64 0] 25)
abbrev laidW (w : World) (m : Nat) : World := w.alloc (.cells #[.func (.func 64) #[] #[.pointer (some ⟨m, 0, none⟩)], .func (.func 65) #[] #[.pointer (some ⟨m, 0, none⟩)], .func (.func 66) #[] #[.pointer (some ⟨m, 0, none⟩), .pointer (some ⟨m + 1, 0, none⟩), .pointer (some ⟨m + 2, 0, none⟩)]] 79)
theorem laidR_size (w : World) (fb : Nat) : (laidR w fb).heap.size = w.heap.size + 3 := by simp
theorem laid_dv {n0 : Nat} {w : World} {fb bm n b : Nat} {tv : Value} {tags : List Int} {x : StP} {t : ThP} (h : Frm n0 w fb bm n tv tags x.1 x.2.1 x.2.2) (hn : n ≤ 900) (hs : SmallL x.1) (hb : ThAt nm w b t) (nf : b ≠ fb) (nb : b ≠ bm) (nt : tv.ownBlock ≠ some b) (hl : Let w) (wl : ∀ j, ThreeB fb bm b j → j ≠ 1) {k : Int} (hk : t.2 0 = k) :
    DV n0 w (laidW (laidR w fb) w.heap.size) fb bm b w.heap.size (laidR w fb).heap.size 900 tv tags k x t 0 0 := by
  have z1 : (w.alloc (.cells #[.pointer (some ⟨fb, 0, none⟩)] 68)).heap.size = w.heap.size + 1 := by simp
  have z2 : ((w.alloc (.cells #[.pointer (some ⟨fb, 0, none⟩)] 68)).alloc (.cells #[.int .i64 0] 3)).heap.size = w.heap.size + 2 := by simp
  have z3 := laidR_size w fb
  have b1 : Below (w.heap.size + 1) (w.alloc (.cells #[.pointer (some ⟨fb, 0, none⟩)] 68)) (laidW (laidR w fb) w.heap.size) := by
    rw [← z1]
    exact (((Below.refl _ _).alloc (Nat.le_refl _) _).alloc (by simp) _).alloc (by first | (simp; done) | (simp; omega)) _
  have b2 : Below (w.heap.size + 2) ((w.alloc (.cells #[.pointer (some ⟨fb, 0, none⟩)] 68)).alloc (.cells #[.int .i64 0] 3)) (laidW (laidR w fb) w.heap.size) := by
    rw [← z2]
    exact ((Below.refl _ _).alloc (Nat.le_refl _) _).alloc (by simp) _
  have b3 : Below (w.heap.size + 3) (laidR w fb) (laidW (laidR w fb) w.heap.size) := by
    rw [← z3]
    exact (Below.refl _ _).alloc (Nat.le_refl _) _
  have b0 : Below w.heap.size w (laidW (laidR w fb) w.heap.size) := ((Below.refl _ w).alloc (Nat.le_refl _) _).trans (b1.mono (by omega))
  have G : ∀ (X : World) (v : Value) (ty m : Nat), X.heap.size = m → (X.alloc (.cells #[v] ty)).cell? ⟨m, 0, none⟩ = some v ∧ (X.alloc (.cells #[v] ty)).frozen? ⟨m, 0, none⟩ = false := fun X v ty m e => by rw [← e]; simp
  have G3 : ∀ (X : World) (f0 f1 f2 : Value), (X.alloc (.cells #[f0, f1, f2] 79)).cell? ⟨X.heap.size, 0, none⟩ = some f0 ∧ (X.alloc (.cells #[f0, f1, f2] 79)).cell? ⟨X.heap.size, 1, none⟩ = some f1 ∧ (X.alloc (.cells #[f0, f1, f2] 79)).cell? ⟨X.heap.size, 2, none⟩ = some f2 := fun X f0 f1 f2 => by simp
  refine ⟨⟨n, hn, h.still b0⟩, hs, hb.still b0, (b1.cell (p := ⟨w.heap.size, 0, none⟩) (by show w.heap.size < w.heap.size + 1; omega)).trans (G w _ _ _ rfl).1, (b2.cell (p := ⟨w.heap.size + 1, 0, none⟩) (by show w.heap.size + 1 < w.heap.size + 2; omega)).trans (G _ _ _ _ z1).1, (b2.frozen (p := ⟨w.heap.size + 1, 0, none⟩) (by show w.heap.size + 1 < w.heap.size + 2; omega)).trans (G _ (.int .i64 0) 3 _ z1).2, (b3.cell (p := ⟨w.heap.size + 2, 0, none⟩) (by show w.heap.size + 2 < w.heap.size + 3; omega)).trans (G _ _ _ _ z2).1, (b3.frozen (p := ⟨w.heap.size + 2, 0, none⟩) (by show w.heap.size + 2 < w.heap.size + 3; omega)).trans (G _ (.int .i64 0) 25 _ z2).2, (G3 _ _ _ _).1, (G3 _ _ _ _).2.1, (G3 _ _ _ _).2.2, hk, z3, h.lt, h.map.lt, hb.lt, fun g hg => (h.own.lt g hg).2, nf, nb, nt, But.of_below b0, hl, ?_⟩
  have lg : 1 < w.heap.size := World.block_lt_of_cell? _ _ (hl.at (K := 0) (by omega))
  intro j hj
  rcases hj with e | e | e | e | e
  · exact wl j (.inl e)
  · exact wl j (.inr (.inl e))
  · exact wl j (.inr (.inr e))
  · omega
  · omega
/-- What read answers: the tag and the error's number that were told, or Done's. -/
def readE2 (y : StP) (tags : List Int) (A E : Int) : Int × Int := if E = 0 then doneE y tags else (A, E)
set_option maxRecDepth 100000 in
set_option maxHeartbeats 4000000 in
theorem read_of {n0 : Nat} {w : World} {fb bm b N : Nat} {tv : Value} {tags : List Int} {k : Int} {y : StP} {u : ThP} {A E : Int} (ht : ∀ t ∈ tags, -9223372036854775808 ≤ t ∧ t ≤ 9223372036854775807)
    (THR : Calls Tryz.prog 24 #[.pointer (some ⟨b, 0, none⟩), .agg #[.func (.func 64) #[] #[.pointer (some ⟨w.heap.size, 0, none⟩)], .func (.func 65) #[] #[.pointer (some ⟨w.heap.size, 0, none⟩)], .func (.func 66) #[] #[.pointer (some ⟨w.heap.size, 0, none⟩), .pointer (some ⟨w.heap.size + 1, 0, none⟩), .pointer (some ⟨w.heap.size + 2, 0, none⟩)]]] (laidR w fb) fun e w' => e = .returned (.tuple #[]) ∧ DV n0 w w' fb bm b w.heap.size (laidR w fb).heap.size N tv tags k y u A E) :
    Calls Tryz.prog 37 #[.pointer (some ⟨fb, 0, none⟩), .pointer (some ⟨b, 0, none⟩), .func (.func 24) #[] #[]] w fun e w' => e = .returned (.tuple #[.int .i64 (readE2 y tags A E).1, .int .i64 (readE2 y tags A E).2]) ∧ ThAt nm w' b u ∧ But (ThreeB fb bm b) w w' := by
  have HT : Hid (∀ t ∈ tags, -9223372036854775808 ≤ t ∧ t ≤ 9223372036854775807) := ht
  have fin : Hid (∀ w' A' E', DV n0 w w' fb bm b w.heap.size (laidR w fb).heap.size N tv tags k y u A' E' → ThAt nm w' b u ∧ But (ThreeB fb bm b) w w') := fun w' A' E' h => ⟨h.th, h.fr.mono fun i hi e => by rcases e with e | e | e | e | e; exact .inl e; exact .inr (.inl e); exact .inr (.inr e); omega; omega⟩
  clear ht
  unfold readE2
  unfold laidR at THR
  by_cases hE : E = 0
  · rw [if_pos hE]
    subst hE
    obtain ⟨DT, DE, hDD⟩ : ∃ DT DE, doneE y tags = (DT, DE) := ⟨_, _, rfl⟩
    rw [hDD]
    dsimp only
    have HD : Hid (doneE y tags = (DT, DE)) := hDD
    clear hDD
    go_enter Tryz.func37, Tryz.ntmps37
    go_wp2_with fail
    refine THR.mono ?_
    rintro e w4 ⟨rfl, V⟩
    have c0 := V.ptr
    have c1 := V.ca
    have c2 := V.ce
    obtain ⟨n, hn, F⟩ := V.frm
    have D := done_any F HT.out
    rw [HD.out] at D
    have HV : Hid (DV n0 w w4 fb bm b w.heap.size (laidR w fb).heap.size N tv tags k y u A 0) := V
    clear THR V F hn
    go_wp2_with fail
    refine D.mono ?_
    rintro e w5 ⟨rfl, b5⟩
    have V5 := HV.out.still b5
    have d1 := V5.ca
    have f1 := V5.fa
    obtain ⟨d2, f2, V6⟩ := V5.told DT DE
    have HV6 : Hid (DV n0 w ((w5.setCell ⟨w.heap.size + 1, 0, none⟩ (.int .i64 DT)).setCell ⟨w.heap.size + 2, 0, none⟩ (.int .i64 DE)) fb bm b w.heap.size (laidR w fb).heap.size N tv tags k y u DT DE) := V6
    clear D V5 V6 b5 c0 c1 c2
    go_wp2_with fail
    have V7 := HV6.out
    clear HV6 d1 d2 f1 f2
    generalize hW9 : World.setCell _ ⟨w.heap.size + 2, 0, none⟩ _ = W9 at *
    have p1 := V7.ca
    have p2 := V7.ce
    refine bodyPost_ret (v := .tuple #[.int .i64 DT, .int .i64 DE]) (by simp [results, Tryz.results37, go_sem, p1, p2]) rfl ?_
    exact ⟨rfl, fin.out _ _ _ V7⟩
  · rw [if_neg hE]
    have te : (E == 0) = false := beq_false_of_ne hE
    clear hE
    go_enter Tryz.func37, Tryz.ntmps37
    go_wp2_with fail
    refine THR.mono ?_
    rintro e w4 ⟨rfl, V⟩
    have c0 := V.ptr
    have c1 := V.ca
    have c2 := V.ce
    have f1 := V.fa
    have f2 := V.fe
    obtain ⟨d2, g2, V6⟩ := V.told A E
    have HV6 : Hid (DV n0 w ((w4.setCell ⟨w.heap.size + 1, 0, none⟩ (.int .i64 A)).setCell ⟨w.heap.size + 2, 0, none⟩ (.int .i64 E)) fb bm b w.heap.size (laidR w fb).heap.size N tv tags k y u A E) := V6
    clear THR V V6
    go_wp2_with fail
    go_region
    go_wp2_with fail
    have V7 := HV6.out
    clear HV6 d2 g2 f1 f2 c0 c1 c2
    generalize hW9 : World.setCell _ ⟨w.heap.size + 2, 0, none⟩ _ = W9 at *
    have p1 := V7.ca
    have p2 := V7.ce
    refine bodyPost_ret (v := .tuple #[.int .i64 A, .int .i64 E]) (by simp [results, Tryz.results37, go_sem, p1, p2]) rfl ?_
    exact ⟨rfl, fin.out _ _ _ V7.drew⟩
/-- What begin says of a word: the kind to begin with, and whether there is such a word. -/
def begK (wd : ByteArray) : Int × Bool := if wd = ⟨#[56]⟩ then (0, true) else if wd = ⟨#[57]⟩ then (7, true) else (0, false)
/-- What was read of a report is what its body says. -/
theorem told8 {l : List Fd} {K : Int} (h7 : K ≠ 7) (h : (runS (x0F l) ((listK K).map Pl.want)).2.2 = 0) : Same (fil (tailK K) (stepW (fil head3 (x0F l) (zeroT 0)).1 (150, .name)) (repT (fil head3 (x0F l) (zeroT 0)).1 (fil head3 (x0F l) (zeroT 0)).2 K)).2 (tolds (listK K) l (zeroT K)) := by
  rw [list_tail h7] at h
  have hd : (runS (x0F l) ((head3 ++ [rep1]).map Pl.want)) = stepW (fil head3 (x0F l) (zeroT 0)).1 (150, .name) := rfl
  have e1 := fil_told (l := l) (tailK K) (head3 ++ [rep1]) (repT (fil head3 (x0F l) (zeroT 0)).1 (fil head3 (x0F l) (zeroT 0)).2 K) (by rw [List.append_assoc]; exact h)
  rw [hd] at e1
  have e3 : (fil head3 (x0F l) (zeroT 0)).2 = tolds head3 l (zeroT 0) := fil_told (l := l) head3 [] (zeroT 0) (by
    by_cases c : (runS (x0F l) (head3.map Pl.want)).2.2 = 0
    · exact c
    · rw [List.map_append, runS_append, runS_err c] at h
      exact absurd h c)
  have es := (said_run h).1
  have es' : askV (fil head3 (x0F l) (zeroT 0)).1.1 (fil head3 (x0F l) (zeroT 0)).1.2.2 150 nameVE id (⟨#[]⟩ : ByteArray) = textOf l 150 := es
  rw [e1, list_tail h7]
  unfold repT
  rw [es', e3]
  rcases kinds K with ⟨n5, n6, _⟩ | e | e | e
  · unfold tailK
    rw [if_neg n5, if_neg n6]
    simp [Same, tolds, Pl.told, upd, zeroT]
  · rw [e, show tailK 5 = [⟨32, false, 4, 1, 1099511627776⟩, ⟨31, false, 5, 1, 1099511627776⟩] from rfl]
    simp [Same, tolds, Pl.told, upd, zeroT]
  · rw [e, show tailK 6 = [⟨19, true, 6, 0, 0⟩] from rfl]
    simp [Same, tolds, Pl.told, upd, zeroT]
  · exact absurd e h7
theorem run8 {l : List Fd} {K : Int} (h7 : K ≠ 7) (t : ThP) : (fil (tailK K) (stepW (fil head3 (x0F l) (zeroT 0)).1 (150, .name)) t).1 = runS (x0F l) ((listK K).map Pl.want) := by
  rw [fil_st, list_tail h7, List.map_append, List.map_cons, runS_append, runS_cons]
  rfl
/-- What read comes to, of a form that is new. -/
def ReadOk (F : List Fd) (w : World) (fb bm b : Nat) (e : Ending) (w' : World) : Prop := ∃ u, e = .returned (.tuple #[.int .i64 (decE F).1, .int .i64 (decE F).2]) ∧ ThAt nm w' b u ∧ ((decE F).2 = 0 → Same u (tolds (listK (decK F)) F (zeroT (decK F)))) ∧ But (ThreeB fb bm b) w w'
theorem read_dec {n0 : Nat} {w : World} {fb bm n b : Nat} {tv : Value} {F : List Fd} (h : Frm n0 w fb bm n tv (F.map Prod.fst) (lookF F) 0 0) (hn : n ≤ 900) (hs : SmallL (lookF F)) (ht : ∀ t ∈ F.map Prod.fst, -9223372036854775808 ≤ t ∧ t ≤ 9223372036854775807) (hg : (begK (textOf F 35)).2 = true) (hb : ThAt nm w b (zeroT (begK (textOf F 35)).1)) (nf : b ≠ fb) (nb : b ≠ bm) (nt : tv.ownBlock ≠ some b) (hl : Let w) (wl : ∀ j, ThreeB fb bm b j → j ≠ 1) :
    Calls Tryz.prog 37 #[.pointer (some ⟨fb, 0, none⟩), .pointer (some ⟨b, 0, none⟩), .func (.func 24) #[] #[]] w (ReadOk F w fb bm b) := by
  by_cases e9 : textOf F 35 = ⟨#[57]⟩
  · have hbk : begK (textOf F 35) = (7, true) := by rw [e9]; decide
    rw [hbk] at hb
    have V : Hid (DV n0 w (laidW (laidR w fb) w.heap.size) fb bm b w.heap.size (laidR w fb).heap.size 900 tv (F.map Prod.fst) 7 (x0F F) (zeroT 7) 0 0) := laid_dv (x := x0F F) (k := 7) h hn hs hb nf nb nt hl wl rfl
    refine (read_of ht (thrRead_7 V)).mono ?_
    rintro e' w' ⟨rfl, hT, hB⟩
    have hD : decE F = doneE (runS (x0F F) ((listK 7).map Pl.want)) (F.map Prod.fst) := by
      unfold decE
      rw [if_pos e9]
    have hR : readE2 (fil (listK 7) (x0F F) (zeroT 7)).1 (F.map Prod.fst) 0 0 = decE F := by
      unfold readE2
      rw [if_pos rfl, fil_st, hD]
    refine ⟨_, by rw [hR], hT, fun h0 => ?_, hB⟩
    rw [show decK F = 7 by unfold decK; rw [if_pos e9]]
    have := fil_told (l := F) (listK 7) [] (zeroT 7) (by rw [hD] at h0; exact (done_run h0).1)
    rw [show runS (x0F F) (([] : List Pl).map Pl.want) = x0F F from rfl] at this
    rw [this]
    exact Same.refl _
  · have e8 : textOf F 35 = ⟨#[56]⟩ := by
      unfold begK at hg
      by_cases c : textOf F 35 = ⟨#[56]⟩
      · exact c
      · rw [if_neg c, if_neg e9] at hg
        simp at hg
    have hbk : begK (textOf F 35) = (0, true) := by rw [e8]; decide
    rw [hbk] at hb
    have V : Hid (DV n0 w (laidW (laidR w fb) w.heap.size) fb bm b w.heap.size (laidR w fb).heap.size 900 tv (F.map Prod.fst) 0 (x0F F) (zeroT 0) 0 0) := laid_dv (x := x0F F) (k := 0) h hn hs hb nf nb nt hl wl rfl
    have kr := kind_range (said F)
    obtain ⟨K, hK⟩ : ∃ K, kindOf (said F) = K := ⟨_, rfl⟩
    rw [hK] at kr
    have dK : decK F = K := by unfold decK; rw [if_neg e9]; exact hK
    have fin : ∀ (A E : Int) (N : Nat), (E = 0 → ¬ (said F ≠ noText ∧ K = 0)) → (E ≠ 0 → (said F ≠ noText ∧ K = 0) ∧ A = 150 ∧ E = 120) → Calls Tryz.prog 24 #[.pointer (some ⟨b, 0, none⟩), .agg #[.func (.func 64) #[] #[.pointer (some ⟨w.heap.size, 0, none⟩)], .func (.func 65) #[] #[.pointer (some ⟨w.heap.size, 0, none⟩)], .func (.func 66) #[] #[.pointer (some ⟨w.heap.size, 0, none⟩), .pointer (some ⟨w.heap.size + 1, 0, none⟩), .pointer (some ⟨w.heap.size + 2, 0, none⟩)]]] (laidR w fb) (fun e w' => e = .returned (.tuple #[]) ∧ DV n0 w w' fb bm b w.heap.size (laidR w fb).heap.size N tv (F.map Prod.fst) K (fil (tailK K) (stepW (fil head3 (x0F F) (zeroT 0)).1 (150, .name)) (repT (fil head3 (x0F F) (zeroT 0)).1 (fil head3 (x0F F) (zeroT 0)).2 K)).1 (fil (tailK K) (stepW (fil head3 (x0F F) (zeroT 0)).1 (150, .name)) (repT (fil head3 (x0F F) (zeroT 0)).1 (fil head3 (x0F F) (zeroT 0)).2 K)).2 A E) → Calls Tryz.prog 37 #[.pointer (some ⟨fb, 0, none⟩), .pointer (some ⟨b, 0, none⟩), .func (.func 24) #[] #[]] w (ReadOk F w fb bm b) := by
      intro A E N c0 c1 THR
      refine (read_of ht THR).mono ?_
      rintro e' w' ⟨rfl, hT, hB⟩
      have hD : decE F = readE2 (runS (x0F F) ((listK K).map Pl.want)) (F.map Prod.fst) A E := by
        unfold decE readE2
        rw [if_neg e9, if_pos e8, hK]
        by_cases c : E = 0
        · rw [if_pos c, if_neg (c0 c)]
        · obtain ⟨a1, a2, a3⟩ := c1 c
          rw [if_neg c, if_pos a1, a2, a3]
      rw [run8 (by omega), ← hD]
      refine ⟨_, rfl, hT, fun h0 => ?_, hB⟩
      rw [dK]
      exact told8 (by omega) (by have := (dec_run h0).2.1; rw [dK] at this; exact this)
    rcases kinds K with ⟨n5, n6, n7⟩ | e | e | e
    · have hlk : tailK K = [] := by unfold tailK; rw [if_neg n5, if_neg n6]
      refine fin (repE (said F) K 150 0) (repE (said F) K 120 0) (900 + 4) ?_ ?_ ?_
      · intro c d
        unfold repE at c
        rw [if_pos d] at c
        simp at c
      · intro c
        unfold repE at c ⊢
        by_cases d : said F ≠ noText ∧ K = 0
        · rw [if_pos d, if_pos d]
          exact ⟨d, rfl, rfl⟩
        · rw [if_neg d] at c
          exact absurd rfl c
      · rw [hlk]
        exact thrRead_k (beq_false_of_ne n5) (beq_false_of_ne n6) (show Hid _ from hK) V
    · subst e
      exact fin 0 0 _ (fun _ c => by omega) (fun c => absurd rfl c) (thrRead_5 (show Hid _ from hK) V)
    · subst e
      exact fin 0 0 _ (fun _ c => by omega) (fun c => absurd rfl c) (thrRead_6 (show Hid _ from hK) V)
    · omega
end Go.Proofs.YtdbkoflejimibaaGreatDoor.PP.R
/-
  The contracts of post's decode and DecodeReply, for every text.
-/
namespace Go.Proofs.YtdbkoflejimibaaGreatDoor.PP.R
open Go.ChangeShapes Go.WideShapes Go.ChangeAt Go.RowKit Go.Lib

/-- One put into a block. -/
def put7 (w : World) (r : Nat) (t : ThP) : World := (((((((w.setCell ⟨r, 0, none⟩ (.int .i64 (t.2 0))).setCell ⟨r, 1, none⟩ (.int .i64 (t.2 1))).setCell ⟨r, 2, none⟩ (.string (t.1 2))).setCell ⟨r, 3, none⟩ (.string (t.1 3))).setCell ⟨r, 4, none⟩ (.int .i64 (t.2 4))).setCell ⟨r, 5, none⟩ (.int .i64 (t.2 5))).setCell ⟨r, 6, none⟩ (.string (t.1 6)))
def put0 (w : World) (r : Nat) : World := (((((((w.setCell ⟨r, 0, none⟩ (.int .i64 0)).setCell ⟨r, 1, none⟩ (.int .i64 0)).setCell ⟨r, 2, none⟩ (.string ⟨#[]⟩)).setCell ⟨r, 3, none⟩ (.string ⟨#[]⟩)).setCell ⟨r, 4, none⟩ (.int .i64 0)).setCell ⟨r, 5, none⟩ (.int .i64 0)).setCell ⟨r, 6, none⟩ (.string ⟨#[]⟩))
theorem put0_eq (w : World) (r : Nat) : put7 w r (zeroT 0) = put0 w r := rfl
theorem put_cell {w : World} {r j j' : Nat} {v x : Value} (h : w.cell? ⟨r, j, none⟩ = some x) (hj : j ≠ j') : (w.setCell ⟨r, j', none⟩ v).cell? ⟨r, j, none⟩ = some x :=
  (World.cell?_setCell_other _ _ _ _ (by simp only [ne_eq, Addr.mk.injEq]; omega)).trans h
theorem put_at {w : World} {r : Nat} {u : ThP} (h' : ThAt nm w r u) (t : ThP) : ThAt nm (put7 w r t) r t := by
  have h := h'.cell
  have f := h'.fz
  refine ⟨fun j hj => ?_, fun j => by unfold put7; simp only [World.frozen?_setCell]; exact f j⟩
  unfold put7
  rcases (show j = 0 ∨ j = 1 ∨ j = 2 ∨ j = 3 ∨ j = 4 ∨ j = 5 ∨ j = 6 by omega) with rfl | rfl | rfl | rfl | rfl | rfl | rfl
  · exact put_cell (put_cell (put_cell (put_cell (put_cell (put_cell (World.cell?_setCell_same _ _ _ (h 0 (by omega))) (by omega)) (by omega)) (by omega)) (by omega)) (by omega)) (by omega)
  · exact put_cell (put_cell (put_cell (put_cell (put_cell (World.cell?_setCell_same _ _ _ (put_cell (h 1 (by omega)) (by omega))) (by omega)) (by omega)) (by omega)) (by omega)) (by omega)
  · exact put_cell (put_cell (put_cell (put_cell (World.cell?_setCell_same _ _ _ (put_cell (put_cell (h 2 (by omega)) (by omega)) (by omega))) (by omega)) (by omega)) (by omega)) (by omega)
  · exact put_cell (put_cell (put_cell (World.cell?_setCell_same _ _ _ (put_cell (put_cell (put_cell (h 3 (by omega)) (by omega)) (by omega)) (by omega))) (by omega)) (by omega)) (by omega)
  · exact put_cell (put_cell (World.cell?_setCell_same _ _ _ (put_cell (put_cell (put_cell (put_cell (h 4 (by omega)) (by omega)) (by omega)) (by omega)) (by omega))) (by omega)) (by omega)
  · exact put_cell (World.cell?_setCell_same _ _ _ (put_cell (put_cell (put_cell (put_cell (put_cell (h 5 (by omega)) (by omega)) (by omega)) (by omega)) (by omega)) (by omega))) (by omega)
  · exact World.cell?_setCell_same _ _ _ (put_cell (put_cell (put_cell (put_cell (put_cell (put_cell (h 6 (by omega)) (by omega)) (by omega)) (by omega)) (by omega)) (by omega)) (by omega))
theorem put_but (w : World) (r : Nat) (t : ThP) : But (fun j => j = r) w (put7 w r t) := by
  unfold put7
  exact ((((((((But.refl (fun j => j = r) w).setCell r 0 _ (fun _ => rfl)).setCell r 1 _ (fun _ => rfl)).setCell r 2 _ (fun _ => rfl)).setCell r 3 _ (fun _ => rfl)).setCell r 4 _ (fun _ => rfl)).setCell r 5 _ (fun _ => rfl)).setCell r 6 _ (fun _ => rfl))
/-- A block of nothing. -/
abbrev outW (w : World) : World := w.alloc (.cells #[.int .i64 0, .int .i64 0, .string ⟨#[]⟩, .string ⟨#[]⟩, .int .i64 0, .int .i64 0, .string ⟨#[]⟩] 32)
theorem out_below (w : World) : Below w.heap.size w (outW w) := (Below.refl _ w).alloc (Nat.le_refl _) _
theorem out_at (w : World) : ThAt nm (outW w) w.heap.size (zeroT 0) := box_at w (zeroT 0)
theorem zero_1 (k : Int) (j : Nat) : (zeroT k).1 j = ⟨#[]⟩ := rfl
theorem zero_2 (k : Int) (j : Nat) : (zeroT k).2 (j + 1) = 0 := rfl
theorem zeroT_eq (k : Int) : thV (zeroT k) = .agg #[.int .i64 k, .int .i64 0, .string ⟨#[]⟩, .string ⟨#[]⟩, .int .i64 0, .int .i64 0, .string ⟨#[]⟩] := rfl
set_option maxRecDepth 100000 in
set_option maxHeartbeats 8000000 in
theorem begin_any (s : ByteArray) (w : World) :
    Calls Tryz.prog 23 #[.string s] w fun e w' => e = .returned (.tuple #[.agg #[.int .i64 (begK s).1, .int .i64 0, .string ⟨#[]⟩, .string ⟨#[]⟩, .int .i64 0, .int .i64 0, .string ⟨#[]⟩], .bool (begK s).2]) ∧ Below w.heap.size w w' := by
  unfold begK
  by_cases e8 : s = ⟨#[56]⟩
  · rw [if_pos e8]
    subst e8
    go_enter Tryz.func23, Tryz.ntmps23
    go_wp2_with fail
    refine bodyPost_ret (v := .tuple #[.agg #[.int .i64 0, .int .i64 0, .string ⟨#[]⟩, .string ⟨#[]⟩, .int .i64 0, .int .i64 0, .string ⟨#[]⟩], .bool true]) (by simp [results, Tryz.results23, go_sem]) rfl ?_
    exact ⟨rfl, (Below.refl _ w).alloc (Nat.le_refl _) _⟩
  · rw [if_neg e8]
    have q8 : ¬ s.toList = [56] := fun e => e8 ((bytes_iff s ⟨#[56]⟩).1 (e.trans (by decide +kernel)))
    have r8 : (s.toList == [56]) = false := beq_false_of_ne q8
    by_cases e9 : s = ⟨#[57]⟩
    · rw [if_pos e9]
      subst e9
      clear q8 r8
      go_enter Tryz.func23, Tryz.ntmps23
      go_wp2_with fail
      refine bodyPost_ret (v := .tuple #[.agg #[.int .i64 7, .int .i64 0, .string ⟨#[]⟩, .string ⟨#[]⟩, .int .i64 0, .int .i64 0, .string ⟨#[]⟩], .bool true]) (by simp [results, Tryz.results23, go_sem]) rfl ?_
      exact ⟨rfl, (Below.refl _ w).alloc (Nat.le_refl _) _⟩
    · rw [if_neg e9]
      have q9 : ¬ s.toList = [57] := fun e => e9 ((bytes_iff s ⟨#[57]⟩).1 (e.trans (by decide +kernel)))
      have r9 : (s.toList == [57]) = false := beq_false_of_ne q9
      clear e8 e9
      go_enter Tryz.func23, Tryz.ntmps23
      go_wp2_with fail
      refine bodyPost_ret (v := .tuple #[.agg #[.int .i64 0, .int .i64 0, .string ⟨#[]⟩, .string ⟨#[]⟩, .int .i64 0, .int .i64 0, .string ⟨#[]⟩], .bool false]) (by simp [results, Tryz.results23, go_sem]) rfl ?_
      exact ⟨rfl, (Below.refl _ w).alloc (Nat.le_refl _) _⟩
/-- What Decode answers of a text. -/
def DecOk (l : List UInt8) (w : World) (e : Ending) (w' : World) : Prop := ∃ u, e = .returned (.tuple #[thV u, .int .i64 (decT l).1, .int .i64 (decT l).2]) ∧ Same u (decA l) ∧ Below w.heap.size w w'
theorem zero_same {l : List UInt8} (h : (decT l).2 ≠ 0) : Same (zeroT 0) (decA l) := by
  have e : decA l = zeroT 0 := if_neg h
  rw [e]
  exact Same.refl _
/-- The two blocks of nothing that decode makes. -/
theorem two_below (w : World) : Below w.heap.size w (outW (outW w)) := (out_below w).trans ((out_below (outW w)).mono (by simp))
theorem two_at (w : World) : ThAt nm (outW (outW w)) w.heap.size (zeroT 0) ∧ ThAt nm (outW (outW w)) (w.heap.size + 1) (zeroT 0) := by
  refine ⟨(out_at w).still (out_below (outW w)), ?_⟩
  have := out_at (outW w)
  rw [show (outW w).heap.size = w.heap.size + 1 by simp] at this
  exact this
set_option maxRecDepth 100000 in
set_option maxHeartbeats 8000000 in
theorem decode_read (s : ByteArray) (w : World) (hs : s.size ≤ 1000000) (hE : readE s.data.toList ≠ 0) :
    Calls Tryz.prog 22 #[.string s, .func (.func 23) #[] #[], .func (.func 24) #[] #[]] w (DecOk s.data.toList w) := by
  have RD := fun w => read_any s w hs
  obtain ⟨E, hEE⟩ : ∃ E, readE s.data.toList = E := ⟨_, rfl⟩
  have HD : Hid (decT s.data.toList = (0, (E : Int))) := by show decT s.data.toList = _; unfold decT; rw [if_pos hE, hEE]
  rw [hEE] at RD hE
  have te : ((E : Int) == 0) = false := beq_false_of_ne (by omega)
  have HE : Hid (E ≠ 0) := hE
  clear hE hEE
  have B0 : Hid (Below w.heap.size w (outW (outW w))) := two_below w
  have C0 : Hid (ThAt nm (outW (outW w)) w.heap.size (zeroT 0)) := (two_at w).1
  have N0 : Hid (ThAt nm (outW (outW w)) (w.heap.size + 1) (zeroT 0)) := (two_at w).2
  go_enter Tryz.func22, Tryz.ntmps22
  go_wp2_with fail
  refine (RD _).mono ?_
  rintro e w1 (⟨_, rfl, b1⟩ | ⟨e0, _⟩)
  · have C1 : Hid (ThAt nm w1 w.heap.size (zeroT 0)) := C0.out.still b1
    have HB1 : Hid (Below w.heap.size w w1) := B0.out.trans (b1.mono B0.out.size)
    obtain ⟨g0, g1, g2, g3, g4, g5, g6⟩ := ThAt.zero (N0.out.still b1)
    clear b1 RD
    obtain ⟨r0, r1, r2, r3, r4, r5, r6⟩ := ThAt.zero C1.out
    have z := C1.out.fz
    have P : Hid (ThAt nm (put0 w1 w.heap.size) w.heap.size (zeroT 0)) := put_at C1.out (zeroT 0)
    have PB : Hid (But (fun j => j = w.heap.size) w1 (put0 w1 w.heap.size)) := put_but w1 w.heap.size (zeroT 0)
    go_wp2_with fail
    have P' := P.out
    have PB' := PB.out
    unfold put0 at P' PB'
    clear P PB
    generalize hW9 : World.setCell _ ⟨w.heap.size, 6, none⟩ _ = W9 at *
    obtain ⟨p0, p1, p2, p3, p4, p5, p6⟩ := ThAt.zero P'
    refine bodyPost_ret (v := .tuple #[.agg #[.int .i64 0, .int .i64 0, .string ⟨#[]⟩, .string ⟨#[]⟩, .int .i64 0, .int .i64 0, .string ⟨#[]⟩], .int .i64 0, .int .i64 (E : Int)]) (by simp [results, Tryz.results22, go_sem, p0, p1, p2, p3, p4, p5, p6]) rfl ?_
    exact ⟨zeroT 0, by rw [HD.out]; rfl, zero_same (by rw [HD.out]; have := HE.out; show (E : Int) ≠ 0; omega), HB1.out.trans (PB'.below HB1.out.size (fun i e => by have e' : i = w.heap.size := e; omega))⟩
  · exact absurd e0 HE.out
set_option maxRecDepth 100000 in
set_option maxHeartbeats 8000000 in
theorem decode_kind (s : ByteArray) (w : World) (hs : s.size ≤ 1000000) (hE : readE s.data.toList = 0) (hk : (begK (textOf (fieldsL s.data.toList).1 35)).2 = false) (hk0 : (begK (textOf (fieldsL s.data.toList).1 35)).1 = 0) (hD : decE (fieldsL s.data.toList).1 = (35, 120)) :
    Calls Tryz.prog 22 #[.string s, .func (.func 23) #[] #[], .func (.func 24) #[] #[]] w (DecOk s.data.toList w) := by
  have RD := fun w => read_any s w hs
  have HD : Hid (decT s.data.toList = (35, 120)) := by show decT s.data.toList = _; unfold decT; rw [if_neg (by omega)]; exact hD
  have LK := kind_text hE
  have BG := fun w => begin_any (textOf (fieldsL s.data.toList).1 35) w
  rw [hk, hk0] at BG
  generalize (fieldsL s.data.toList).1 = F at *
  have HE : Hid (readE s.data.toList = 0) := hE
  clear hE hk hk0 hD
  have B0 : Hid (Below w.heap.size w (outW (outW w))) := two_below w
  have C0 : Hid (ThAt nm (outW (outW w)) w.heap.size (zeroT 0)) := (two_at w).1
  have N0 : Hid (ThAt nm (outW (outW w)) (w.heap.size + 1) (zeroT 0)) := (two_at w).2
  go_enter Tryz.func22, Tryz.ntmps22
  go_wp2_with fail
  refine (RD _).mono ?_
  rintro e w1 (⟨e0, _, _⟩ | ⟨_, n0, fb, bm, tv, rfl, hn0, b1, F1⟩)
  · exact absurd HE.out e0
  · have C1 : Hid (ThAt nm w1 w.heap.size (zeroT 0)) := C0.out.still b1
    have N1 : Hid (ThAt nm w1 (w.heap.size + 1) (zeroT 0)) := N0.out.still b1
    have HB1 : Hid (Below w.heap.size w w1) := B0.out.trans (b1.mono B0.out.size)
    have K1 := kind_yes F1 _ true LK
    have BG1 := BG w1
    generalize textOf F 35 = tk at *
    clear b1 RD F1 BG
    go_wp2_with fail
    refine K1.mono ?_
    rintro e w2 ⟨rfl, rfl⟩
    go_wp2_with fail
    refine BG1.mono ?_
    rintro e w3 ⟨rfl, b3⟩
    have C3 : Hid (ThAt nm w3 w.heap.size (zeroT 0)) := C1.out.still b3
    have HB3 : Hid (Below w.heap.size w w3) := HB1.out.trans (b3.mono HB1.out.size)
    obtain ⟨g0, g1, g2, g3, g4, g5, g6⟩ := ThAt.zero (N1.out.still b3)
    obtain ⟨r0, r1, r2, r3, r4, r5, r6⟩ := ThAt.zero C3.out
    have z := C3.out.fz
    clear K1 BG1 b3
    have P : Hid (ThAt nm (put0 (put0 w3 w.heap.size) w.heap.size) w.heap.size (zeroT 0)) := put_at (put_at C3.out (zeroT 0)) (zeroT 0)
    have PB : Hid (But (fun j => j = w.heap.size) w3 (put0 (put0 w3 w.heap.size) w.heap.size)) := (put_but w3 w.heap.size (zeroT 0)).trans (put_but _ w.heap.size (zeroT 0)) (fun _ _ e => e)
    go_wp2_with fail
    have P' := P.out
    have PB' := PB.out
    unfold put0 at P' PB'
    clear P PB
    generalize hW9 : World.setCell _ ⟨w.heap.size, 6, none⟩ _ = W9 at *
    obtain ⟨p0, p1, p2, p3, p4, p5, p6⟩ := ThAt.zero P'
    refine bodyPost_ret (v := .tuple #[.agg #[.int .i64 0, .int .i64 0, .string ⟨#[]⟩, .string ⟨#[]⟩, .int .i64 0, .int .i64 0, .string ⟨#[]⟩], .int .i64 35, .int .i64 120]) (by simp [results, Tryz.results22, go_sem, p0, p1, p2, p3, p4, p5, p6]) rfl ?_
    exact ⟨zeroT 0, by rw [HD.out]; rfl, zero_same (by rw [HD.out]; simp), HB3.out.trans (PB'.below HB3.out.size (fun i e => by have e' : i = w.heap.size := e; omega))⟩
set_option maxRecDepth 100000 in
set_option maxHeartbeats 16000000 in
theorem decode_main (s : ByteArray) (w : World) (hs : s.size ≤ 1000000) (hl : Let w) (hE : readE s.data.toList = 0) (hk : (begK (textOf (fieldsL s.data.toList).1 35)).2 = true) :
    Calls Tryz.prog 22 #[.string s, .func (.func 23) #[] #[], .func (.func 24) #[] #[]] w (DecOk s.data.toList w) := by
  have RD := fun w => read_any s w hs
  have LK := kind_text hE
  have SM := small_fields s.data.toList
  obtain ⟨RG, h64⟩ := fields_range s.data.toList
  have BG := fun w => begin_any (textOf (fieldsL s.data.toList).1 35) w
  obtain ⟨F, hF⟩ : ∃ F, (fieldsL s.data.toList).1 = F := ⟨_, rfl⟩
  have HDT : Hid (decT s.data.toList = decE F) := by
    show decT s.data.toList = _
    unfold decT
    rw [if_neg (by omega), hF]
  have HAK : Hid ((decT s.data.toList).2 = 0 → decA s.data.toList = tolds (listK (decK F)) F (zeroT (decK F))) := fun h => by
    unfold decA
    rw [if_pos h, hF]
  rw [hF] at RD LK SM RG h64 BG hk
  have RT : ∀ t ∈ F.map Prod.fst, -9223372036854775808 ≤ t ∧ t ≤ 9223372036854775807 := fun t ht => by
    obtain ⟨f, hf, rfl⟩ := List.mem_map.1 ht
    have := RG f hf
    omega
  obtain ⟨k, hkk⟩ : ∃ k, (begK (textOf F 35)).1 = k := ⟨_, rfl⟩
  have RE : Hid (∀ {n0 : Nat} {w : World} {fb bm n b : Nat} {tv : Value}, Frm n0 w fb bm n tv (F.map Prod.fst) (lookF F) 0 0 → n ≤ 900 → ThAt nm w b (zeroT k) → b ≠ fb → b ≠ bm → tv.ownBlock ≠ some b → Let w → (∀ j, ThreeB fb bm b j → j ≠ 1) → Calls Tryz.prog 37 #[.pointer (some ⟨fb, 0, none⟩), .pointer (some ⟨b, 0, none⟩), .func (.func 24) #[] #[]] w (ReadOk F w fb bm b)) := fun h hn hb nf nb nt hl wl => read_dec h hn SM RT hk (by rw [hkk]; exact hb) nf nb nt hl wl
  rw [hkk, hk] at BG
  have HE : Hid (readE s.data.toList = 0) := hE
  have H64 : Hid (F.length ≤ 64) := h64
  have HL : Hid (Let w) := hl
  clear hE hk hF RG RT SM h64 hkk hl
  have B0 : Hid (Below w.heap.size w (outW (outW w))) := two_below w
  have C0 : Hid (ThAt nm (outW (outW w)) w.heap.size (zeroT 0)) := (two_at w).1
  have N0 : Hid (ThAt nm (outW (outW w)) (w.heap.size + 1) (zeroT 0)) := (two_at w).2
  go_enter Tryz.func22, Tryz.ntmps22
  go_wp2_with fail
  refine (RD _).mono ?_
  rintro e w1 (⟨e0, _, _⟩ | ⟨_, n0, fb, bm, tv, rfl, hn0, b1, F1⟩)
  · exact absurd HE.out e0
  · have C1 : Hid (ThAt nm w1 w.heap.size (zeroT 0)) := C0.out.still b1
    have N1 : Hid (ThAt nm w1 (w.heap.size + 1) (zeroT 0)) := N0.out.still b1
    have HB1 : Hid (Below w.heap.size w w1) := B0.out.trans (b1.mono B0.out.size)
    have K1 := kind_yes F1 _ true LK
    have BG1 := BG w1
    have LF : Hid (w.heap.size + 2 ≤ n0) := by
      show w.heap.size + 2 ≤ n0
      have := hn0
      simp at this
      omega
    have HF1 : Hid (Frm n0 w1 fb bm F.length tv (F.map Prod.fst) (lookF F) 0 0) := F1
    generalize textOf F 35 = tk at *
    clear b1 RD F1 BG LK hn0
    go_wp2_with fail
    refine K1.mono ?_
    rintro e w2 ⟨rfl, rfl⟩
    go_wp2_with fail
    refine BG1.mono ?_
    rintro e w3 ⟨rfl, b3⟩
    have C3 : ThAt nm w3 w.heap.size (zeroT 0) := C1.out.still b3
    have N3 : ThAt nm w3 (w.heap.size + 1) (zeroT 0) := N1.out.still b3
    have HB3 : Hid (Below w.heap.size w w3) := HB1.out.trans (b3.mono HB1.out.size)
    have F3 := HF1.out.still b3
    have PB3 := put_but w3 w.heap.size (zeroT k)
    have C4 := put_at C3 (zeroT k)
    have HB4 : Hid (Below w.heap.size w (put7 w3 w.heap.size (zeroT k))) := HB3.out.trans (PB3.below HB3.out.size (fun i e => by have e' : i = w.heap.size := e; omega))
    have HN4 : Hid (ThAt nm (put7 w3 w.heap.size (zeroT k)) (w.heap.size + 1) (zeroT 0)) := N3.but PB3 (fun e => by have e' : w.heap.size + 1 = w.heap.size := e; omega)
    have lof : n0 ≤ fb := F3.lof
    have lom : n0 ≤ bm := F3.lom
    have HLO : Hid (n0 ≤ fb ∧ n0 ≤ bm) := ⟨lof, lom⟩
    have RE4 := RE.out (F3.keepS PB3 (fun e => by have e' : fb = w.heap.size := e; have := LF.out; omega) (fun e => by have e' : bm = w.heap.size := e; have := LF.out; omega) (fun g hg e => by have e' : g = w.heap.size := e; have := (F3.own.lt g hg).1; have := LF.out; omega)) (by have := H64.out; omega) C4 (by have := LF.out; omega) (by have := LF.out; omega) (fun e => by have := (F3.own.lt _ e).1; have := LF.out; omega) (HL.out.still HB4.out) (fun j e => by have lg : 1 < w.heap.size := World.block_lt_of_cell? _ _ (HL.out.at (K := 0) (by omega)); have := LF.out; rcases e with e | e | e <;> omega)
    obtain ⟨r0, r1, r2, r3, r4, r5, r6⟩ := ThAt.zero C3
    have z := C3.fz
    unfold put7 at RE4
    rw [show (zeroT k).2 0 = k from rfl] at RE4
    simp only [zero_1, zero_2 k] at RE4
    clear K1 BG1 b3 F3 C3 N3 C4 PB3 lof lom
    go_wp2_with fail
    refine RE4.mono ?_
    rintro e w5 ⟨u, rfl, hT, hS, hB⟩
    have hB' : But (ThreeB fb bm w.heap.size) (put7 w3 w.heap.size (zeroT k)) w5 := hB
    have HB5 : Hid (Below w.heap.size w w5) := HB4.out.trans (hB'.below HB4.out.size (fun i e => by have := HLO.out; have := LF.out; rcases e with e | e | e <;> omega))
    have N5 := HN4.out.but hB' (fun e => by have := HLO.out; have := LF.out; rcases e with e | e | e <;> omega)
    have HT5 : Hid (ThAt nm w5 w.heap.size u) := hT
    have HS5 : Hid ((decE F).2 = 0 → Same u (decA s.data.toList)) := fun h => by rw [HAK.out (by rw [HDT.out]; exact h)]; exact hS h
    have HZ5 : Hid ((decE F).2 = 0 → decT s.data.toList = (0, 0)) := fun h => (decT_zero (by rw [HDT.out]; exact h)).1
    obtain ⟨DT, DE, hDD⟩ : ∃ DT DE, decE F = (DT, DE) := ⟨_, _, rfl⟩
    rw [hDD] at HDT HS5 HZ5 ⊢
    dsimp only at HS5 HZ5 ⊢
    clear r0 r1 r2 r3 r4 r5 r6 z RE4 hB hB' hT hS hDD
    obtain ⟨r0, r1, r2, r3, r4, r5, r6⟩ := ThAt.all HT5.out
    have z := HT5.out.fz
    by_cases hDE : DE = 0
    case neg =>
      have te : (DE == 0) = false := beq_false_of_ne hDE
      have HN : Hid (DE ≠ 0) := hDE
      clear hDE
      obtain ⟨g0, g1, g2, g3, g4, g5, g6⟩ := ThAt.zero N5
      have P : Hid (ThAt nm (put0 w5 w.heap.size) w.heap.size (zeroT 0)) := put_at HT5.out (zeroT 0)
      have PB : Hid (But (fun j => j = w.heap.size) w5 (put0 w5 w.heap.size)) := put_but w5 w.heap.size (zeroT 0)
      clear N5
      go_wp2_with fail
      have P' := P.out
      have PB' := PB.out
      unfold put0 at P' PB'
      clear P PB
      generalize hW9 : World.setCell _ ⟨w.heap.size, 6, none⟩ _ = W9 at *
      obtain ⟨p0, p1, p2, p3, p4, p5, p6⟩ := ThAt.zero P'
      refine bodyPost_ret (v := .tuple #[.agg #[.int .i64 0, .int .i64 0, .string ⟨#[]⟩, .string ⟨#[]⟩, .int .i64 0, .int .i64 0, .string ⟨#[]⟩], .int .i64 DT, .int .i64 DE]) (by simp [results, Tryz.results22, go_sem, p0, p1, p2, p3, p4, p5, p6]) rfl ?_
      exact ⟨zeroT 0, by rw [HDT.out]; rfl, zero_same (by rw [HDT.out]; exact HN.out), HB5.out.trans (PB'.below HB5.out.size (fun i e => by have e' : i = w.heap.size := e; omega))⟩
    case pos =>
      have HSM : Hid (Same u (decA s.data.toList)) := HS5.out hDE
      have HZ : Hid (decT s.data.toList = (0, 0)) := HZ5.out hDE
      subst hDE
      have P : Hid (ThAt nm (put7 w5 w.heap.size u) w.heap.size u) := put_at HT5.out u
      have PB : Hid (But (fun j => j = w.heap.size) w5 (put7 w5 w.heap.size u)) := put_but w5 w.heap.size u
      clear N5
      go_wp2_with fail
      have P' := P.out
      have PB' := PB.out
      unfold put7 at P' PB'
      clear P PB
      generalize hW9 : World.setCell _ ⟨w.heap.size, 6, none⟩ _ = W9 at *
      obtain ⟨p0, p1, p2, p3, p4, p5, p6⟩ := ThAt.all P'
      refine bodyPost_ret (v := .tuple #[.agg #[.int .i64 (u.2 0), .int .i64 (u.2 1), .string (u.1 2), .string (u.1 3), .int .i64 (u.2 4), .int .i64 (u.2 5), .string (u.1 6)], .int .i64 0, .int .i64 0]) (by simp [results, Tryz.results22, go_sem, p0, p1, p2, p3, p4, p5, p6]) rfl ?_
      exact ⟨u, by rw [HZ.out]; rfl, HSM.out, HB5.out.trans (PB'.below HB5.out.size (fun i e => by have e' : i = w.heap.size := e; omega))⟩
theorem dec_any (s : ByteArray) (w : World) (hs : s.size ≤ 1000000) (hl : Let w) : Calls Tryz.prog 22 #[.string s, .func (.func 23) #[] #[], .func (.func 24) #[] #[]] w (DecOk s.data.toList w) := by
  by_cases hE : readE s.data.toList = 0
  · cases hk : (begK (textOf (fieldsL s.data.toList).1 35)).2 with
    | true => exact decode_main s w hs hl hE hk
    | false =>
      generalize hT : textOf (fieldsL s.data.toList).1 35 = T at hk
      have n8 : T ≠ ⟨#[56]⟩ := fun e => by unfold begK at hk; rw [if_pos e] at hk; simp at hk
      have n9 : T ≠ ⟨#[57]⟩ := fun e => by unfold begK at hk; rw [if_neg n8, if_pos e] at hk; simp at hk
      have b0 : begK T = (0, false) := by unfold begK; rw [if_neg n8, if_neg n9]
      exact decode_kind s w hs hE (by rw [hT, b0]) (by rw [hT, b0]) (by unfold decE; rw [hT, if_neg n9, if_neg n8])
  · exact decode_read s w hs hE
set_option maxRecDepth 100000 in
set_option maxHeartbeats 8000000 in
theorem decode_any (s : ByteArray) (w : World) (hs : s.size ≤ 1000000) (hl : Let w) : Calls Tryz.prog 7 #[.string s] w (DecOk s.data.toList w) := by
  have B0 : Hid (Below w.heap.size w (outW w)) := out_below w
  have C0 : Hid (ThAt nm (outW w) w.heap.size (zeroT 0)) := out_at w
  have D := dec_any s (outW w) hs (hl.still B0.out)
  clear hl hs
  go_enter Tryz.func7, Tryz.ntmps7
  go_wp2_with fail
  refine D.mono ?_
  rintro e w1 ⟨u, rfl, hS, b1⟩
  have HS : Hid (Same u (decA s.data.toList)) := hS
  have C1 : Hid (ThAt nm w1 w.heap.size (zeroT 0)) := C0.out.still b1
  have HB1 : Hid (Below w.heap.size w w1) := B0.out.trans (b1.mono B0.out.size)
  obtain ⟨DT, DE, hDD⟩ : ∃ DT DE, decT s.data.toList = (DT, DE) := ⟨_, _, rfl⟩
  have HD : Hid (decT s.data.toList = (DT, DE)) := hDD
  rw [hDD]
  dsimp only
  unfold thV
  clear D hS b1 hDD
  obtain ⟨r0, r1, r2, r3, r4, r5, r6⟩ := ThAt.zero C1.out
  have z := C1.out.fz
  have P : Hid (ThAt nm (put7 w1 w.heap.size u) w.heap.size u) := put_at C1.out u
  have PB : Hid (But (fun j => j = w.heap.size) w1 (put7 w1 w.heap.size u)) := put_but w1 w.heap.size u
  go_wp2_with fail
  have P' := P.out
  have PB' := PB.out
  unfold put7 at P' PB'
  clear P PB
  generalize hW9 : World.setCell _ ⟨w.heap.size, 6, none⟩ _ = W9 at *
  obtain ⟨p0, p1, p2, p3, p4, p5, p6⟩ := ThAt.all P'
  refine bodyPost_ret (v := .tuple #[.agg #[.int .i64 (u.2 0), .int .i64 (u.2 1), .string (u.1 2), .string (u.1 3), .int .i64 (u.2 4), .int .i64 (u.2 5), .string (u.1 6)], .int .i64 DT, .int .i64 DE]) (by simp [results, Tryz.results7, go_sem, p0, p1, p2, p3, p4, p5, p6]) rfl ?_
  exact ⟨u, by rw [HD.out]; rfl, HS.out, HB1.out.trans (PB'.below HB1.out.size (fun i e => by have e' : i = w.heap.size := e; omega))⟩
end Go.Proofs.YtdbkoflejimibaaGreatDoor.PP.R
