/-
  A form that is read beside a block that holds an ask: what each ask for a field, and each store into the ask, does to both.
-/
import Derived.Test.YtepkmbpadhfbmaaGreatDoorGF
import Derived.Test.YtepkmbpadhfbmaaGreatDoorGE
import Derived.Test.YtepkmbpadhfbmaaGreatDoorGA
import Derived.Test.YtepkmbpadhfbmaaGreatDoorGD
namespace Go.Proofs.YtepkmbpadhfbmaaGreatDoor
open Go.ChangeShapes Go.WideShapes Go.ChangeAt Go.RowKit Go.Lib

theorem Frm.keepS {n0 : Nat} {w w' : World} {fb bm n : Nat} {tv : Value} {tags : List Int} {L : Int → Option (ByteArray × Bool)} {at_ e : Int} {S : Nat → Prop} (h : Frm n0 w fb bm n tv tags L at_ e) (k : But S w w') (h1 : ¬ S fb) (h2 : ¬ S bm) (h3 : ∀ g, tv.ownBlock = some g → ¬ S g) : Frm n0 w' fb bm n tv tags L at_ e where
  c0 := (k.cell h.lt h1).trans h.c0
  c1 := (k.cell h.lt h1).trans h.c1
  c2 := (k.cell h.lt h1).trans h.c2
  c3 := (k.cell h.lt h1).trans h.c3
  f1 := (k.frozen h.lt h1).trans h.f1
  f2 := (k.frozen h.lt h1).trans h.f2
  f3 := (k.frozen h.lt h1).trans h.f3
  map := h.map.kept k h2
  own := own_kept h.own k h3
  lof := h.lof
  lom := h.lom
  ne := h.ne
  nf := h.nf
/-- No text of a form is too long. -/
def SmallL (L : Int → Option (ByteArray × Bool)) : Prop := ∀ t s b, L t = some (s, b) → s.size ≤ 1000000
theorem small_step {x : StP} (h : SmallL x.1) (p : Int × Want) : SmallL (stepW x p).1 := by
  unfold stepW
  by_cases he : x.2.2 = 0
  · rw [he]
    cases hL : x.1 p.1 with
    | none => rw [askS_miss _ hL]; exact h
    | some q =>
      obtain ⟨s, b⟩ := q
      by_cases hs : p.2.err s = 0
      · rw [askS_good hL hs]
        intro t s' b' e
        by_cases ht : t = p.1
        · subst ht
          dsimp only at e
          rw [updI_same] at e
          simp only [Option.some.injEq, Prod.mk.injEq] at e
          rw [← e.1]
          exact h _ _ _ hL
        · dsimp only at e
          rw [updI_other _ _ ht] at e
          exact h _ _ _ e
      · rw [askS_bad hL hs]; exact h
  · rw [askS_err _ he]; exact h
def Three (fb bm b : Nat) (k : Nat) : Prop := k = fb ∨ k = bm ∨ k = b
/-- A form at fb and an ask at block b; all but these is as in w0. -/
structure St (w0 : World) (n0 : Nat) (w : World) (fb bm b n : Nat) (tv : Value) (tags : List Int) (x : StP) (k : Int) (i t c s : ByteArray) (sd q p al st en ra sh : Int) (cv : Value) (cz : List Int) : Prop where
  frm : Frm n0 w fb bm n tv tags x.1 x.2.1 x.2.2
  small : SmallL x.1
  ask : AskAt w b k i t c s sd q p al st en ra sh cv
  fz : ∀ j, w.frozen? ⟨b, j, none⟩ = false
  nf : b ≠ fb
  nm : b ≠ bm
  nt : tv.ownBlock ≠ some b
  own : ∃ base, fb < base ∧ bm < base ∧ b < base ∧ w.ownsRow base 3 1 cv cz.length (its cz)
  but : But (Three fb bm b) w0 w
theorem St.asked {w0 : World} {n0 : Nat} {w w' : World} {fb bm b n n' : Nat} {tv : Value} {tags : List Int} {x y : StP} {k : Int} {i t c s : ByteArray} {sd q p al st en ra sh : Int} {cv : Value} {cz : List Int} (h : St w0 n0 w fb bm b n tv tags x k i t c s sd q p al st en ra sh cv cz) (hF : Frm n0 w' fb bm n' tv tags y.1 y.2.1 y.2.2) (hs : SmallL y.1) (hB : But (Two fb bm) w w') : St w0 n0 w' fb bm b n' tv tags y k i t c s sd q p al st en ra sh cv cz := by
  have nb : ¬ Two fb bm b := fun e => e.elim h.nf h.nm
  have lb := h.ask.lt
  obtain ⟨base, o1, o2, o3, own⟩ := h.own
  refine ⟨hF, hs, ?_, fun j => (hB.frozen lb nb).trans (h.fz j), h.nf, h.nm, h.nt, ⟨base, o1, o2, o3, own_kept own hB (fun g hg e => ?_)⟩, h.but.trans hB (fun i _ e => e.elim .inl (fun e => .inr (.inl e)))⟩
  · obtain ⟨d0, d1, d2, d3, d4, d5, d6, d7, d8, d9, d10, d11, d12, d13⟩ := h.ask
    exact ⟨(hB.cell lb nb).trans d0, (hB.cell lb nb).trans d1, (hB.cell lb nb).trans d2, (hB.cell lb nb).trans d3, (hB.cell lb nb).trans d4, (hB.cell lb nb).trans d5, (hB.cell lb nb).trans d6, (hB.cell lb nb).trans d7, (hB.cell lb nb).trans d8, (hB.cell lb nb).trans d9, (hB.cell lb nb).trans d10, (hB.cell lb nb).trans d11, (hB.cell lb nb).trans d12, (hB.cell lb nb).trans d13⟩
  · have := (own.lt g hg).1
    rcases e with rfl | rfl <;> omega
theorem St.name {w0 : World} {n0 : Nat} {w : World} {fb bm b n : Nat} {tv : Value} {tags : List Int} {x : StP} {k : Int} {i t c s : ByteArray} {sd q p al st en ra sh : Int} {cv : Value} {cz : List Int} (h : St w0 n0 w fb bm b n tv tags x k i t c s sd q p al st en ra sh cv cz) (hn : n ≤ 1000000) (t' : Int) (h1 : 0 ≤ t') (h2 : t' ≤ 99999) :
    Calls Tryz.prog 60 #[.pointer (some ⟨fb, 0, none⟩), .int .i64 t'] w fun e w' => ∃ v, e = .returned (.string v) ∧ v = askV x.1 x.2.2 t' nameVE id ⟨#[]⟩ ∧ St w0 n0 w' fb bm b (n + 1) tv tags (stepW x (t', .name)) k i t c s sd q p al st en ra sh cv cz := by
  refine (name_any h.frm hn t' (by omega) (by omega)).mono ?_
  rintro e w' ⟨v, rfl, hv, hF, hB⟩
  exact ⟨v, rfl, hv, h.asked (y := stepW x (t', .name)) hF (small_step h.small _) hB⟩
theorem St.int {w0 : World} {n0 : Nat} {w : World} {fb bm b n : Nat} {tv : Value} {tags : List Int} {x : StP} {k : Int} {i t c s : ByteArray} {sd q p al st en ra sh : Int} {cv : Value} {cz : List Int} (h : St w0 n0 w fb bm b n tv tags x k i t c s sd q p al st en ra sh cv cz) (hn : n ≤ 1000000) (t' lo hi : Int) (h1 : 0 ≤ t') (h2 : t' ≤ 99999) :
    Calls Tryz.prog 63 #[.pointer (some ⟨fb, 0, none⟩), .int .i64 t', .int .i64 lo, .int .i64 hi] w fun e w' => ∃ v, e = .returned (.int .i64 v) ∧ v = askV x.1 x.2.2 t' (fun s => (intVE s lo hi).2) (fun s => ((intVE s lo hi).1 : Int)) 0 ∧ St w0 n0 w' fb bm b (n + 1) tv tags (stepW x (t', .int lo hi)) k i t c s sd q p al st en ra sh cv cz := by
  refine (int_any h.frm hn t' (by omega) (by omega) (h.small t') lo hi).mono ?_
  rintro e w' ⟨v, rfl, hv, hF, hB⟩
  exact ⟨v, rfl, hv, h.asked (y := stepW x (t', .int lo hi)) hF (small_step h.small _) hB⟩
theorem nts_its (L : List Nat) : nts L = its (L.map fun n : Nat => (n : Int)) := by simp [nts, its]
theorem St.ints {w0 : World} {n0 : Nat} {w : World} {fb bm b n : Nat} {tv : Value} {tags : List Int} {x : StP} {k : Int} {i t c s : ByteArray} {sd q p al st en ra sh : Int} {cv : Value} {cz : List Int} (h : St w0 n0 w fb bm b n tv tags x k i t c s sd q p al st en ra sh cv cz) (hn : n ≤ 1000000) (t' most lo hi : Int) (h1 : 0 ≤ t') (h2 : t' ≤ 99999) :
    Calls Tryz.prog 77 #[.pointer (some ⟨fb, 0, none⟩), .int .i64 t', .int .i64 most, .int .i64 lo, .int .i64 hi] w fun e w' => ∃ a j d base, ∃ L : List Nat, e = .returned (.slice a j d) ∧ L = askV x.1 x.2.2 t' (fun s => (intsVE s most lo hi).2) (fun s => (intsVE s most lo hi).1) [] ∧ fb < base ∧ bm < base ∧ b < base ∧ w'.ownsRow base 3 1 (.slice a j d) (L.map fun n : Nat => (n : Int)).length (its (L.map fun n : Nat => (n : Int))) ∧ St w0 n0 w' fb bm b (n + 1) tv tags (stepW x (t', .ints most lo hi)) k i t c s sd q p al st en ra sh cv cz := by
  refine (ints_any h.frm hn t' (by omega) (by omega) (h.small t') most lo hi).mono ?_
  rintro e w' ⟨a, j, d, rfl, hO, hF, hB⟩
  have hS := h.asked (y := stepW x (t', .ints most lo hi)) hF (small_step h.small _) hB
  refine ⟨a, j, d, w.heap.size, _, rfl, rfl, h.frm.lt, h.frm.map.lt, h.ask.lt, ?_, hS⟩
  rw [nts_its] at hO
  rw [List.length_map]
  exact hO
theorem St.set2 {w0 : World} {n0 : Nat} {w : World} {fb bm b n : Nat} {tv : Value} {tags : List Int} {x : StP} {k : Int} {i t c s : ByteArray} {sd q p al st en ra sh : Int} {cv : Value} {cz : List Int} (h : St w0 n0 w fb bm b n tv tags x k i t c s sd q p al st en ra sh cv cz) (y : ByteArray) : St w0 n0 (w.setCell ⟨b, 2, none⟩ (.string y)) fb bm b n tv tags x k i y c s sd q p al st en ra sh cv cz := by
  have hB : But (fun k => k = b) w (w.setCell ⟨b, 2, none⟩ (.string y)) := (But.refl _ w).setCell b 2 _ (fun _ => rfl)
  obtain ⟨d0, d1, d2, d3, d4, d5, d6, d7, d8, d9, d10, d11, d12, d13⟩ := h.ask
  obtain ⟨base, o1, o2, o3, hO⟩ := h.own
  refine ⟨h.frm.keepS hB (fun e => h.nf e.symm) (fun e => h.nm e.symm) (fun g hg e => h.nt (by rw [hg, e])), h.small, ?_, fun i => by rw [World.frozen?_setCell]; exact h.fz i, h.nf, h.nm, h.nt, ⟨base, o1, o2, o3, own_kept hO hB (fun g hg e => by have := (hO.lt g hg).1; omega)⟩, h.but.setCell b 2 _ (fun _ => .inr (.inr rfl))⟩
  refine ⟨(World.cell?_setCell_other _ _ _ _ (by simp)).trans d0, (World.cell?_setCell_other _ _ _ _ (by simp)).trans d1, World.cell?_setCell_same _ _ _ d2, (World.cell?_setCell_other _ _ _ _ (by simp)).trans d3, (World.cell?_setCell_other _ _ _ _ (by simp)).trans d4, (World.cell?_setCell_other _ _ _ _ (by simp)).trans d5, (World.cell?_setCell_other _ _ _ _ (by simp)).trans d6, (World.cell?_setCell_other _ _ _ _ (by simp)).trans d7, (World.cell?_setCell_other _ _ _ _ (by simp)).trans d8, (World.cell?_setCell_other _ _ _ _ (by simp)).trans d9, (World.cell?_setCell_other _ _ _ _ (by simp)).trans d10, (World.cell?_setCell_other _ _ _ _ (by simp)).trans d11, (World.cell?_setCell_other _ _ _ _ (by simp)).trans d12, (World.cell?_setCell_other _ _ _ _ (by simp)).trans d13⟩
theorem St.set3 {w0 : World} {n0 : Nat} {w : World} {fb bm b n : Nat} {tv : Value} {tags : List Int} {x : StP} {k : Int} {i t c s : ByteArray} {sd q p al st en ra sh : Int} {cv : Value} {cz : List Int} (h : St w0 n0 w fb bm b n tv tags x k i t c s sd q p al st en ra sh cv cz) (y : ByteArray) : St w0 n0 (w.setCell ⟨b, 3, none⟩ (.string y)) fb bm b n tv tags x k i t y s sd q p al st en ra sh cv cz := by
  have hB : But (fun k => k = b) w (w.setCell ⟨b, 3, none⟩ (.string y)) := (But.refl _ w).setCell b 3 _ (fun _ => rfl)
  obtain ⟨d0, d1, d2, d3, d4, d5, d6, d7, d8, d9, d10, d11, d12, d13⟩ := h.ask
  obtain ⟨base, o1, o2, o3, hO⟩ := h.own
  refine ⟨h.frm.keepS hB (fun e => h.nf e.symm) (fun e => h.nm e.symm) (fun g hg e => h.nt (by rw [hg, e])), h.small, ?_, fun i => by rw [World.frozen?_setCell]; exact h.fz i, h.nf, h.nm, h.nt, ⟨base, o1, o2, o3, own_kept hO hB (fun g hg e => by have := (hO.lt g hg).1; omega)⟩, h.but.setCell b 3 _ (fun _ => .inr (.inr rfl))⟩
  refine ⟨(World.cell?_setCell_other _ _ _ _ (by simp)).trans d0, (World.cell?_setCell_other _ _ _ _ (by simp)).trans d1, (World.cell?_setCell_other _ _ _ _ (by simp)).trans d2, World.cell?_setCell_same _ _ _ d3, (World.cell?_setCell_other _ _ _ _ (by simp)).trans d4, (World.cell?_setCell_other _ _ _ _ (by simp)).trans d5, (World.cell?_setCell_other _ _ _ _ (by simp)).trans d6, (World.cell?_setCell_other _ _ _ _ (by simp)).trans d7, (World.cell?_setCell_other _ _ _ _ (by simp)).trans d8, (World.cell?_setCell_other _ _ _ _ (by simp)).trans d9, (World.cell?_setCell_other _ _ _ _ (by simp)).trans d10, (World.cell?_setCell_other _ _ _ _ (by simp)).trans d11, (World.cell?_setCell_other _ _ _ _ (by simp)).trans d12, (World.cell?_setCell_other _ _ _ _ (by simp)).trans d13⟩
theorem St.set4 {w0 : World} {n0 : Nat} {w : World} {fb bm b n : Nat} {tv : Value} {tags : List Int} {x : StP} {k : Int} {i t c s : ByteArray} {sd q p al st en ra sh : Int} {cv : Value} {cz : List Int} (h : St w0 n0 w fb bm b n tv tags x k i t c s sd q p al st en ra sh cv cz) (y : ByteArray) : St w0 n0 (w.setCell ⟨b, 4, none⟩ (.string y)) fb bm b n tv tags x k i t c y sd q p al st en ra sh cv cz := by
  have hB : But (fun k => k = b) w (w.setCell ⟨b, 4, none⟩ (.string y)) := (But.refl _ w).setCell b 4 _ (fun _ => rfl)
  obtain ⟨d0, d1, d2, d3, d4, d5, d6, d7, d8, d9, d10, d11, d12, d13⟩ := h.ask
  obtain ⟨base, o1, o2, o3, hO⟩ := h.own
  refine ⟨h.frm.keepS hB (fun e => h.nf e.symm) (fun e => h.nm e.symm) (fun g hg e => h.nt (by rw [hg, e])), h.small, ?_, fun i => by rw [World.frozen?_setCell]; exact h.fz i, h.nf, h.nm, h.nt, ⟨base, o1, o2, o3, own_kept hO hB (fun g hg e => by have := (hO.lt g hg).1; omega)⟩, h.but.setCell b 4 _ (fun _ => .inr (.inr rfl))⟩
  refine ⟨(World.cell?_setCell_other _ _ _ _ (by simp)).trans d0, (World.cell?_setCell_other _ _ _ _ (by simp)).trans d1, (World.cell?_setCell_other _ _ _ _ (by simp)).trans d2, (World.cell?_setCell_other _ _ _ _ (by simp)).trans d3, World.cell?_setCell_same _ _ _ d4, (World.cell?_setCell_other _ _ _ _ (by simp)).trans d5, (World.cell?_setCell_other _ _ _ _ (by simp)).trans d6, (World.cell?_setCell_other _ _ _ _ (by simp)).trans d7, (World.cell?_setCell_other _ _ _ _ (by simp)).trans d8, (World.cell?_setCell_other _ _ _ _ (by simp)).trans d9, (World.cell?_setCell_other _ _ _ _ (by simp)).trans d10, (World.cell?_setCell_other _ _ _ _ (by simp)).trans d11, (World.cell?_setCell_other _ _ _ _ (by simp)).trans d12, (World.cell?_setCell_other _ _ _ _ (by simp)).trans d13⟩
theorem St.set5 {w0 : World} {n0 : Nat} {w : World} {fb bm b n : Nat} {tv : Value} {tags : List Int} {x : StP} {k : Int} {i t c s : ByteArray} {sd q p al st en ra sh : Int} {cv : Value} {cz : List Int} (h : St w0 n0 w fb bm b n tv tags x k i t c s sd q p al st en ra sh cv cz) (y : Int) : St w0 n0 (w.setCell ⟨b, 5, none⟩ (.int .i64 y)) fb bm b n tv tags x k i t c s y q p al st en ra sh cv cz := by
  have hB : But (fun k => k = b) w (w.setCell ⟨b, 5, none⟩ (.int .i64 y)) := (But.refl _ w).setCell b 5 _ (fun _ => rfl)
  obtain ⟨d0, d1, d2, d3, d4, d5, d6, d7, d8, d9, d10, d11, d12, d13⟩ := h.ask
  obtain ⟨base, o1, o2, o3, hO⟩ := h.own
  refine ⟨h.frm.keepS hB (fun e => h.nf e.symm) (fun e => h.nm e.symm) (fun g hg e => h.nt (by rw [hg, e])), h.small, ?_, fun i => by rw [World.frozen?_setCell]; exact h.fz i, h.nf, h.nm, h.nt, ⟨base, o1, o2, o3, own_kept hO hB (fun g hg e => by have := (hO.lt g hg).1; omega)⟩, h.but.setCell b 5 _ (fun _ => .inr (.inr rfl))⟩
  refine ⟨(World.cell?_setCell_other _ _ _ _ (by simp)).trans d0, (World.cell?_setCell_other _ _ _ _ (by simp)).trans d1, (World.cell?_setCell_other _ _ _ _ (by simp)).trans d2, (World.cell?_setCell_other _ _ _ _ (by simp)).trans d3, (World.cell?_setCell_other _ _ _ _ (by simp)).trans d4, World.cell?_setCell_same _ _ _ d5, (World.cell?_setCell_other _ _ _ _ (by simp)).trans d6, (World.cell?_setCell_other _ _ _ _ (by simp)).trans d7, (World.cell?_setCell_other _ _ _ _ (by simp)).trans d8, (World.cell?_setCell_other _ _ _ _ (by simp)).trans d9, (World.cell?_setCell_other _ _ _ _ (by simp)).trans d10, (World.cell?_setCell_other _ _ _ _ (by simp)).trans d11, (World.cell?_setCell_other _ _ _ _ (by simp)).trans d12, (World.cell?_setCell_other _ _ _ _ (by simp)).trans d13⟩
theorem St.set6 {w0 : World} {n0 : Nat} {w : World} {fb bm b n : Nat} {tv : Value} {tags : List Int} {x : StP} {k : Int} {i t c s : ByteArray} {sd q p al st en ra sh : Int} {cv : Value} {cz : List Int} (h : St w0 n0 w fb bm b n tv tags x k i t c s sd q p al st en ra sh cv cz) (y : Int) : St w0 n0 (w.setCell ⟨b, 6, none⟩ (.int .i64 y)) fb bm b n tv tags x k i t c s sd y p al st en ra sh cv cz := by
  have hB : But (fun k => k = b) w (w.setCell ⟨b, 6, none⟩ (.int .i64 y)) := (But.refl _ w).setCell b 6 _ (fun _ => rfl)
  obtain ⟨d0, d1, d2, d3, d4, d5, d6, d7, d8, d9, d10, d11, d12, d13⟩ := h.ask
  obtain ⟨base, o1, o2, o3, hO⟩ := h.own
  refine ⟨h.frm.keepS hB (fun e => h.nf e.symm) (fun e => h.nm e.symm) (fun g hg e => h.nt (by rw [hg, e])), h.small, ?_, fun i => by rw [World.frozen?_setCell]; exact h.fz i, h.nf, h.nm, h.nt, ⟨base, o1, o2, o3, own_kept hO hB (fun g hg e => by have := (hO.lt g hg).1; omega)⟩, h.but.setCell b 6 _ (fun _ => .inr (.inr rfl))⟩
  refine ⟨(World.cell?_setCell_other _ _ _ _ (by simp)).trans d0, (World.cell?_setCell_other _ _ _ _ (by simp)).trans d1, (World.cell?_setCell_other _ _ _ _ (by simp)).trans d2, (World.cell?_setCell_other _ _ _ _ (by simp)).trans d3, (World.cell?_setCell_other _ _ _ _ (by simp)).trans d4, (World.cell?_setCell_other _ _ _ _ (by simp)).trans d5, World.cell?_setCell_same _ _ _ d6, (World.cell?_setCell_other _ _ _ _ (by simp)).trans d7, (World.cell?_setCell_other _ _ _ _ (by simp)).trans d8, (World.cell?_setCell_other _ _ _ _ (by simp)).trans d9, (World.cell?_setCell_other _ _ _ _ (by simp)).trans d10, (World.cell?_setCell_other _ _ _ _ (by simp)).trans d11, (World.cell?_setCell_other _ _ _ _ (by simp)).trans d12, (World.cell?_setCell_other _ _ _ _ (by simp)).trans d13⟩
theorem St.set7 {w0 : World} {n0 : Nat} {w : World} {fb bm b n : Nat} {tv : Value} {tags : List Int} {x : StP} {k : Int} {i t c s : ByteArray} {sd q p al st en ra sh : Int} {cv : Value} {cz : List Int} (h : St w0 n0 w fb bm b n tv tags x k i t c s sd q p al st en ra sh cv cz) (y : Int) : St w0 n0 (w.setCell ⟨b, 7, none⟩ (.int .i64 y)) fb bm b n tv tags x k i t c s sd q y al st en ra sh cv cz := by
  have hB : But (fun k => k = b) w (w.setCell ⟨b, 7, none⟩ (.int .i64 y)) := (But.refl _ w).setCell b 7 _ (fun _ => rfl)
  obtain ⟨d0, d1, d2, d3, d4, d5, d6, d7, d8, d9, d10, d11, d12, d13⟩ := h.ask
  obtain ⟨base, o1, o2, o3, hO⟩ := h.own
  refine ⟨h.frm.keepS hB (fun e => h.nf e.symm) (fun e => h.nm e.symm) (fun g hg e => h.nt (by rw [hg, e])), h.small, ?_, fun i => by rw [World.frozen?_setCell]; exact h.fz i, h.nf, h.nm, h.nt, ⟨base, o1, o2, o3, own_kept hO hB (fun g hg e => by have := (hO.lt g hg).1; omega)⟩, h.but.setCell b 7 _ (fun _ => .inr (.inr rfl))⟩
  refine ⟨(World.cell?_setCell_other _ _ _ _ (by simp)).trans d0, (World.cell?_setCell_other _ _ _ _ (by simp)).trans d1, (World.cell?_setCell_other _ _ _ _ (by simp)).trans d2, (World.cell?_setCell_other _ _ _ _ (by simp)).trans d3, (World.cell?_setCell_other _ _ _ _ (by simp)).trans d4, (World.cell?_setCell_other _ _ _ _ (by simp)).trans d5, (World.cell?_setCell_other _ _ _ _ (by simp)).trans d6, World.cell?_setCell_same _ _ _ d7, (World.cell?_setCell_other _ _ _ _ (by simp)).trans d8, (World.cell?_setCell_other _ _ _ _ (by simp)).trans d9, (World.cell?_setCell_other _ _ _ _ (by simp)).trans d10, (World.cell?_setCell_other _ _ _ _ (by simp)).trans d11, (World.cell?_setCell_other _ _ _ _ (by simp)).trans d12, (World.cell?_setCell_other _ _ _ _ (by simp)).trans d13⟩
theorem St.set8 {w0 : World} {n0 : Nat} {w : World} {fb bm b n : Nat} {tv : Value} {tags : List Int} {x : StP} {k : Int} {i t c s : ByteArray} {sd q p al st en ra sh : Int} {cv : Value} {cz : List Int} (h : St w0 n0 w fb bm b n tv tags x k i t c s sd q p al st en ra sh cv cz) (y : Int) : St w0 n0 (w.setCell ⟨b, 8, none⟩ (.int .i64 y)) fb bm b n tv tags x k i t c s sd q p y st en ra sh cv cz := by
  have hB : But (fun k => k = b) w (w.setCell ⟨b, 8, none⟩ (.int .i64 y)) := (But.refl _ w).setCell b 8 _ (fun _ => rfl)
  obtain ⟨d0, d1, d2, d3, d4, d5, d6, d7, d8, d9, d10, d11, d12, d13⟩ := h.ask
  obtain ⟨base, o1, o2, o3, hO⟩ := h.own
  refine ⟨h.frm.keepS hB (fun e => h.nf e.symm) (fun e => h.nm e.symm) (fun g hg e => h.nt (by rw [hg, e])), h.small, ?_, fun i => by rw [World.frozen?_setCell]; exact h.fz i, h.nf, h.nm, h.nt, ⟨base, o1, o2, o3, own_kept hO hB (fun g hg e => by have := (hO.lt g hg).1; omega)⟩, h.but.setCell b 8 _ (fun _ => .inr (.inr rfl))⟩
  refine ⟨(World.cell?_setCell_other _ _ _ _ (by simp)).trans d0, (World.cell?_setCell_other _ _ _ _ (by simp)).trans d1, (World.cell?_setCell_other _ _ _ _ (by simp)).trans d2, (World.cell?_setCell_other _ _ _ _ (by simp)).trans d3, (World.cell?_setCell_other _ _ _ _ (by simp)).trans d4, (World.cell?_setCell_other _ _ _ _ (by simp)).trans d5, (World.cell?_setCell_other _ _ _ _ (by simp)).trans d6, (World.cell?_setCell_other _ _ _ _ (by simp)).trans d7, World.cell?_setCell_same _ _ _ d8, (World.cell?_setCell_other _ _ _ _ (by simp)).trans d9, (World.cell?_setCell_other _ _ _ _ (by simp)).trans d10, (World.cell?_setCell_other _ _ _ _ (by simp)).trans d11, (World.cell?_setCell_other _ _ _ _ (by simp)).trans d12, (World.cell?_setCell_other _ _ _ _ (by simp)).trans d13⟩
theorem St.set9 {w0 : World} {n0 : Nat} {w : World} {fb bm b n : Nat} {tv : Value} {tags : List Int} {x : StP} {k : Int} {i t c s : ByteArray} {sd q p al st en ra sh : Int} {cv : Value} {cz : List Int} (h : St w0 n0 w fb bm b n tv tags x k i t c s sd q p al st en ra sh cv cz) (y : Int) : St w0 n0 (w.setCell ⟨b, 9, none⟩ (.int .i64 y)) fb bm b n tv tags x k i t c s sd q p al y en ra sh cv cz := by
  have hB : But (fun k => k = b) w (w.setCell ⟨b, 9, none⟩ (.int .i64 y)) := (But.refl _ w).setCell b 9 _ (fun _ => rfl)
  obtain ⟨d0, d1, d2, d3, d4, d5, d6, d7, d8, d9, d10, d11, d12, d13⟩ := h.ask
  obtain ⟨base, o1, o2, o3, hO⟩ := h.own
  refine ⟨h.frm.keepS hB (fun e => h.nf e.symm) (fun e => h.nm e.symm) (fun g hg e => h.nt (by rw [hg, e])), h.small, ?_, fun i => by rw [World.frozen?_setCell]; exact h.fz i, h.nf, h.nm, h.nt, ⟨base, o1, o2, o3, own_kept hO hB (fun g hg e => by have := (hO.lt g hg).1; omega)⟩, h.but.setCell b 9 _ (fun _ => .inr (.inr rfl))⟩
  refine ⟨(World.cell?_setCell_other _ _ _ _ (by simp)).trans d0, (World.cell?_setCell_other _ _ _ _ (by simp)).trans d1, (World.cell?_setCell_other _ _ _ _ (by simp)).trans d2, (World.cell?_setCell_other _ _ _ _ (by simp)).trans d3, (World.cell?_setCell_other _ _ _ _ (by simp)).trans d4, (World.cell?_setCell_other _ _ _ _ (by simp)).trans d5, (World.cell?_setCell_other _ _ _ _ (by simp)).trans d6, (World.cell?_setCell_other _ _ _ _ (by simp)).trans d7, (World.cell?_setCell_other _ _ _ _ (by simp)).trans d8, World.cell?_setCell_same _ _ _ d9, (World.cell?_setCell_other _ _ _ _ (by simp)).trans d10, (World.cell?_setCell_other _ _ _ _ (by simp)).trans d11, (World.cell?_setCell_other _ _ _ _ (by simp)).trans d12, (World.cell?_setCell_other _ _ _ _ (by simp)).trans d13⟩
theorem St.set10 {w0 : World} {n0 : Nat} {w : World} {fb bm b n : Nat} {tv : Value} {tags : List Int} {x : StP} {k : Int} {i t c s : ByteArray} {sd q p al st en ra sh : Int} {cv : Value} {cz : List Int} (h : St w0 n0 w fb bm b n tv tags x k i t c s sd q p al st en ra sh cv cz) (y : Int) : St w0 n0 (w.setCell ⟨b, 10, none⟩ (.int .i64 y)) fb bm b n tv tags x k i t c s sd q p al st y ra sh cv cz := by
  have hB : But (fun k => k = b) w (w.setCell ⟨b, 10, none⟩ (.int .i64 y)) := (But.refl _ w).setCell b 10 _ (fun _ => rfl)
  obtain ⟨d0, d1, d2, d3, d4, d5, d6, d7, d8, d9, d10, d11, d12, d13⟩ := h.ask
  obtain ⟨base, o1, o2, o3, hO⟩ := h.own
  refine ⟨h.frm.keepS hB (fun e => h.nf e.symm) (fun e => h.nm e.symm) (fun g hg e => h.nt (by rw [hg, e])), h.small, ?_, fun i => by rw [World.frozen?_setCell]; exact h.fz i, h.nf, h.nm, h.nt, ⟨base, o1, o2, o3, own_kept hO hB (fun g hg e => by have := (hO.lt g hg).1; omega)⟩, h.but.setCell b 10 _ (fun _ => .inr (.inr rfl))⟩
  refine ⟨(World.cell?_setCell_other _ _ _ _ (by simp)).trans d0, (World.cell?_setCell_other _ _ _ _ (by simp)).trans d1, (World.cell?_setCell_other _ _ _ _ (by simp)).trans d2, (World.cell?_setCell_other _ _ _ _ (by simp)).trans d3, (World.cell?_setCell_other _ _ _ _ (by simp)).trans d4, (World.cell?_setCell_other _ _ _ _ (by simp)).trans d5, (World.cell?_setCell_other _ _ _ _ (by simp)).trans d6, (World.cell?_setCell_other _ _ _ _ (by simp)).trans d7, (World.cell?_setCell_other _ _ _ _ (by simp)).trans d8, (World.cell?_setCell_other _ _ _ _ (by simp)).trans d9, World.cell?_setCell_same _ _ _ d10, (World.cell?_setCell_other _ _ _ _ (by simp)).trans d11, (World.cell?_setCell_other _ _ _ _ (by simp)).trans d12, (World.cell?_setCell_other _ _ _ _ (by simp)).trans d13⟩
theorem St.set11 {w0 : World} {n0 : Nat} {w : World} {fb bm b n : Nat} {tv : Value} {tags : List Int} {x : StP} {k : Int} {i t c s : ByteArray} {sd q p al st en ra sh : Int} {cv : Value} {cz : List Int} (h : St w0 n0 w fb bm b n tv tags x k i t c s sd q p al st en ra sh cv cz) (y : Int) : St w0 n0 (w.setCell ⟨b, 11, none⟩ (.int .i64 y)) fb bm b n tv tags x k i t c s sd q p al st en y sh cv cz := by
  have hB : But (fun k => k = b) w (w.setCell ⟨b, 11, none⟩ (.int .i64 y)) := (But.refl _ w).setCell b 11 _ (fun _ => rfl)
  obtain ⟨d0, d1, d2, d3, d4, d5, d6, d7, d8, d9, d10, d11, d12, d13⟩ := h.ask
  obtain ⟨base, o1, o2, o3, hO⟩ := h.own
  refine ⟨h.frm.keepS hB (fun e => h.nf e.symm) (fun e => h.nm e.symm) (fun g hg e => h.nt (by rw [hg, e])), h.small, ?_, fun i => by rw [World.frozen?_setCell]; exact h.fz i, h.nf, h.nm, h.nt, ⟨base, o1, o2, o3, own_kept hO hB (fun g hg e => by have := (hO.lt g hg).1; omega)⟩, h.but.setCell b 11 _ (fun _ => .inr (.inr rfl))⟩
  refine ⟨(World.cell?_setCell_other _ _ _ _ (by simp)).trans d0, (World.cell?_setCell_other _ _ _ _ (by simp)).trans d1, (World.cell?_setCell_other _ _ _ _ (by simp)).trans d2, (World.cell?_setCell_other _ _ _ _ (by simp)).trans d3, (World.cell?_setCell_other _ _ _ _ (by simp)).trans d4, (World.cell?_setCell_other _ _ _ _ (by simp)).trans d5, (World.cell?_setCell_other _ _ _ _ (by simp)).trans d6, (World.cell?_setCell_other _ _ _ _ (by simp)).trans d7, (World.cell?_setCell_other _ _ _ _ (by simp)).trans d8, (World.cell?_setCell_other _ _ _ _ (by simp)).trans d9, (World.cell?_setCell_other _ _ _ _ (by simp)).trans d10, World.cell?_setCell_same _ _ _ d11, (World.cell?_setCell_other _ _ _ _ (by simp)).trans d12, (World.cell?_setCell_other _ _ _ _ (by simp)).trans d13⟩
theorem St.set12 {w0 : World} {n0 : Nat} {w : World} {fb bm b n : Nat} {tv : Value} {tags : List Int} {x : StP} {k : Int} {i t c s : ByteArray} {sd q p al st en ra sh : Int} {cv : Value} {cz : List Int} (h : St w0 n0 w fb bm b n tv tags x k i t c s sd q p al st en ra sh cv cz) (y : Int) : St w0 n0 (w.setCell ⟨b, 12, none⟩ (.int .i64 y)) fb bm b n tv tags x k i t c s sd q p al st en ra y cv cz := by
  have hB : But (fun k => k = b) w (w.setCell ⟨b, 12, none⟩ (.int .i64 y)) := (But.refl _ w).setCell b 12 _ (fun _ => rfl)
  obtain ⟨d0, d1, d2, d3, d4, d5, d6, d7, d8, d9, d10, d11, d12, d13⟩ := h.ask
  obtain ⟨base, o1, o2, o3, hO⟩ := h.own
  refine ⟨h.frm.keepS hB (fun e => h.nf e.symm) (fun e => h.nm e.symm) (fun g hg e => h.nt (by rw [hg, e])), h.small, ?_, fun i => by rw [World.frozen?_setCell]; exact h.fz i, h.nf, h.nm, h.nt, ⟨base, o1, o2, o3, own_kept hO hB (fun g hg e => by have := (hO.lt g hg).1; omega)⟩, h.but.setCell b 12 _ (fun _ => .inr (.inr rfl))⟩
  refine ⟨(World.cell?_setCell_other _ _ _ _ (by simp)).trans d0, (World.cell?_setCell_other _ _ _ _ (by simp)).trans d1, (World.cell?_setCell_other _ _ _ _ (by simp)).trans d2, (World.cell?_setCell_other _ _ _ _ (by simp)).trans d3, (World.cell?_setCell_other _ _ _ _ (by simp)).trans d4, (World.cell?_setCell_other _ _ _ _ (by simp)).trans d5, (World.cell?_setCell_other _ _ _ _ (by simp)).trans d6, (World.cell?_setCell_other _ _ _ _ (by simp)).trans d7, (World.cell?_setCell_other _ _ _ _ (by simp)).trans d8, (World.cell?_setCell_other _ _ _ _ (by simp)).trans d9, (World.cell?_setCell_other _ _ _ _ (by simp)).trans d10, (World.cell?_setCell_other _ _ _ _ (by simp)).trans d11, World.cell?_setCell_same _ _ _ d12, (World.cell?_setCell_other _ _ _ _ (by simp)).trans d13⟩
theorem St.set13 {w0 : World} {n0 : Nat} {w : World} {fb bm b n : Nat} {tv : Value} {tags : List Int} {x : StP} {k : Int} {i t c s : ByteArray} {sd q p al st en ra sh : Int} {cv : Value} {cz : List Int} (h : St w0 n0 w fb bm b n tv tags x k i t c s sd q p al st en ra sh cv cz) (y : Value) (cz' : List Int) (base : Nat) (o1 : fb < base) (o2 : bm < base) (o3 : b < base) (hO : w.ownsRow base 3 1 y cz'.length (its cz')) : St w0 n0 (w.setCell ⟨b, 13, none⟩ (y)) fb bm b n tv tags x k i t c s sd q p al st en ra sh y cz' := by
  have hB : But (fun k => k = b) w (w.setCell ⟨b, 13, none⟩ (y)) := (But.refl _ w).setCell b 13 _ (fun _ => rfl)
  obtain ⟨d0, d1, d2, d3, d4, d5, d6, d7, d8, d9, d10, d11, d12, d13⟩ := h.ask
  refine ⟨h.frm.keepS hB (fun e => h.nf e.symm) (fun e => h.nm e.symm) (fun g hg e => h.nt (by rw [hg, e])), h.small, ?_, fun i => by rw [World.frozen?_setCell]; exact h.fz i, h.nf, h.nm, h.nt, ⟨base, o1, o2, o3, own_kept hO hB (fun g hg e => by have := (hO.lt g hg).1; omega)⟩, h.but.setCell b 13 _ (fun _ => .inr (.inr rfl))⟩
  refine ⟨(World.cell?_setCell_other _ _ _ _ (by simp)).trans d0, (World.cell?_setCell_other _ _ _ _ (by simp)).trans d1, (World.cell?_setCell_other _ _ _ _ (by simp)).trans d2, (World.cell?_setCell_other _ _ _ _ (by simp)).trans d3, (World.cell?_setCell_other _ _ _ _ (by simp)).trans d4, (World.cell?_setCell_other _ _ _ _ (by simp)).trans d5, (World.cell?_setCell_other _ _ _ _ (by simp)).trans d6, (World.cell?_setCell_other _ _ _ _ (by simp)).trans d7, (World.cell?_setCell_other _ _ _ _ (by simp)).trans d8, (World.cell?_setCell_other _ _ _ _ (by simp)).trans d9, (World.cell?_setCell_other _ _ _ _ (by simp)).trans d10, (World.cell?_setCell_other _ _ _ _ (by simp)).trans d11, (World.cell?_setCell_other _ _ _ _ (by simp)).trans d12, World.cell?_setCell_same _ _ _ d13⟩
theorem St.fresh {n0 : Nat} {w : World} {fb bm n : Nat} {tv : Value} {tags : List Int} {x : StP} (h : Frm n0 w fb bm n tv tags x.1 x.2.1 x.2.2) (hs : SmallL x.1) (k : Int) (i : ByteArray) :
    St (boxA w k i ⟨#[]⟩ ⟨#[]⟩ ⟨#[]⟩ 0 0 0 0 0 0 0 0 (.slice none 0 0)) n0 (boxA w k i ⟨#[]⟩ ⟨#[]⟩ ⟨#[]⟩ 0 0 0 0 0 0 0 0 (.slice none 0 0)) fb bm w.heap.size n tv tags x k i ⟨#[]⟩ ⟨#[]⟩ ⟨#[]⟩ 0 0 0 0 0 0 0 0 (.slice none 0 0) [] := by
  have h1 := h.lt
  have h2 := h.map.lt
  refine ⟨h.still (boxA_below w k i ⟨#[]⟩ ⟨#[]⟩ ⟨#[]⟩ 0 0 0 0 0 0 0 0 (.slice none 0 0)), hs, AskAt.box w k i ⟨#[]⟩ ⟨#[]⟩ ⟨#[]⟩ 0 0 0 0 0 0 0 0 (.slice none 0 0), fun j => by simp, by omega, by omega, fun e => ?_, ⟨w.heap.size + 1, by omega, by omega, by omega, World.ownsRow_nil _ _ _ _⟩, But.refl _ _⟩
  have := (h.own.lt _ e).2
  omega
end Go.Proofs.YtepkmbpadhfbmaaGreatDoor
/-
  Contracts of ask's readWorth and readOrder: a form is asked for one field after another, each is put into the ask.
-/
namespace Go.Proofs.YtepkmbpadhfbmaaGreatDoor
open Go.ChangeShapes Go.WideShapes Go.ChangeAt Go.RowKit Go.Lib

/-- What a form tells behind other asks. -/
def gotN (x : StP) (ws : List (Int × Want)) (t : Int) : ByteArray := askV (runS x ws).1 (runS x ws).2.2 t nameVE id ⟨#[]⟩
def gotI (x : StP) (ws : List (Int × Want)) (t lo hi : Int) : Int := askV (runS x ws).1 (runS x ws).2.2 t (fun s => (intVE s lo hi).2) (fun s => ((intVE s lo hi).1 : Int)) 0
def gotL (x : StP) (ws : List (Int × Want)) (t most lo hi : Int) : List Nat := askV (runS x ws).1 (runS x ws).2.2 t (fun s => (intsVE s most lo hi).2) (fun s => (intsVE s most lo hi).1) []
abbrev worthW : List (Int × Want) := [(38, .int 1 1099511627776), (44, .int 1 1099511627776)]
set_option maxHeartbeats 4000000 in
theorem readWorth_any {w0 : World} {n0 : Nat} {w : World} {fb bm b n : Nat} {tv : Value} {tags : List Int} {x : StP} {k : Int} {i t c s : ByteArray} {sd q p al st en ra sh : Int} {cv : Value} {cz : List Int} (h : St w0 n0 w fb bm b n tv tags x k i t c s sd q p al st en ra sh cv cz) (hn : n ≤ 900000) :
    Calls Tryz.prog 62 #[.pointer (some ⟨fb, 0, none⟩), .pointer (some ⟨b, 0, none⟩)] w fun e w' => e = .returned (.tuple #[]) ∧ ∃ q' p', St w0 n0 w' fb bm b (n + 2) tv tags (runS x worthW) k i t c s sd q' p' al st en ra sh cv cz ∧ q' = gotI x [] 38 1 1099511627776 ∧ p' = gotI x [(38, .int 1 1099511627776)] 44 1 1099511627776 := by
  have I1 := h.int (by omega) 38 1 1099511627776 (by omega) (by omega)
  have HH : Hid (n ≤ 900000) := hn
  clear hn
  go_enter Tryz.func62, Tryz.ntmps62
  go_wp2_with fail
  refine I1.mono ?_
  rintro e w1 ⟨v1, rfl, hv1, S1⟩
  have c1 := S1.ask.2.2.2.2.2.2.1
  have f1 := S1.fz 6
  have T1 := S1.set6 v1
  have I2 := T1.int (by have := HH.out; omega) 44 1 1099511627776 (by omega) (by omega)
  have H1 : Hid (v1 = gotI x [] 38 1 1099511627776) := hv1
  clear S1 T1 I1 hv1
  go_wp2_with fail
  refine I2.mono ?_
  rintro e w2 ⟨v2, rfl, hv2, S2⟩
  have c2 := S2.ask.2.2.2.2.2.2.2.1
  have f2 := S2.fz 7
  have T2 := S2.set7 v2
  have HT : Hid (St w0 n0 (w2.setCell ⟨b, 7, none⟩ (.int .i64 v2)) fb bm b (n + 2) tv tags (runS x worthW) k i t c s sd v1 v2 al st en ra sh cv cz) := T2
  have H2 : Hid (v2 = gotI x [(38, .int 1 1099511627776)] 44 1 1099511627776) := hv2
  clear S2 T2 I2 hv2
  go_wp2_with fail
  go_end0
  exact ⟨rfl, v1, v2, HT.out, H1.out, H2.out⟩
end Go.Proofs.YtepkmbpadhfbmaaGreatDoor
/-
  The contract of ask's readOrder: what new orders have behind their name.
-/
namespace Go.Proofs.YtepkmbpadhfbmaaGreatDoor
open Go.ChangeShapes Go.WideShapes Go.ChangeAt Go.RowKit Go.Lib

abbrev ordW : List (Int × Want) := [(1, .name), (55, .name), (54, .int 1 2), (38, .int 1 1099511627776), (44, .int 1 1099511627776), (5001, .int 1 4), (5002, .int 0 1099511627776), (5003, .int 0 1099511627776)]
/-- What is told of a new order behind its name. -/
structure Ordered (x : StP) (c s : ByteArray) (sd q p al st en : Int) : Prop where
  c : c = gotN x [] 1
  s : s = gotN x [(1, .name)] 55
  sd : sd = gotI x [(1, .name), (55, .name)] 54 1 2
  q : q = gotI x [(1, .name), (55, .name), (54, .int 1 2)] 38 1 1099511627776
  p : p = gotI x [(1, .name), (55, .name), (54, .int 1 2), (38, .int 1 1099511627776)] 44 1 1099511627776
  al : al = gotI x [(1, .name), (55, .name), (54, .int 1 2), (38, .int 1 1099511627776), (44, .int 1 1099511627776)] 5001 1 4
  st : st = gotI x [(1, .name), (55, .name), (54, .int 1 2), (38, .int 1 1099511627776), (44, .int 1 1099511627776), (5001, .int 1 4)] 5002 0 1099511627776
  en : en = gotI x [(1, .name), (55, .name), (54, .int 1 2), (38, .int 1 1099511627776), (44, .int 1 1099511627776), (5001, .int 1 4), (5002, .int 0 1099511627776)] 5003 0 1099511627776
set_option maxHeartbeats 8000000 in
theorem readOrder_any {w0 : World} {n0 : Nat} {w : World} {fb bm b n : Nat} {tv : Value} {tags : List Int} {x : StP} {k : Int} {i t c s : ByteArray} {sd q p al st en ra sh : Int} {cv : Value} {cz : List Int} (h : St w0 n0 w fb bm b n tv tags x k i t c s sd q p al st en ra sh cv cz) (hn : n ≤ 1000) :
    Calls Tryz.prog 61 #[.pointer (some ⟨fb, 0, none⟩), .pointer (some ⟨b, 0, none⟩)] w fun e w' => e = .returned (.tuple #[]) ∧ ∃ n' c' s' sd' q' p' al' st' en' ra' sh' cv' cz', St w0 n0 w' fb bm b n' tv tags (runS (runS x ordW) (tailW al')) k i t c' s' sd' q' p' al' st' en' ra' sh' cv' cz' ∧ Ordered x c' s' sd' q' p' al' st' en' ∧
      ra' = (if al' = 3 then gotI x ordW 5004 1 10000 else ra) ∧ sh' = (if al' = 4 then gotI x ordW 5005 1 1099511627776 else sh) ∧ cz' = (if al' = 2 then (gotL x ordW 5006 64 0 1048576).map (fun n : Nat => (n : Int)) else cz) := by
  have HH : Hid (n ≤ 1000) := hn
  have F0 := h.name (by omega) 1 (by omega) (by omega)
  clear hn h
  go_enter Tryz.func61, Tryz.ntmps61
  go_wp2_with fail
  refine F0.mono ?_
  rintro e y0 ⟨vc, rfl, hv, S0⟩
  have c0 := S0.ask.2.2.2.1
  have f0 := S0.fz 3
  have T0 := S0.set3 vc
  have Hc : Hid (vc = gotN x [] 1) := hv
  have F1 := T0.name (by have := HH.out; omega) 55 (by omega) (by omega)
  clear S0 T0 hv F0
  go_wp2_with fail
  refine F1.mono ?_
  rintro e y1 ⟨vs, rfl, hv, S1⟩
  have c1 := S1.ask.2.2.2.2.1
  have f1 := S1.fz 4
  have T1 := S1.set4 vs
  have Hs : Hid (vs = gotN x [(1, .name)] 55) := hv
  have F2 := T1.int (by have := HH.out; omega) 54 1 2 (by omega) (by omega)
  clear S1 T1 hv F1
  go_wp2_with fail
  refine F2.mono ?_
  rintro e y2 ⟨vd, rfl, hv, S2⟩
  have c2 := S2.ask.2.2.2.2.2.1
  have f2 := S2.fz 5
  have T2 := S2.set5 vd
  have Hd : Hid (vd = gotI x [(1, .name), (55, .name)] 54 1 2) := hv
  have F3 := readWorth_any T2 (by have := HH.out; omega)
  clear S2 T2 hv F2
  go_wp2_with fail
  refine F3.mono ?_
  rintro e y3 ⟨rfl, vq, vp, S3, hvq, hvp⟩
  have Hq : Hid (vq = gotI x [(1, .name), (55, .name), (54, .int 1 2)] 38 1 1099511627776) := hvq
  have Hp : Hid (vp = gotI x [(1, .name), (55, .name), (54, .int 1 2), (38, .int 1 1099511627776)] 44 1 1099511627776) := hvp
  have F4 := S3.int (by have := HH.out; omega) 5001 1 4 (by omega) (by omega)
  clear S3 hvq hvp F3
  go_wp2_with fail
  refine F4.mono ?_
  rintro e y4 ⟨va, rfl, hv, S4⟩
  have c4 := S4.ask.2.2.2.2.2.2.2.2.1
  have f4 := S4.fz 8
  have T4 := S4.set8 va
  have Ha : Hid (va = gotI x [(1, .name), (55, .name), (54, .int 1 2), (38, .int 1 1099511627776), (44, .int 1 1099511627776)] 5001 1 4) := hv
  have F5 := T4.int (by have := HH.out; omega) 5002 0 1099511627776 (by omega) (by omega)
  clear S4 T4 hv F4
  go_wp2_with fail
  refine F5.mono ?_
  rintro e y5 ⟨vt, rfl, hv, S5⟩
  have c5 := S5.ask.2.2.2.2.2.2.2.2.2.1
  have f5 := S5.fz 9
  have T5 := S5.set9 vt
  have Ht : Hid (vt = gotI x [(1, .name), (55, .name), (54, .int 1 2), (38, .int 1 1099511627776), (44, .int 1 1099511627776), (5001, .int 1 4)] 5002 0 1099511627776) := hv
  have F6 := T5.int (by have := HH.out; omega) 5003 0 1099511627776 (by omega) (by omega)
  clear S5 T5 hv F5
  go_wp2_with fail
  refine F6.mono ?_
  rintro e y6 ⟨ve, rfl, hv, S6⟩
  have c6 := S6.ask.2.2.2.2.2.2.2.2.2.2.1
  have f6 := S6.fz 10
  have T6 := S6.set10 ve
  have He : Hid (ve = gotI x [(1, .name), (55, .name), (54, .int 1 2), (38, .int 1 1099511627776), (44, .int 1 1099511627776), (5001, .int 1 4), (5002, .int 0 1099511627776)] 5003 0 1099511627776) := hv
  have HO : Hid (Ordered x vc vs vd vq vp va vt ve) := ⟨Hc.out, Hs.out, Hd.out, Hq.out, Hp.out, Ha.out, Ht.out, He.out⟩
  have ca := T6.ask.2.2.2.2.2.2.2.2.1
  have H8 : Hid (St w0 n0 (y6.setCell ⟨b, 10, none⟩ (.int .i64 ve)) fb bm b (n + 8) tv tags (runS x ordW) k i t vc vs vd vq vp va vt ve ra sh cv cz) := T6
  clear S6 T6 hv F6 Hc Hs Hd Hq Hp Ha Ht He
  by_cases e2 : va = 2
  · have g2 : (va == 2) = true := beq_iff_eq.2 e2
    have HE : Hid (va = 2) := e2
    clear e2
    have FX := H8.out.ints (by have := HH.out; omega) 5006 64 0 1048576 (by omega) (by omega)
    go_wp2_with fail
    refine FX.mono ?_
    rintro e w8 ⟨a8, j8, d8, base, L8, rfl, hL, o1, o2, o3, hO, S8⟩
    have c8 := S8.ask.2.2.2.2.2.2.2.2.2.2.2.2.2
    have f8 := S8.fz 13
    have T8 := S8.set13 _ _ base o1 o2 o3 hO
    have HL : Hid (L8 = gotL x ordW 5006 64 0 1048576) := hL
    have H9 : Hid (St w0 n0 (w8.setCell ⟨b, 13, none⟩ (.slice a8 j8 d8)) fb bm b (n + 8 + 1) tv tags (stepW (runS x ordW) (5006, .ints 64 0 1048576)) k i t vc vs vd vq vp va vt ve ra sh (.slice a8 j8 d8) (L8.map (fun n : Nat => (n : Int)))) := T8
    clear S8 T8 hL FX o1 o2 o3 hO
    go_wp2_with fail
    go_end0
    refine ⟨rfl, n + 8 + 1, vc, vs, vd, vq, vp, va, vt, ve, ra, sh, .slice a8 j8 d8, L8.map (fun n : Nat => (n : Int)), ?_, HO.out, ?_, ?_, ?_⟩
    · have := H9.out
      rw [show runS (runS x ordW) (tailW va) = stepW (runS x ordW) (5006, .ints 64 0 1048576) by rw [HE.out]; rfl]
      exact this
    · rw [HE.out]; rfl
    · rw [HE.out]; rfl
    · rw [if_pos HE.out, HL.out]
  have g2 : (va == 2) = false := beq_false_of_ne e2
  by_cases e3 : va = 3
  · have g3 : (va == 3) = true := beq_iff_eq.2 e3
    have HE : Hid (va = 3) := e3
    clear e2 e3
    have FX := H8.out.int (by have := HH.out; omega) 5004 1 10000 (by omega) (by omega)
    go_wp2_with fail
    refine FX.mono ?_
    rintro e w8 ⟨v8, rfl, hL, S8⟩
    have c8 := S8.ask.2.2.2.2.2.2.2.2.2.2.2.1
    have f8 := S8.fz 11
    have T8 := S8.set11 v8
    have HL : Hid (v8 = gotI x ordW 5004 1 10000) := hL
    have H9 : Hid (St w0 n0 (w8.setCell ⟨b, 11, none⟩ (.int .i64 v8)) fb bm b (n + 8 + 1) tv tags (stepW (runS x ordW) (5004, .int 1 10000)) k i t vc vs vd vq vp va vt ve v8 sh cv cz) := T8
    clear S8 T8 hL FX
    go_wp2_with fail
    go_end0
    refine ⟨rfl, n + 8 + 1, vc, vs, vd, vq, vp, va, vt, ve, v8, sh, cv, cz, ?_, HO.out, ?_, ?_, ?_⟩
    · have := H9.out
      rw [show runS (runS x ordW) (tailW va) = stepW (runS x ordW) (5004, .int 1 10000) by rw [HE.out]; rfl]
      exact this
    · rw [if_pos HE.out, HL.out]
    · rw [HE.out]; rfl
    · rw [HE.out]; rfl
  have g3 : (va == 3) = false := beq_false_of_ne e3
  by_cases e4 : va = 4
  · have g4 : (va == 4) = true := beq_iff_eq.2 e4
    have HE : Hid (va = 4) := e4
    clear e2 e3 e4
    have FX := H8.out.int (by have := HH.out; omega) 5005 1 1099511627776 (by omega) (by omega)
    go_wp2_with fail
    refine FX.mono ?_
    rintro e w8 ⟨v8, rfl, hL, S8⟩
    have c8 := S8.ask.2.2.2.2.2.2.2.2.2.2.2.2.1
    have f8 := S8.fz 12
    have T8 := S8.set12 v8
    have HL : Hid (v8 = gotI x ordW 5005 1 1099511627776) := hL
    have H9 : Hid (St w0 n0 (w8.setCell ⟨b, 12, none⟩ (.int .i64 v8)) fb bm b (n + 8 + 1) tv tags (stepW (runS x ordW) (5005, .int 1 1099511627776)) k i t vc vs vd vq vp va vt ve ra v8 cv cz) := T8
    clear S8 T8 hL FX
    go_wp2_with fail
    go_end0
    refine ⟨rfl, n + 8 + 1, vc, vs, vd, vq, vp, va, vt, ve, ra, v8, cv, cz, ?_, HO.out, ?_, ?_, ?_⟩
    · have := H9.out
      rw [show runS (runS x ordW) (tailW va) = stepW (runS x ordW) (5005, .int 1 1099511627776) by rw [HE.out]; rfl]
      exact this
    · rw [HE.out]; rfl
    · rw [if_pos HE.out, HL.out]
    · rw [HE.out]; rfl
  have g4 : (va == 4) = false := beq_false_of_ne e4
  have HE : Hid (va ≠ 2 ∧ va ≠ 3 ∧ va ≠ 4) := ⟨e2, e3, e4⟩
  clear e2 e3 e4
  go_wp2_with fail
  go_end0
  obtain ⟨n2, n3, n4⟩ := HE.out
  refine ⟨rfl, n + 8, vc, vs, vd, vq, vp, va, vt, ve, ra, sh, cv, cz, ?_, HO.out, (if_neg n3).symm, (if_neg n4).symm, (if_neg n2).symm⟩
  have := H8.out
  rw [show runS (runS x ordW) (tailW va) = runS x ordW by unfold tailW; rw [if_neg n2, if_neg n3, if_neg n4]; rfl]
  exact this
end Go.Proofs.YtepkmbpadhfbmaaGreatDoor
/-
  Contracts of ask's read: a form is asked for an ask of a kind.
-/
namespace Go.Proofs.YtepkmbpadhfbmaaGreatDoor
open Go.ChangeShapes Go.WideShapes Go.ChangeAt Go.RowKit Go.Lib

/-- A form behind the asks, and the numbers that were told. -/
structure Red (w0 : World) (n0 : Nat) (w : World) (fb bm n : Nat) (tv : Value) (tags : List Int) (x : StP) (cv : Value) (cz : List Int) : Prop where
  frm : Frm n0 w fb bm n tv tags x.1 x.2.1 x.2.2
  own : ∃ base, w0.heap.size ≤ base ∧ w.ownsRow base 3 1 cv cz.length (its cz)
  below : But (Two fb bm) w0 w
/-- A block for an ask that is yet to be written. -/
def OutAt (w : World) (r : Nat) : Prop := AskAt w r 0 ⟨#[]⟩ ⟨#[]⟩ ⟨#[]⟩ ⟨#[]⟩ 0 0 0 0 0 0 0 0 (.slice none 0 0) ∧ ∀ j, w.frozen? ⟨r, j, none⟩ = false
theorem OutAt.box (w : World) : OutAt (w.alloc (.cells #[.int .i64 0, .string ⟨#[]⟩, .string ⟨#[]⟩, .string ⟨#[]⟩, .string ⟨#[]⟩, .int .i64 0, .int .i64 0, .int .i64 0, .int .i64 0, .int .i64 0, .int .i64 0, .int .i64 0, .int .i64 0, .slice none 0 0] 24)) w.heap.size := ⟨AskAt.box w 0 ⟨#[]⟩ ⟨#[]⟩ ⟨#[]⟩ ⟨#[]⟩ 0 0 0 0 0 0 0 0 (.slice none 0 0), fun j => by simp⟩
theorem OutAt.but {w w' : World} {r : Nat} {S : Nat → Prop} (h : OutAt w r) (hB : But S w w') (hS : ¬ S r) : OutAt w' r := by
  obtain ⟨h, f⟩ := h
  have lb := h.lt
  obtain ⟨d0, d1, d2, d3, d4, d5, d6, d7, d8, d9, d10, d11, d12, d13⟩ := h
  exact ⟨⟨(hB.cell lb hS).trans d0, (hB.cell lb hS).trans d1, (hB.cell lb hS).trans d2, (hB.cell lb hS).trans d3, (hB.cell lb hS).trans d4, (hB.cell lb hS).trans d5, (hB.cell lb hS).trans d6, (hB.cell lb hS).trans d7, (hB.cell lb hS).trans d8, (hB.cell lb hS).trans d9, (hB.cell lb hS).trans d10, (hB.cell lb hS).trans d11, (hB.cell lb hS).trans d12, (hB.cell lb hS).trans d13⟩, fun j => (hB.frozen lb hS).trans (f j)⟩
/-- An ask put into a block. -/
def put14 (w : World) (r : Nat) (k : Int) (i t c s : ByteArray) (sd q p al st en ra sh : Int) (cv : Value) : World := ((((((((((((((w.setCell ⟨r, 0, none⟩ (.int .i64 k)).setCell ⟨r, 1, none⟩ (.string i)).setCell ⟨r, 2, none⟩ (.string t)).setCell ⟨r, 3, none⟩ (.string c)).setCell ⟨r, 4, none⟩ (.string s)).setCell ⟨r, 5, none⟩ (.int .i64 sd)).setCell ⟨r, 6, none⟩ (.int .i64 q)).setCell ⟨r, 7, none⟩ (.int .i64 p)).setCell ⟨r, 8, none⟩ (.int .i64 al)).setCell ⟨r, 9, none⟩ (.int .i64 st)).setCell ⟨r, 10, none⟩ (.int .i64 en)).setCell ⟨r, 11, none⟩ (.int .i64 ra)).setCell ⟨r, 12, none⟩ (.int .i64 sh)).setCell ⟨r, 13, none⟩ (cv))
theorem put_cell {w : World} {r j j' : Nat} {v x : Value} (h : w.cell? ⟨r, j, none⟩ = some x) (hj : j ≠ j') : (w.setCell ⟨r, j', none⟩ v).cell? ⟨r, j, none⟩ = some x :=
  (World.cell?_setCell_other _ _ _ _ (by simp only [ne_eq, Addr.mk.injEq]; omega)).trans h
theorem put_at {w : World} {r : Nat} {k' : Int} {i' t' c' s' : ByteArray} {sd' q' p' al' st' en' ra' sh' : Int} {cv' : Value} (h : AskAt w r k' i' t' c' s' sd' q' p' al' st' en' ra' sh' cv') (k : Int) (i t c s : ByteArray) (sd q p al st en ra sh : Int) (cv : Value) : AskAt (put14 w r k i t c s sd q p al st en ra sh cv) r k i t c s sd q p al st en ra sh cv := by
  obtain ⟨h0, h1, h2, h3, h4, h5, h6, h7, h8, h9, h10, h11, h12, h13⟩ := h
  unfold put14
  exact ⟨put_cell (put_cell (put_cell (put_cell (put_cell (put_cell (put_cell (put_cell (put_cell (put_cell (put_cell (put_cell (put_cell (World.cell?_setCell_same _ _ _ (h0)) (by omega)) (by omega)) (by omega)) (by omega)) (by omega)) (by omega)) (by omega)) (by omega)) (by omega)) (by omega)) (by omega)) (by omega)) (by omega),
    put_cell (put_cell (put_cell (put_cell (put_cell (put_cell (put_cell (put_cell (put_cell (put_cell (put_cell (put_cell (World.cell?_setCell_same _ _ _ (put_cell (h1) (by omega))) (by omega)) (by omega)) (by omega)) (by omega)) (by omega)) (by omega)) (by omega)) (by omega)) (by omega)) (by omega)) (by omega)) (by omega),
    put_cell (put_cell (put_cell (put_cell (put_cell (put_cell (put_cell (put_cell (put_cell (put_cell (put_cell (World.cell?_setCell_same _ _ _ (put_cell (put_cell (h2) (by omega)) (by omega))) (by omega)) (by omega)) (by omega)) (by omega)) (by omega)) (by omega)) (by omega)) (by omega)) (by omega)) (by omega)) (by omega),
    put_cell (put_cell (put_cell (put_cell (put_cell (put_cell (put_cell (put_cell (put_cell (put_cell (World.cell?_setCell_same _ _ _ (put_cell (put_cell (put_cell (h3) (by omega)) (by omega)) (by omega))) (by omega)) (by omega)) (by omega)) (by omega)) (by omega)) (by omega)) (by omega)) (by omega)) (by omega)) (by omega),
    put_cell (put_cell (put_cell (put_cell (put_cell (put_cell (put_cell (put_cell (put_cell (World.cell?_setCell_same _ _ _ (put_cell (put_cell (put_cell (put_cell (h4) (by omega)) (by omega)) (by omega)) (by omega))) (by omega)) (by omega)) (by omega)) (by omega)) (by omega)) (by omega)) (by omega)) (by omega)) (by omega),
    put_cell (put_cell (put_cell (put_cell (put_cell (put_cell (put_cell (put_cell (World.cell?_setCell_same _ _ _ (put_cell (put_cell (put_cell (put_cell (put_cell (h5) (by omega)) (by omega)) (by omega)) (by omega)) (by omega))) (by omega)) (by omega)) (by omega)) (by omega)) (by omega)) (by omega)) (by omega)) (by omega),
    put_cell (put_cell (put_cell (put_cell (put_cell (put_cell (put_cell (World.cell?_setCell_same _ _ _ (put_cell (put_cell (put_cell (put_cell (put_cell (put_cell (h6) (by omega)) (by omega)) (by omega)) (by omega)) (by omega)) (by omega))) (by omega)) (by omega)) (by omega)) (by omega)) (by omega)) (by omega)) (by omega),
    put_cell (put_cell (put_cell (put_cell (put_cell (put_cell (World.cell?_setCell_same _ _ _ (put_cell (put_cell (put_cell (put_cell (put_cell (put_cell (put_cell (h7) (by omega)) (by omega)) (by omega)) (by omega)) (by omega)) (by omega)) (by omega))) (by omega)) (by omega)) (by omega)) (by omega)) (by omega)) (by omega),
    put_cell (put_cell (put_cell (put_cell (put_cell (World.cell?_setCell_same _ _ _ (put_cell (put_cell (put_cell (put_cell (put_cell (put_cell (put_cell (put_cell (h8) (by omega)) (by omega)) (by omega)) (by omega)) (by omega)) (by omega)) (by omega)) (by omega))) (by omega)) (by omega)) (by omega)) (by omega)) (by omega),
    put_cell (put_cell (put_cell (put_cell (World.cell?_setCell_same _ _ _ (put_cell (put_cell (put_cell (put_cell (put_cell (put_cell (put_cell (put_cell (put_cell (h9) (by omega)) (by omega)) (by omega)) (by omega)) (by omega)) (by omega)) (by omega)) (by omega)) (by omega))) (by omega)) (by omega)) (by omega)) (by omega),
    put_cell (put_cell (put_cell (World.cell?_setCell_same _ _ _ (put_cell (put_cell (put_cell (put_cell (put_cell (put_cell (put_cell (put_cell (put_cell (put_cell (h10) (by omega)) (by omega)) (by omega)) (by omega)) (by omega)) (by omega)) (by omega)) (by omega)) (by omega)) (by omega))) (by omega)) (by omega)) (by omega),
    put_cell (put_cell (World.cell?_setCell_same _ _ _ (put_cell (put_cell (put_cell (put_cell (put_cell (put_cell (put_cell (put_cell (put_cell (put_cell (put_cell (h11) (by omega)) (by omega)) (by omega)) (by omega)) (by omega)) (by omega)) (by omega)) (by omega)) (by omega)) (by omega)) (by omega))) (by omega)) (by omega),
    put_cell (World.cell?_setCell_same _ _ _ (put_cell (put_cell (put_cell (put_cell (put_cell (put_cell (put_cell (put_cell (put_cell (put_cell (put_cell (put_cell (h12) (by omega)) (by omega)) (by omega)) (by omega)) (by omega)) (by omega)) (by omega)) (by omega)) (by omega)) (by omega)) (by omega)) (by omega))) (by omega),
    World.cell?_setCell_same _ _ _ (put_cell (put_cell (put_cell (put_cell (put_cell (put_cell (put_cell (put_cell (put_cell (put_cell (put_cell (put_cell (put_cell (h13) (by omega)) (by omega)) (by omega)) (by omega)) (by omega)) (by omega)) (by omega)) (by omega)) (by omega)) (by omega)) (by omega)) (by omega)) (by omega))⟩
theorem put_but (w : World) (r : Nat) (k : Int) (i t c s : ByteArray) (sd q p al st en ra sh : Int) (cv : Value) : But (fun j => j = r) w (put14 w r k i t c s sd q p al st en ra sh cv) := by
  unfold put14
  exact (((((((((((((((But.refl (fun j => j = r) w).setCell r 0 _ (fun _ => rfl)).setCell r 1 _ (fun _ => rfl)).setCell r 2 _ (fun _ => rfl)).setCell r 3 _ (fun _ => rfl)).setCell r 4 _ (fun _ => rfl)).setCell r 5 _ (fun _ => rfl)).setCell r 6 _ (fun _ => rfl)).setCell r 7 _ (fun _ => rfl)).setCell r 8 _ (fun _ => rfl)).setCell r 9 _ (fun _ => rfl)).setCell r 10 _ (fun _ => rfl)).setCell r 11 _ (fun _ => rfl)).setCell r 12 _ (fun _ => rfl)).setCell r 13 _ (fun _ => rfl))
theorem but_box {w w1 : World} {o : Obj} {S : Nat → Prop} (h : But S (w.alloc o) w1) : But S w w1 :=
  ((But.refl S w).alloc o).trans h (fun _ _ e => e)
theorem red_close {n0 : Nat} {w w1 w3 w4 : World} {fb bm n : Nat} {tv : Value} {tags : List Int} {x : StP} {v : ByteArray} {k1 : Int} {k : Int} {i t c s : ByteArray} {sd q p al st en ra sh : Int} {cv : Value} {cz : List Int} (h : St (boxA w1 k1 v ⟨#[]⟩ ⟨#[]⟩ ⟨#[]⟩ 0 0 0 0 0 0 0 0 (.slice none 0 0)) n0 w3 fb bm w1.heap.size n tv tags x k i t c s sd q p al st en ra sh cv cz) (hW : But (Two fb bm) w w1) (hP : But (fun j => j = w.heap.size) w3 w4) (lf : fb < w.heap.size) (lm : bm < w.heap.size) (lt : tv.ownBlock ≠ some w.heap.size) (l1 : w.heap.size < w1.heap.size) :
    Red w n0 w4 fb bm n tv tags x cv cz := by
  obtain ⟨base, o1, o2, o3, own⟩ := h.own
  refine ⟨h.frm.keepS hP (by omega) (by omega) (fun g hg e => lt (by rw [hg, e])), ⟨base, by omega, own_kept own hP (fun g hg e => by have := (own.lt g hg).1; omega)⟩, ?_⟩
  have b1 : But (Two fb bm) w (boxA w1 k1 v ⟨#[]⟩ ⟨#[]⟩ ⟨#[]⟩ 0 0 0 0 0 0 0 0 (.slice none 0 0)) := hW.alloc _
  have b2 := b1.trans h.but (fun i hi e => by rcases e with e | e | e; exact .inl e; exact .inr e; omega)
  exact b2.trans hP (fun i hi e => by omega)
set_option maxHeartbeats 8000000 in
theorem read_plain {n0 : Nat} {w : World} {fb bm n : Nat} {tv : Value} {tags : List Int} {x : StP} (h : Frm n0 w fb bm n tv tags x.1 x.2.1 x.2.2) (hs : SmallL x.1) (hn : n ≤ 900) (k : Int) (k1 : k ≠ 1) (k3 : k ≠ 3) :
    Calls Tryz.prog 32 #[.pointer (some ⟨fb, 0, none⟩), .int .i64 k] w fun e w' => ∃ n' i t, e = .returned (.agg #[.int .i64 k, .string i, .string t, .string ⟨#[]⟩, .string ⟨#[]⟩, .int .i64 0, .int .i64 0, .int .i64 0, .int .i64 0, .int .i64 0, .int .i64 0, .int .i64 0, .int .i64 0, .slice none 0 0]) ∧ Red w n0 w' fb bm n' tv tags (runS x [(11, .name), (41, .name)]) (.slice none 0 0) [] ∧ i = gotN x [] 11 ∧ t = gotN x [(11, .name)] 41 := by
  have g1 : (k == 1) = false := beq_false_of_ne k1
  have g3 : (k == 3) = false := beq_false_of_ne k3
  clear k1 k3
  have HH : Hid (n ≤ 900) := hn
  have h1 := h.still ((Below.refl _ w).alloc (Nat.le_refl _) (.cells #[.int .i64 0, .string ⟨#[]⟩, .string ⟨#[]⟩, .string ⟨#[]⟩, .string ⟨#[]⟩, .int .i64 0, .int .i64 0, .int .i64 0, .int .i64 0, .int .i64 0, .int .i64 0, .int .i64 0, .int .i64 0, .slice none 0 0] 24))
  have lf : fb < w.heap.size := h.lt
  have lm : bm < w.heap.size := h.map.lt
  have lt : tv.ownBlock ≠ some w.heap.size := fun e => by have := (h.own.lt _ e).2; omega
  have F0 := name_any h1 (by omega) 11 (by omega) (by omega)
  have O0 : Hid (OutAt (w.alloc (.cells #[.int .i64 0, .string ⟨#[]⟩, .string ⟨#[]⟩, .string ⟨#[]⟩, .string ⟨#[]⟩, .int .i64 0, .int .i64 0, .int .i64 0, .int .i64 0, .int .i64 0, .int .i64 0, .int .i64 0, .int .i64 0, .slice none 0 0] 24)) w.heap.size) := OutAt.box w
  clear h h1 hn
  go_enter Tryz.func32, Tryz.ntmps32
  go_wp2_with fail
  refine F0.mono ?_
  rintro e w1 ⟨v1, rfl, hv1, S1, B1⟩
  have HV1 : Hid (v1 = gotN x [] 11) := hv1
  have S1' : Frm n0 w1 fb bm (n + 1) tv tags (stepW x (11, .name)).1 (stepW x (11, .name)).2.1 (stepW x (11, .name)).2.2 := S1
  have Q1 := St.fresh S1' (small_step hs _) k v1
  have O1 : Hid (OutAt w1 w.heap.size) := O0.out.but B1 (fun e => by rcases e with e | e <;> omega)
  have HW : Hid (But (Two fb bm) w w1) := but_box B1
  have l1 : w.heap.size < w1.heap.size := O1.out.1.lt
  clear hv1 S1 S1' B1 F0 O0
  have F1 := Q1.name (by have := HH.out; omega) 41 (by omega) (by omega)
  clear Q1
  go_wp2_with fail
  refine F1.mono ?_
  rintro e w2 ⟨v2, rfl, hv2, S2⟩
  have c2 := S2.ask.2.2.1
  have f2 := S2.fz 2
  have T2 := S2.set2 v2
  have HV2 : Hid (v2 = gotN x [(11, .name)] 41) := hv2
  have HT : Hid (St (boxA w1 k v1 ⟨#[]⟩ ⟨#[]⟩ ⟨#[]⟩ 0 0 0 0 0 0 0 0 (.slice none 0 0)) n0 (w2.setCell ⟨w1.heap.size, 2, none⟩ (.string v2)) fb bm w1.heap.size (n + 1 + 1) tv tags (runS x [(11, .name), (41, .name)]) k v1 v2 ⟨#[]⟩ ⟨#[]⟩ 0 0 0 0 0 0 0 0 (.slice none 0 0) []) := T2
  clear F1 hv2 T2
  have O9 : OutAt w2 w.heap.size := by
    have o := O1.out.but ((But.refl (fun _ => False) w1).alloc (.cells #[.int .i64 k, .string v1, .string ⟨#[]⟩, .string ⟨#[]⟩, .string ⟨#[]⟩, .int .i64 0, .int .i64 0, .int .i64 0, .int .i64 0, .int .i64 0, .int .i64 0, .int .i64 0, .int .i64 0, .slice none 0 0] 24)) id
    exact o.but S2.but (fun e => by rcases e with e | e | e <;> omega)
  obtain ⟨r9, z9⟩ := O9
  obtain ⟨r0, r1, r2, r3, r4, r5, r6, r7, r8, r9, r10, r11, r12, r13⟩ := r9
  obtain ⟨d0, d1, d2, d3, d4, d5, d6, d7, d8, d9, d10, d11, d12, d13⟩ := S2.ask
  have nb : ¬ w1.heap.size = w.heap.size := by omega
  have nb' : ¬ w.heap.size = w1.heap.size := by omega
  clear c2
  have O10 : OutAt (w2.setCell ⟨w1.heap.size, 2, none⟩ (.string v2)) w.heap.size := OutAt.but ⟨⟨r0, r1, r2, r3, r4, r5, r6, r7, r8, r9, r10, r11, r12, r13⟩, z9⟩ ((But.refl (fun j => j = w1.heap.size) w2).setCell w1.heap.size 2 _ (fun _ => rfl)) (by omega)
  have P0 := put_at O10.1 k v1 v2 ⟨#[]⟩ ⟨#[]⟩ 0 0 0 0 0 0 0 0 (.slice none 0 0)
  have P : Hid (AskAt (put14 (w2.setCell ⟨w1.heap.size, 2, none⟩ (.string v2)) w.heap.size k v1 v2 ⟨#[]⟩ ⟨#[]⟩ 0 0 0 0 0 0 0 0 (.slice none 0 0)) w.heap.size k v1 v2 ⟨#[]⟩ ⟨#[]⟩ 0 0 0 0 0 0 0 0 (.slice none 0 0)) := P0
  have PB : Hid (But (fun j => j = w.heap.size) (w2.setCell ⟨w1.heap.size, 2, none⟩ (.string v2)) (put14 (w2.setCell ⟨w1.heap.size, 2, none⟩ (.string v2)) w.heap.size k v1 v2 ⟨#[]⟩ ⟨#[]⟩ 0 0 0 0 0 0 0 0 (.slice none 0 0))) := put_but _ _ _ _ _ _ _ _ _ _ _ _ _ _ _ _
  clear S2 P0 O10
  go_wp2_with fail
  have P' := P.out
  have PB' := PB.out
  unfold put14 at P' PB'
  clear P PB
  generalize hW9 : World.setCell _ ⟨w.heap.size, 13, none⟩ _ = W9 at *
  obtain ⟨p0, p1, p2, p3, p4, p5, p6, p7, p8, p9, p10, p11, p12, p13⟩ := P'
  refine bodyPost_ret (v := .agg #[.int .i64 k, .string v1, .string v2, .string ⟨#[]⟩, .string ⟨#[]⟩, .int .i64 0, .int .i64 0, .int .i64 0, .int .i64 0, .int .i64 0, .int .i64 0, .int .i64 0, .int .i64 0, .slice none 0 0]) (by simp [results, Tryz.results32, go_sem, p0, p1, p2, p3, p4, p5, p6, p7, p8, p9, p10, p11, p12, p13]) rfl ⟨n + 1 + 1, v1, v2, rfl, ?_, HV1.out, HV2.out⟩
  exact red_close HT.out HW.out PB' lf lm lt l1
set_option maxHeartbeats 8000000 in
theorem read_amend {n0 : Nat} {w : World} {fb bm n : Nat} {tv : Value} {tags : List Int} {x : StP} (h : Frm n0 w fb bm n tv tags x.1 x.2.1 x.2.2) (hs : SmallL x.1) (hn : n ≤ 900) :
    Calls Tryz.prog 32 #[.pointer (some ⟨fb, 0, none⟩), .int .i64 3] w fun e w' => ∃ n' i t q p en, e = .returned (.agg #[.int .i64 3, .string i, .string t, .string ⟨#[]⟩, .string ⟨#[]⟩, .int .i64 0, .int .i64 q, .int .i64 p, .int .i64 0, .int .i64 0, .int .i64 en, .int .i64 0, .int .i64 0, .slice none 0 0]) ∧ Red w n0 w' fb bm n' tv tags (runS x (headW 3)) (.slice none 0 0) [] ∧ i = gotN x [] 11 ∧ t = gotN x [(11, .name)] 41 ∧ q = gotI x [(11, .name), (41, .name)] 38 1 1099511627776 ∧ p = gotI x [(11, .name), (41, .name), (38, .int 1 1099511627776)] 44 1 1099511627776 ∧ en = gotI x [(11, .name), (41, .name), (38, .int 1 1099511627776), (44, .int 1 1099511627776)] 5003 0 1099511627776 := by
  skip
  have HH : Hid (n ≤ 900) := hn
  have h1 := h.still ((Below.refl _ w).alloc (Nat.le_refl _) (.cells #[.int .i64 0, .string ⟨#[]⟩, .string ⟨#[]⟩, .string ⟨#[]⟩, .string ⟨#[]⟩, .int .i64 0, .int .i64 0, .int .i64 0, .int .i64 0, .int .i64 0, .int .i64 0, .int .i64 0, .int .i64 0, .slice none 0 0] 24))
  have lf : fb < w.heap.size := h.lt
  have lm : bm < w.heap.size := h.map.lt
  have lt : tv.ownBlock ≠ some w.heap.size := fun e => by have := (h.own.lt _ e).2; omega
  have F0 := name_any h1 (by omega) 11 (by omega) (by omega)
  have O0 : Hid (OutAt (w.alloc (.cells #[.int .i64 0, .string ⟨#[]⟩, .string ⟨#[]⟩, .string ⟨#[]⟩, .string ⟨#[]⟩, .int .i64 0, .int .i64 0, .int .i64 0, .int .i64 0, .int .i64 0, .int .i64 0, .int .i64 0, .int .i64 0, .slice none 0 0] 24)) w.heap.size) := OutAt.box w
  clear h h1 hn
  go_enter Tryz.func32, Tryz.ntmps32
  go_wp2_with fail
  refine F0.mono ?_
  rintro e w1 ⟨v1, rfl, hv1, S1, B1⟩
  have HV1 : Hid (v1 = gotN x [] 11) := hv1
  have S1' : Frm n0 w1 fb bm (n + 1) tv tags (stepW x (11, .name)).1 (stepW x (11, .name)).2.1 (stepW x (11, .name)).2.2 := S1
  have Q1 := St.fresh S1' (small_step hs _) 3 v1
  have O1 : Hid (OutAt w1 w.heap.size) := O0.out.but B1 (fun e => by rcases e with e | e <;> omega)
  have HW : Hid (But (Two fb bm) w w1) := but_box B1
  have l1 : w.heap.size < w1.heap.size := O1.out.1.lt
  clear hv1 S1 S1' B1 F0 O0
  have F1 := Q1.name (by have := HH.out; omega) 41 (by omega) (by omega)
  clear Q1
  go_wp2_with fail
  refine F1.mono ?_
  rintro e w2 ⟨v2, rfl, hv2, S2⟩
  have c2 := S2.ask.2.2.1
  have f2 := S2.fz 2
  have F2 := readWorth_any (S2.set2 v2) (by have := HH.out; omega)
  have HV2 : Hid (v2 = gotN x [(11, .name)] 41) := hv2
  clear F1 hv2 S2
  go_wp2_with fail
  refine F2.mono ?_
  rintro e w3 ⟨rfl, vq, vp, S3, hvq, hvp⟩
  have HVq : Hid (vq = gotI x [(11, .name), (41, .name)] 38 1 1099511627776) := hvq
  have HVp : Hid (vp = gotI x [(11, .name), (41, .name), (38, .int 1 1099511627776)] 44 1 1099511627776) := hvp
  have F3 := S3.int (by have := HH.out; omega) 5003 0 1099511627776 (by omega) (by omega)
  clear F2 hvq hvp S3 c2 f2
  go_wp2_with fail
  refine F3.mono ?_
  rintro e w4 ⟨ve, rfl, hve, S4⟩
  have HVe : Hid (ve = gotI x [(11, .name), (41, .name), (38, .int 1 1099511627776), (44, .int 1 1099511627776)] 5003 0 1099511627776) := hve
  have HT : Hid (St (boxA w1 3 v1 ⟨#[]⟩ ⟨#[]⟩ ⟨#[]⟩ 0 0 0 0 0 0 0 0 (.slice none 0 0)) n0 (w4.setCell ⟨w1.heap.size, 10, none⟩ (.int .i64 ve)) fb bm w1.heap.size (n + 1 + 1 + 2 + 1) tv tags (runS x (headW 3)) 3 v1 v2 ⟨#[]⟩ ⟨#[]⟩ 0 vq vp 0 0 ve 0 0 (.slice none 0 0) []) := S4.set10 ve
  clear F3 hve
  have O9 : OutAt w4 w.heap.size := by
    have o := O1.out.but ((But.refl (fun _ => False) w1).alloc (.cells #[.int .i64 3, .string v1, .string ⟨#[]⟩, .string ⟨#[]⟩, .string ⟨#[]⟩, .int .i64 0, .int .i64 0, .int .i64 0, .int .i64 0, .int .i64 0, .int .i64 0, .int .i64 0, .int .i64 0, .slice none 0 0] 24)) id
    exact o.but S4.but (fun e => by rcases e with e | e | e <;> omega)
  have O9' := O9
  obtain ⟨r9, z9⟩ := O9'
  obtain ⟨r0, r1, r2, r3, r4, r5, r6, r7, r8, r9, r10, r11, r12, r13⟩ := r9
  obtain ⟨d0, d1, d2, d3, d4, d5, d6, d7, d8, d9, d10, d11, d12, d13⟩ := S4.ask
  have fz := S4.fz
  have nb : ¬ w1.heap.size = w.heap.size := by omega
  have nb' : ¬ w.heap.size = w1.heap.size := by omega
  have O10 : OutAt (w4.setCell ⟨w1.heap.size, 10, none⟩ (.int .i64 ve)) w.heap.size := O9.but ((But.refl (fun j => j = w1.heap.size) w4).setCell w1.heap.size 10 _ (fun _ => rfl)) (by omega)
  have P : Hid (AskAt (put14 (w4.setCell ⟨w1.heap.size, 10, none⟩ (.int .i64 ve)) w.heap.size 3 v1 v2 ⟨#[]⟩ ⟨#[]⟩ 0 vq vp 0 0 ve 0 0 (.slice none 0 0)) w.heap.size 3 v1 v2 ⟨#[]⟩ ⟨#[]⟩ 0 vq vp 0 0 ve 0 0 (.slice none 0 0)) := put_at O10.1 3 v1 v2 ⟨#[]⟩ ⟨#[]⟩ 0 vq vp 0 0 ve 0 0 (.slice none 0 0)
  have PB : Hid (But (fun j => j = w.heap.size) (w4.setCell ⟨w1.heap.size, 10, none⟩ (.int .i64 ve)) (put14 (w4.setCell ⟨w1.heap.size, 10, none⟩ (.int .i64 ve)) w.heap.size 3 v1 v2 ⟨#[]⟩ ⟨#[]⟩ 0 vq vp 0 0 ve 0 0 (.slice none 0 0))) := put_but _ _ _ _ _ _ _ _ _ _ _ _ _ _ _ _
  clear S4 O10 O9
  go_wp2_with fail
  have P' := P.out
  have PB' := PB.out
  unfold put14 at P' PB'
  clear P PB
  generalize hW9 : World.setCell _ ⟨w.heap.size, 13, none⟩ _ = W9 at *
  obtain ⟨p0, p1, p2, p3, p4, p5, p6, p7, p8, p9, p10, p11, p12, p13⟩ := P'
  refine bodyPost_ret (v := .agg #[.int .i64 3, .string v1, .string v2, .string ⟨#[]⟩, .string ⟨#[]⟩, .int .i64 0, .int .i64 vq, .int .i64 vp, .int .i64 0, .int .i64 0, .int .i64 ve, .int .i64 0, .int .i64 0, (.slice none 0 0)]) (by simp [results, Tryz.results32, go_sem, p0, p1, p2, p3, p4, p5, p6, p7, p8, p9, p10, p11, p12, p13]) rfl ⟨n + 1 + 1 + 2 + 1, v1, v2, vq, vp, ve, rfl, ?_, HV1.out, HV2.out, HVq.out, HVp.out, HVe.out⟩
  exact red_close HT.out HW.out PB' lf lm lt l1
set_option maxHeartbeats 8000000 in
theorem read_new {n0 : Nat} {w : World} {fb bm n : Nat} {tv : Value} {tags : List Int} {x : StP} (h : Frm n0 w fb bm n tv tags x.1 x.2.1 x.2.2) (hs : SmallL x.1) (hn : n ≤ 900) :
    Calls Tryz.prog 32 #[.pointer (some ⟨fb, 0, none⟩), .int .i64 1] w fun e w' => ∃ n' i c s sd q p al st en ra sh a d cz, e = .returned (.agg #[.int .i64 1, .string i, .string ⟨#[]⟩, .string c, .string s, .int .i64 sd, .int .i64 q, .int .i64 p, .int .i64 al, .int .i64 st, .int .i64 en, .int .i64 ra, .int .i64 sh, .slice a cz.length d]) ∧ Red w n0 w' fb bm n' tv tags (runS (runS (stepW x (11, .name)) ordW) (tailW al)) (.slice a cz.length d) cz ∧ i = gotN x [] 11 ∧ Ordered (stepW x (11, .name)) c s sd q p al st en ∧ ra = (if al = 3 then gotI (stepW x (11, .name)) ordW 5004 1 10000 else 0) ∧ sh = (if al = 4 then gotI (stepW x (11, .name)) ordW 5005 1 1099511627776 else 0) ∧ cz = (if al = 2 then (gotL (stepW x (11, .name)) ordW 5006 64 0 1048576).map (fun n : Nat => (n : Int)) else []) := by
  skip
  have HH : Hid (n ≤ 900) := hn
  have h1 := h.still ((Below.refl _ w).alloc (Nat.le_refl _) (.cells #[.int .i64 0, .string ⟨#[]⟩, .string ⟨#[]⟩, .string ⟨#[]⟩, .string ⟨#[]⟩, .int .i64 0, .int .i64 0, .int .i64 0, .int .i64 0, .int .i64 0, .int .i64 0, .int .i64 0, .int .i64 0, .slice none 0 0] 24))
  have lf : fb < w.heap.size := h.lt
  have lm : bm < w.heap.size := h.map.lt
  have lt : tv.ownBlock ≠ some w.heap.size := fun e => by have := (h.own.lt _ e).2; omega
  have F0 := name_any h1 (by omega) 11 (by omega) (by omega)
  have O0 : Hid (OutAt (w.alloc (.cells #[.int .i64 0, .string ⟨#[]⟩, .string ⟨#[]⟩, .string ⟨#[]⟩, .string ⟨#[]⟩, .int .i64 0, .int .i64 0, .int .i64 0, .int .i64 0, .int .i64 0, .int .i64 0, .int .i64 0, .int .i64 0, .slice none 0 0] 24)) w.heap.size) := OutAt.box w
  clear h h1 hn
  go_enter Tryz.func32, Tryz.ntmps32
  go_wp2_with fail
  refine F0.mono ?_
  rintro e w1 ⟨v1, rfl, hv1, S1, B1⟩
  have HV1 : Hid (v1 = gotN x [] 11) := hv1
  have S1' : Frm n0 w1 fb bm (n + 1) tv tags (stepW x (11, .name)).1 (stepW x (11, .name)).2.1 (stepW x (11, .name)).2.2 := S1
  have Q1 := St.fresh S1' (small_step hs _) 1 v1
  have O1 : Hid (OutAt w1 w.heap.size) := O0.out.but B1 (fun e => by rcases e with e | e <;> omega)
  have HW : Hid (But (Two fb bm) w w1) := but_box B1
  have l1 : w.heap.size < w1.heap.size := O1.out.1.lt
  clear hv1 S1 S1' B1 F0 O0
  have F1 := readOrder_any Q1 (by have := HH.out; omega)
  clear Q1
  go_wp2_with fail
  refine F1.mono ?_
  rintro e w2 ⟨rfl, n2, vc, vs, vd, vq, vp, va, vt, ve, vr, vh, cv, cz, S2, HO, hr, hh, hz⟩
  obtain ⟨a9, c9, rfl⟩ : ∃ a d, cv = .slice a cz.length d := by
    obtain ⟨base, _, _, _, own⟩ := S2.own
    exact own_shape own
  have HFS : Hid (Ordered (stepW x (11, .name)) vc vs vd vq vp va vt ve ∧ vr = (if va = 3 then gotI (stepW x (11, .name)) ordW 5004 1 10000 else 0) ∧ vh = (if va = 4 then gotI (stepW x (11, .name)) ordW 5005 1 1099511627776 else 0) ∧ cz = (if va = 2 then (gotL (stepW x (11, .name)) ordW 5006 64 0 1048576).map (fun n : Nat => (n : Int)) else [])) := ⟨HO, hr, hh, hz⟩
  have HT : Hid (St (boxA w1 1 v1 ⟨#[]⟩ ⟨#[]⟩ ⟨#[]⟩ 0 0 0 0 0 0 0 0 (.slice none 0 0)) n0 w2 fb bm w1.heap.size n2 tv tags (runS (runS (stepW x (11, .name)) ordW) (tailW va)) 1 v1 ⟨#[]⟩ vc vs vd vq vp va vt ve vr vh (.slice a9 cz.length c9) cz) := S2
  clear F1 HO hr hh hz
  have O9 : OutAt w2 w.heap.size := by
    have o := O1.out.but ((But.refl (fun _ => False) w1).alloc (.cells #[.int .i64 1, .string v1, .string ⟨#[]⟩, .string ⟨#[]⟩, .string ⟨#[]⟩, .int .i64 0, .int .i64 0, .int .i64 0, .int .i64 0, .int .i64 0, .int .i64 0, .int .i64 0, .int .i64 0, .slice none 0 0] 24)) id
    exact o.but S2.but (fun e => by rcases e with e | e | e <;> omega)
  have O9' := O9
  obtain ⟨r9, z9⟩ := O9'
  obtain ⟨r0, r1, r2, r3, r4, r5, r6, r7, r8, r9, r10, r11, r12, r13⟩ := r9
  obtain ⟨d0, d1, d2, d3, d4, d5, d6, d7, d8, d9, d10, d11, d12, d13⟩ := S2.ask
  have fz := S2.fz
  have nb : ¬ w1.heap.size = w.heap.size := by omega
  have nb' : ¬ w.heap.size = w1.heap.size := by omega
  have O10 : OutAt w2 w.heap.size := O9
  have P : Hid (AskAt (put14 w2 w.heap.size 1 v1 ⟨#[]⟩ vc vs vd vq vp va vt ve vr vh (.slice a9 cz.length c9)) w.heap.size 1 v1 ⟨#[]⟩ vc vs vd vq vp va vt ve vr vh (.slice a9 cz.length c9)) := put_at O10.1 1 v1 ⟨#[]⟩ vc vs vd vq vp va vt ve vr vh (.slice a9 cz.length c9)
  have PB : Hid (But (fun j => j = w.heap.size) w2 (put14 w2 w.heap.size 1 v1 ⟨#[]⟩ vc vs vd vq vp va vt ve vr vh (.slice a9 cz.length c9))) := put_but _ _ _ _ _ _ _ _ _ _ _ _ _ _ _ _
  clear S2 O10 O9
  go_wp2_with fail
  have P' := P.out
  have PB' := PB.out
  unfold put14 at P' PB'
  clear P PB
  generalize hW9 : World.setCell _ ⟨w.heap.size, 13, none⟩ _ = W9 at *
  obtain ⟨p0, p1, p2, p3, p4, p5, p6, p7, p8, p9, p10, p11, p12, p13⟩ := P'
  refine bodyPost_ret (v := .agg #[.int .i64 1, .string v1, .string ⟨#[]⟩, .string vc, .string vs, .int .i64 vd, .int .i64 vq, .int .i64 vp, .int .i64 va, .int .i64 vt, .int .i64 ve, .int .i64 vr, .int .i64 vh, (.slice a9 cz.length c9)]) (by simp [results, Tryz.results32, go_sem, p0, p1, p2, p3, p4, p5, p6, p7, p8, p9, p10, p11, p12, p13]) rfl ⟨n2, v1, vc, vs, vd, vq, vp, va, vt, ve, vr, vh, a9, c9, cz, rfl, ?_, HV1.out, HFS.out⟩
  exact red_close HT.out HW.out PB' lf lm lt l1
end Go.Proofs.YtepkmbpadhfbmaaGreatDoor
/-
  The table of the kinds' letters in memory; the contract of ask's kindOf.
-/
namespace Go.Proofs.YtepkmbpadhfbmaaGreatDoor
open Go.ChangeShapes Go.WideShapes Go.ChangeAt Go.RowKit Go.Lib

/-- Six texts lie where the table of letters lies. -/
def Let6 (w : World) (l0 l1 l2 l3 l4 l5 : ByteArray) : Prop := w.cell? ⟨0, 0, none⟩ = some (.string l0) ∧ w.cell? ⟨0, 1, none⟩ = some (.string l1) ∧ w.cell? ⟨0, 2, none⟩ = some (.string l2) ∧ w.cell? ⟨0, 3, none⟩ = some (.string l3) ∧ w.cell? ⟨0, 4, none⟩ = some (.string l4) ∧ w.cell? ⟨0, 5, none⟩ = some (.string l5)
/-- The table of letters is laid. -/
def Let (w : World) : Prop := Let6 w ⟨#[]⟩ ⟨#[68]⟩ ⟨#[70]⟩ ⟨#[71]⟩ ⟨#[85, 80]⟩ ⟨#[85, 82]⟩
theorem Let6.below {w w' : World} {l0 l1 l2 l3 l4 l5 : ByteArray} {n : Nat} (h : Let6 w l0 l1 l2 l3 l4 l5) (hb : Below n w w') (hn : w.heap.size ≤ n) : Let6 w' l0 l1 l2 l3 l4 l5 := by
  obtain ⟨h0, h1, h2, h3, h4, h5⟩ := h
  have lt := Nat.lt_of_lt_of_le (World.block_lt_of_cell? _ _ h0) hn
  exact ⟨(hb.cell (p := ⟨0, 0, none⟩) lt).trans h0, (hb.cell (p := ⟨0, 1, none⟩) lt).trans h1, (hb.cell (p := ⟨0, 2, none⟩) lt).trans h2, (hb.cell (p := ⟨0, 3, none⟩) lt).trans h3, (hb.cell (p := ⟨0, 4, none⟩) lt).trans h4, (hb.cell (p := ⟨0, 5, none⟩) lt).trans h5⟩
theorem Let.still {w w' : World} (h : Let w) (hb : Below w.heap.size w w') : Let w' := Let6.below h hb (Nat.le_refl _)
/-- The first of six texts that is s, or 0. -/
def firstL (l0 l1 l2 l3 l4 l5 s : ByteArray) : Nat := if l0 = s then 0 else if l1 = s then 1 else if l2 = s then 2 else if l3 = s then 3 else if l4 = s then 4 else if l5 = s then 5 else 0
theorem first_kind (s : ByteArray) : ((firstL ⟨#[]⟩ ⟨#[68]⟩ ⟨#[70]⟩ ⟨#[71]⟩ ⟨#[85, 80]⟩ ⟨#[85, 82]⟩ s : Nat) : Int) = kindOf s := by
  have sw : ∀ a : ByteArray, (a = s) = (s = a) := fun a => propext ⟨Eq.symm, Eq.symm⟩
  unfold firstL kindOf
  simp only [sw]
  by_cases h0 : s = ⟨#[]⟩
  · subst h0
    decide
  rw [if_neg h0]
  repeat' split
  all_goals first | rfl | omega
set_option maxHeartbeats 4000000 in
theorem kindOf_at (l0 l1 l2 l3 l4 l5 s : ByteArray) (w : World) (h : Let6 w l0 l1 l2 l3 l4 l5) :
    Calls Tryz.prog 30 #[.string s] w fun e w' => e = .returned (.int .i64 (firstL l0 l1 l2 l3 l4 l5 s : Nat)) ∧ w' = w := by
  obtain ⟨h0, h1, h2, h3, h4, h5⟩ := h
  have i0 : ∀ (w : World), (Instr.index 82 (.agg #[.string l0, .string l1, .string l2, .string l3, .string l4, .string l5]) (.int .i64 0)).run Tryz.prog w = .ok (.string l0) w := fun _ => by kernel_rfl
  have i1 : ∀ (w : World), (Instr.index 82 (.agg #[.string l0, .string l1, .string l2, .string l3, .string l4, .string l5]) (.int .i64 1)).run Tryz.prog w = .ok (.string l1) w := fun _ => by kernel_rfl
  have i2 : ∀ (w : World), (Instr.index 82 (.agg #[.string l0, .string l1, .string l2, .string l3, .string l4, .string l5]) (.int .i64 2)).run Tryz.prog w = .ok (.string l2) w := fun _ => by kernel_rfl
  have i3 : ∀ (w : World), (Instr.index 82 (.agg #[.string l0, .string l1, .string l2, .string l3, .string l4, .string l5]) (.int .i64 3)).run Tryz.prog w = .ok (.string l3) w := fun _ => by kernel_rfl
  have i4 : ∀ (w : World), (Instr.index 82 (.agg #[.string l0, .string l1, .string l2, .string l3, .string l4, .string l5]) (.int .i64 4)).run Tryz.prog w = .ok (.string l4) w := fun _ => by kernel_rfl
  have i5 : ∀ (w : World), (Instr.index 82 (.agg #[.string l0, .string l1, .string l2, .string l3, .string l4, .string l5]) (.int .i64 5)).run Tryz.prog w = .ok (.string l5) w := fun _ => by kernel_rfl
  have q0 := beq_bytes l0 s
  have q1 := beq_bytes l1 s
  have q2 := beq_bytes l2 s
  have q3 := beq_bytes l3 s
  have q4 := beq_bytes l4 s
  have q5 := beq_bytes l5 s
  go_enter Tryz.func30, Tryz.ntmps30
  go_wp2_with fail
  go_loopw [6] (fun i wr => ∃ k : Nat, i = .int .i64 (k : Int) ∧ k ≤ 6 ∧ Hid ((0 < k → l0 ≠ s) ∧ (1 < k → l1 ≠ s) ∧ (2 < k → l2 ≠ s) ∧ (3 < k → l3 ≠ s) ∧ (4 < k → l4 ≠ s) ∧ (5 < k → l5 ≠ s)) ∧ wr = w) (fun i _ => 6 - (RowKit.intOf i).toNat)
  case atStart => exact ⟨0, rfl, by omega, ⟨fun h => absurd h (by omega), fun h => absurd h (by omega), fun h => absurd h (by omega), fun h => absurd h (by omega), fun h => absurd h (by omega), fun h => absurd h (by omega)⟩, rfl⟩
  case round =>
    obtain ⟨k, rfl, hk, HN, rfl⟩ := hrel
    rcases (show k = 0 ∨ k = 1 ∨ k = 2 ∨ k = 3 ∨ k = 4 ∨ k = 5 ∨ k = 6 by omega) with rfl | rfl | rfl | rfl | rfl | rfl | rfl
    · by_cases h : l0 = s
      · rw [decide_eq_true h] at q0
        have HE : Hid (firstL l0 l1 l2 l3 l4 l5 s = 0) := by
          have H := HN.out
          show firstL l0 l1 l2 l3 l4 l5 s = 0
          unfold firstL
          rw [if_pos h]
        clear h HN
        go_wp2_with fail
        go_ret
        exact ⟨by rw [HE.out]; rfl, rfl⟩
      · rw [decide_eq_false h] at q0
        have HN2 : Hid ((0 < 1 → l0 ≠ s) ∧ (1 < 1 → l1 ≠ s) ∧ (2 < 1 → l2 ≠ s) ∧ (3 < 1 → l3 ≠ s) ∧ (4 < 1 → l4 ≠ s) ∧ (5 < 1 → l5 ≠ s)) := ⟨fun _ => h, fun g => absurd g (by omega), fun g => absurd g (by omega), fun g => absurd g (by omega), fun g => absurd g (by omega), fun g => absurd g (by omega)⟩
        clear h HN
        go_wp2_with fail
        go_roundw
        case rel => exact ⟨1, by first | rfl | simp, by omega, HN2, by first | trivial | rfl⟩
        case measure => simp [RowKit.intOf]
    · by_cases h : l1 = s
      · rw [decide_eq_true h] at q1
        have HE : Hid (firstL l0 l1 l2 l3 l4 l5 s = 1) := by
          have H := HN.out
          show firstL l0 l1 l2 l3 l4 l5 s = 1
          unfold firstL
          rw [if_neg (H.1 (by omega)), if_pos h]
        clear h HN
        go_wp2_with fail
        go_ret
        exact ⟨by rw [HE.out]; rfl, rfl⟩
      · rw [decide_eq_false h] at q1
        have HN2 : Hid ((0 < 2 → l0 ≠ s) ∧ (1 < 2 → l1 ≠ s) ∧ (2 < 2 → l2 ≠ s) ∧ (3 < 2 → l3 ≠ s) ∧ (4 < 2 → l4 ≠ s) ∧ (5 < 2 → l5 ≠ s)) := ⟨fun _ => HN.out.1 (by omega), fun _ => h, fun g => absurd g (by omega), fun g => absurd g (by omega), fun g => absurd g (by omega), fun g => absurd g (by omega)⟩
        clear h HN
        go_wp2_with fail
        go_roundw
        case rel => exact ⟨2, by first | rfl | simp, by omega, HN2, by first | trivial | rfl⟩
        case measure => simp [RowKit.intOf]
    · by_cases h : l2 = s
      · rw [decide_eq_true h] at q2
        have HE : Hid (firstL l0 l1 l2 l3 l4 l5 s = 2) := by
          have H := HN.out
          show firstL l0 l1 l2 l3 l4 l5 s = 2
          unfold firstL
          rw [if_neg (H.1 (by omega)), if_neg (H.2.1 (by omega)), if_pos h]
        clear h HN
        go_wp2_with fail
        go_ret
        exact ⟨by rw [HE.out]; rfl, rfl⟩
      · rw [decide_eq_false h] at q2
        have HN2 : Hid ((0 < 3 → l0 ≠ s) ∧ (1 < 3 → l1 ≠ s) ∧ (2 < 3 → l2 ≠ s) ∧ (3 < 3 → l3 ≠ s) ∧ (4 < 3 → l4 ≠ s) ∧ (5 < 3 → l5 ≠ s)) := ⟨fun _ => HN.out.1 (by omega), fun _ => HN.out.2.1 (by omega), fun _ => h, fun g => absurd g (by omega), fun g => absurd g (by omega), fun g => absurd g (by omega)⟩
        clear h HN
        go_wp2_with fail
        go_roundw
        case rel => exact ⟨3, by first | rfl | simp, by omega, HN2, by first | trivial | rfl⟩
        case measure => simp [RowKit.intOf]
    · by_cases h : l3 = s
      · rw [decide_eq_true h] at q3
        have HE : Hid (firstL l0 l1 l2 l3 l4 l5 s = 3) := by
          have H := HN.out
          show firstL l0 l1 l2 l3 l4 l5 s = 3
          unfold firstL
          rw [if_neg (H.1 (by omega)), if_neg (H.2.1 (by omega)), if_neg (H.2.2.1 (by omega)), if_pos h]
        clear h HN
        go_wp2_with fail
        go_ret
        exact ⟨by rw [HE.out]; rfl, rfl⟩
      · rw [decide_eq_false h] at q3
        have HN2 : Hid ((0 < 4 → l0 ≠ s) ∧ (1 < 4 → l1 ≠ s) ∧ (2 < 4 → l2 ≠ s) ∧ (3 < 4 → l3 ≠ s) ∧ (4 < 4 → l4 ≠ s) ∧ (5 < 4 → l5 ≠ s)) := ⟨fun _ => HN.out.1 (by omega), fun _ => HN.out.2.1 (by omega), fun _ => HN.out.2.2.1 (by omega), fun _ => h, fun g => absurd g (by omega), fun g => absurd g (by omega)⟩
        clear h HN
        go_wp2_with fail
        go_roundw
        case rel => exact ⟨4, by first | rfl | simp, by omega, HN2, by first | trivial | rfl⟩
        case measure => simp [RowKit.intOf]
    · by_cases h : l4 = s
      · rw [decide_eq_true h] at q4
        have HE : Hid (firstL l0 l1 l2 l3 l4 l5 s = 4) := by
          have H := HN.out
          show firstL l0 l1 l2 l3 l4 l5 s = 4
          unfold firstL
          rw [if_neg (H.1 (by omega)), if_neg (H.2.1 (by omega)), if_neg (H.2.2.1 (by omega)), if_neg (H.2.2.2.1 (by omega)), if_pos h]
        clear h HN
        go_wp2_with fail
        go_ret
        exact ⟨by rw [HE.out]; rfl, rfl⟩
      · rw [decide_eq_false h] at q4
        have HN2 : Hid ((0 < 5 → l0 ≠ s) ∧ (1 < 5 → l1 ≠ s) ∧ (2 < 5 → l2 ≠ s) ∧ (3 < 5 → l3 ≠ s) ∧ (4 < 5 → l4 ≠ s) ∧ (5 < 5 → l5 ≠ s)) := ⟨fun _ => HN.out.1 (by omega), fun _ => HN.out.2.1 (by omega), fun _ => HN.out.2.2.1 (by omega), fun _ => HN.out.2.2.2.1 (by omega), fun _ => h, fun g => absurd g (by omega)⟩
        clear h HN
        go_wp2_with fail
        go_roundw
        case rel => exact ⟨5, by first | rfl | simp, by omega, HN2, by first | trivial | rfl⟩
        case measure => simp [RowKit.intOf]
    · by_cases h : l5 = s
      · rw [decide_eq_true h] at q5
        have HE : Hid (firstL l0 l1 l2 l3 l4 l5 s = 5) := by
          have H := HN.out
          show firstL l0 l1 l2 l3 l4 l5 s = 5
          unfold firstL
          rw [if_neg (H.1 (by omega)), if_neg (H.2.1 (by omega)), if_neg (H.2.2.1 (by omega)), if_neg (H.2.2.2.1 (by omega)), if_neg (H.2.2.2.2.1 (by omega)), if_pos h]
        clear h HN
        go_wp2_with fail
        go_ret
        exact ⟨by rw [HE.out]; rfl, rfl⟩
      · rw [decide_eq_false h] at q5
        have HN2 : Hid ((0 < 6 → l0 ≠ s) ∧ (1 < 6 → l1 ≠ s) ∧ (2 < 6 → l2 ≠ s) ∧ (3 < 6 → l3 ≠ s) ∧ (4 < 6 → l4 ≠ s) ∧ (5 < 6 → l5 ≠ s)) := ⟨fun _ => HN.out.1 (by omega), fun _ => HN.out.2.1 (by omega), fun _ => HN.out.2.2.1 (by omega), fun _ => HN.out.2.2.2.1 (by omega), fun _ => HN.out.2.2.2.2.1 (by omega), fun _ => h⟩
        clear h HN
        go_wp2_with fail
        go_roundw
        case rel => exact ⟨6, by first | rfl | simp, by omega, HN2, by first | trivial | rfl⟩
        case measure => simp [RowKit.intOf]
    · have HE : Hid (firstL l0 l1 l2 l3 l4 l5 s = 0) := by
        have H := HN.out
        show firstL l0 l1 l2 l3 l4 l5 s = 0
        unfold firstL
        rw [if_neg (H.1 (by omega)), if_neg (H.2.1 (by omega)), if_neg (H.2.2.1 (by omega)), if_neg (H.2.2.2.1 (by omega)), if_neg (H.2.2.2.2.1 (by omega)), if_neg (H.2.2.2.2.2 (by omega))]
      clear HN
      go_wp2_with fail
      go_ret
      exact ⟨by rw [HE.out]; rfl, rfl⟩
theorem kindOf_any (s : ByteArray) (w : World) (h : Let w) :
    Calls Tryz.prog 30 #[.string s] w fun e w' => e = .returned (.int .i64 (kindOf s)) ∧ w' = w := by
  refine (kindOf_at ⟨#[]⟩ ⟨#[68]⟩ ⟨#[70]⟩ ⟨#[71]⟩ ⟨#[85, 80]⟩ ⟨#[85, 82]⟩ s w h).mono ?_
  rintro e w' ⟨rfl, rfl⟩
  rw [first_kind]
  exact ⟨rfl, rfl⟩
end Go.Proofs.YtepkmbpadhfbmaaGreatDoor
/-
  What a body is decoded as: the ask, the tag and the error's number (plain).
-/
namespace Go.Proofs.YtepkmbpadhfbmaaGreatDoor
open Go.Lib

/-- A form that is new. -/
abbrev x0F (l : List Fd) : StP := (lookF l, 0, 0)
/-- What is told where no error came, by then and behind. -/
theorem told_at {α : Type} {l : List Fd} (ws1 : List (Int × Want)) (p : Int × Want) (ws2 : List (Int × Want)) (val : ByteArray → α) (zero : α) (h : (runS (x0F l) (ws1 ++ p :: ws2)).2.2 = 0) : askV (runS (x0F l) ws1).1 (runS (x0F l) ws1).2.2 p.1 p.2.err val zero = val (textOf l p.1) := by
  have all := runS_fresh_ok (ws1 ++ p :: ws2) h
  have h1 := runS_fresh (L := lookF l) (at_ := 0) ws1 (fun q hq => all q (by simp [hq]))
  obtain ⟨s, b, e1, e2⟩ := all p (by simp)
  show askV (runS (lookF l, 0, 0) ws1).1 (runS (lookF l, 0, 0) ws1).2.2 p.1 p.2.err val zero = _
  rw [h1]
  dsimp only
  rw [told_fits e1 e2]
  unfold textOf
  rw [e1]
/-- The form behind all asks for a kind. -/
def decS (k : Int) (l : List Fd) : StP := if k = 1 then runS (runS (x0F l) (headW 1)) (tailW (algoOf l)) else runS (x0F l) (headW k)
theorem head_ok {l : List Fd} {al : Int} (h : (runS (runS (x0F l) (headW 1)) (tailW al)).2.2 = 0) : (runS (x0F l) (headW 1)).2.2 = 0 := by
  by_cases e : (runS (x0F l) (headW 1)).2.2 = 0
  · exact e
  · rw [runS_err e] at h
    exact h
/-- The algorithm that was told does not matter where an error came ahead of it. -/
theorem decS_new {l : List Fd} {al : Int} (ha : al = gotI (stepW (x0F l) (11, .name)) [(1, .name), (55, .name), (54, .int 1 2), (38, .int 1 1099511627776), (44, .int 1 1099511627776)] 5001 1 4) : runS (runS (stepW (x0F l) (11, .name)) ordW) (tailW al) = decS 1 l := by
  unfold decS
  rw [if_pos rfl]
  show runS (runS (x0F l) (headW 1)) (tailW al) = _
  by_cases e : (runS (x0F l) (headW 1)).2.2 = 0
  · have := told_at (l := l) [(11, .name), (1, .name), (55, .name), (54, .int 1 2), (38, .int 1 1099511627776), (44, .int 1 1099511627776)] (5001, .int 1 4) [(5002, .int 0 1099511627776), (5003, .int 0 1099511627776)] (fun s => ((intVE s 1 4).1 : Int)) 0 e
    have h2 : al = algoOf l := ha.trans this
    rw [h2]
  · rw [runS_err e, runS_err e]
/-- What Done tells of a form. -/
def doneE (y : StP) (tags : List Int) : Int × Int := if y.2.2 = 0 then spareE y.1 tags else (y.2.1, y.2.2)
/-- No ask. -/
abbrev zeroA : AskP := ⟨0, noText, noText, noText, noText, 0, 0, 0, 0, 0, 0, 0, 0, []⟩
/-- Numbers from 0 on, as any numbers. -/
def intsOf (l : List Nat) : List Int := l.map fun n : Nat => (n : Int)
/-- What fields that are right one by one are together: a tag, an error's number. -/
def wholeE (a : AskP) : Int × Int := if a.kind = 1 ∧ ¬ (1 ≤ a.stop - a.start ∧ a.stop - a.start ≤ 1073741824) then (5003, 282) else if a.algo = 2 ∧ curB (intsOf a.curve) = false then (5006, 30) else (0, 0)
/-- The tag and the error's number of a body's fields. -/
def decE (l : List Fd) : Int × Int := if kindOf (textOf l 35) = 0 then (35, 120) else if (doneE (decS (kindOf (textOf l 35)) l) (l.map Prod.fst)).2 ≠ 0 then doneE (decS (kindOf (textOf l 35)) l) (l.map Prod.fst) else wholeE (askOf (kindOf (textOf l 35)) l)
/-- The tag and the error's number of a text. -/
def decT (l : List UInt8) : Int × Int := if readE l ≠ 0 then (0, (readE l : Int)) else decE (fieldsL l).1
/-- The ask of a text. -/
def decA (l : List UInt8) : AskP := if (decT l).2 = 0 then askOf (kindOf (textOf (fieldsL l).1 35)) (fieldsL l).1 else zeroA
theorem done_run {y : StP} {tags : List Int} (h : (doneE y tags).2 = 0) : y.2.2 = 0 ∧ doneE y tags = (0, 0) ∧ spareE y.1 tags = (0, 0) := by
  unfold doneE at *
  by_cases e : y.2.2 = 0
  · rw [if_pos e] at h ⊢
    rcases spare_cases y.1 tags with ⟨h1, _⟩ | h1
    · exact ⟨e, h1, h1⟩
    · rw [h1] at h
      simp at h
  · rw [if_neg e] at h
    exact absurd h e
theorem whole_zero {a : AskP} (h : (wholeE a).2 = 0) : wholeE a = (0, 0) := by
  unfold wholeE at *
  split at h
  · simp at h
  · rename_i n1
    rw [if_neg n1]
    split at h
    · simp at h
    · rename_i n2
      rw [if_neg n2]
theorem dec_zero {l : List Fd} (h : (decE l).2 = 0) : decE l = (0, 0) := by
  unfold decE at *
  split at h
  · simp at h
  · rename_i n1
    rw [if_neg n1]
    split at h
    · rename_i n2
      exact absurd h n2
    · rename_i n2
      rw [if_neg n2]
      exact whole_zero h
theorem decT_zero {l : List UInt8} (h : (decT l).2 = 0) : decT l = (0, 0) := by
  unfold decT at *
  split at h
  · rename_i n1
    dsimp only at h
    omega
  · rename_i n1
    rw [if_neg n1]
    exact dec_zero h
end Go.Proofs.YtepkmbpadhfbmaaGreatDoor
/-
  The contract of ask's read, for every kind: the form behind it, and the ask where no error came.
-/
namespace Go.Proofs.YtepkmbpadhfbmaaGreatDoor
open Go.ChangeShapes Go.WideShapes Go.ChangeAt Go.RowKit Go.Lib

theorem toNat_ints (l : List Nat) : (intsOf l).map Int.toNat = l := by
  unfold intsOf
  rw [List.map_map]
  have : (Int.toNat ∘ fun n : Nat => (n : Int)) = id := by funext n; simp
  rw [this, List.map_id]
/-- An ask in memory is the one that a body is read as. -/
structure ReadAs (a : AskP) (k : Int) (i t c s : ByteArray) (sd q p al st en ra sh : Int) (cz : List Int) : Prop where
  eq : a = ⟨k, i, t, c, s, sd, q, p, al, st, en, ra, sh, a.curve⟩
  cur : cz = intsOf a.curve
theorem readAs_of {a : AskP} {k : Int} {i t c s : ByteArray} {sd q p al st en ra sh : Int} {cz : List Int} (h0 : k = a.kind) (h1 : i = a.id) (h2 : t = a.target) (h3 : c = a.account) (h4 : s = a.symbol) (h5 : sd = a.side) (h6 : q = a.qty) (h7 : p = a.price) (h8 : al = a.algo) (h9 : st = a.start) (h10 : en = a.stop) (h11 : ra = a.rate) (h12 : sh = a.shown) (h13 : cz = intsOf a.curve) : ReadAs a k i t c s sd q p al st en ra sh cz := by
  subst h0 h1 h2 h3 h4 h5 h6 h7 h8 h9 h10 h11 h12
  exact ⟨rfl, h13⟩
theorem gotI_cons (x : StP) (p : Int × Want) (ws : List (Int × Want)) (t lo hi : Int) : gotI (stepW x p) ws t lo hi = gotI x (p :: ws) t lo hi := rfl
theorem gotL_cons (x : StP) (p : Int × Want) (ws : List (Int × Want)) (t most lo hi : Int) : gotL (stepW x p) ws t most lo hi = gotL x (p :: ws) t most lo hi := rfl
theorem toldI {l : List Fd} {ws : List (Int × Want)} {t lo hi : Int} (h : (runS (x0F l) (ws ++ [(t, .int lo hi)])).2.2 = 0) : gotI (x0F l) ws t lo hi = ((intVE (textOf l t) lo hi).1 : Int) := told_at ws (t, .int lo hi) [] (fun s => ((intVE s lo hi).1 : Int)) 0 h
theorem toldL {l : List Fd} {ws : List (Int × Want)} {t most lo hi : Int} (h : (runS (x0F l) (ws ++ [(t, .ints most lo hi)])).2.2 = 0) : gotL (x0F l) ws t most lo hi = (intsVE (textOf l t) most lo hi).1 := told_at ws (t, .ints most lo hi) [] (fun s => (intsVE s most lo hi).1) [] h
theorem tail2 : tailW 2 = [(5006, .ints 64 0 1048576)] := by unfold tailW; rw [if_pos rfl]
theorem tail3 : tailW 3 = [(5004, .int 1 10000)] := by unfold tailW; rw [if_neg (by omega), if_pos rfl]
theorem tail4 : tailW 4 = [(5005, .int 1 1099511627776)] := by unfold tailW; rw [if_neg (by omega), if_neg (by omega), if_pos rfl]
theorem target_new (l : List Fd) : (askOf 1 l).target = ⟨#[]⟩ := by
  show (if (1 : Int) = 1 then noText else textOf l 41) = _
  rw [if_pos rfl]
set_option maxHeartbeats 500000 in
theorem readAsk_any {n0 : Nat} {w : World} {fb bm n : Nat} {tv : Value} {l : List Fd} (h : Frm n0 w fb bm n tv (l.map Prod.fst) (lookF l) 0 0) (hs : SmallL (lookF l)) (hn : n ≤ 900) (k : Int) (h1 : 1 ≤ k) (h5 : k ≤ 5) :
    Calls Tryz.prog 32 #[.pointer (some ⟨fb, 0, none⟩), .int .i64 k] w fun e w' => ∃ n' i t c s sd q p al st en ra sh a d cz, e = .returned (.agg #[.int .i64 k, .string i, .string t, .string c, .string s, .int .i64 sd, .int .i64 q, .int .i64 p, .int .i64 al, .int .i64 st, .int .i64 en, .int .i64 ra, .int .i64 sh, .slice a cz.length d]) ∧ Red w n0 w' fb bm n' tv (l.map Prod.fst) (decS k l) (.slice a cz.length d) cz ∧ ((decS k l).2.2 = 0 → ReadAs (askOf k l) k i t c s sd q p al st en ra sh cz) := by
  by_cases k1 : k = 1
  · subst k1
    refine (read_new (x := x0F l) h hs hn).mono ?_
    rintro e w' ⟨n', i, c, s, sd, q, p, al, st, en, ra, sh, a, d, cz, rfl, R, hi, O, hra, hsh, hcz⟩
    rw [decS_new O.al] at R
    refine ⟨n', i, ⟨#[]⟩, c, s, sd, q, p, al, st, en, ra, sh, a, d, cz, rfl, R, fun h0 => ?_⟩
    unfold decS at h0
    rw [if_pos rfl] at h0
    have hh := head_ok h0
    have hw : headW 1 = (11, .name) :: ordW := by unfold headW; rw [if_pos rfl]
    have T : ∀ {α : Type} (ws1 : List (Int × Want)) (p : Int × Want) (ws2 : List (Int × Want)) (val : ByteArray → α) (zero : α), ws1 ++ p :: ws2 = (11, .name) :: ordW → askV (runS (x0F l) ws1).1 (runS (x0F l) ws1).2.2 p.1 p.2.err val zero = val (textOf l p.1) := fun ws1 p ws2 val zero e => told_at ws1 p ws2 val zero (by rw [e, ← hw]; exact hh)
    have hal : al = algoOf l := O.al.trans (T [(11, .name), (1, .name), (55, .name), (54, .int 1 2), (38, .int 1 1099511627776), (44, .int 1 1099511627776)] (5001, .int 1 4) [(5002, .int 0 1099511627776), (5003, .int 0 1099511627776)] (fun s => ((intVE s 1 4).1 : Int)) 0 rfl)
    refine readAs_of rfl ?_ ?_ ?_ ?_ ?_ ?_ ?_ ?_ ?_ ?_ ?_ ?_ ?_
    · exact hi.trans (T [] (11, .name) _ id ⟨#[]⟩ rfl)
    · exact (target_new l).symm
    · show c = if (1 : Int) = 1 then textOf l 1 else noText
      rw [if_pos rfl]
      exact O.c.trans (T [(11, .name)] (1, .name) _ id ⟨#[]⟩ rfl)
    · show s = if (1 : Int) = 1 then textOf l 55 else noText
      rw [if_pos rfl]
      exact O.s.trans (T [(11, .name), (1, .name)] (55, .name) _ id ⟨#[]⟩ rfl)
    · show sd = if (1 : Int) = 1 then ((intVE (textOf l 54) 1 2).1 : Int) else 0
      rw [if_pos rfl]
      exact O.sd.trans (T [(11, .name), (1, .name), (55, .name)] (54, .int 1 2) _ (fun s => ((intVE s 1 2).1 : Int)) 0 rfl)
    · show q = if (1 : Int) = 1 ∨ (1 : Int) = 3 then ((intVE (textOf l 38) 1 1099511627776).1 : Int) else 0
      rw [if_pos (.inl rfl)]
      exact O.q.trans (T [(11, .name), (1, .name), (55, .name), (54, .int 1 2)] (38, .int 1 1099511627776) _ (fun s => ((intVE s 1 1099511627776).1 : Int)) 0 rfl)
    · show p = if (1 : Int) = 1 ∨ (1 : Int) = 3 then ((intVE (textOf l 44) 1 1099511627776).1 : Int) else 0
      rw [if_pos (.inl rfl)]
      exact O.p.trans (T [(11, .name), (1, .name), (55, .name), (54, .int 1 2), (38, .int 1 1099511627776)] (44, .int 1 1099511627776) _ (fun s => ((intVE s 1 1099511627776).1 : Int)) 0 rfl)
    · show al = if (1 : Int) = 1 then algoOf l else 0
      rw [if_pos rfl]
      exact hal
    · show st = if (1 : Int) = 1 then ((intVE (textOf l 5002) 0 1099511627776).1 : Int) else 0
      rw [if_pos rfl]
      exact O.st.trans (T [(11, .name), (1, .name), (55, .name), (54, .int 1 2), (38, .int 1 1099511627776), (44, .int 1 1099511627776), (5001, .int 1 4)] (5002, .int 0 1099511627776) _ (fun s => ((intVE s 0 1099511627776).1 : Int)) 0 rfl)
    · show en = if (1 : Int) = 1 ∨ (1 : Int) = 3 then ((intVE (textOf l 5003) 0 1099511627776).1 : Int) else 0
      rw [if_pos (.inl rfl)]
      exact O.en.trans (T [(11, .name), (1, .name), (55, .name), (54, .int 1 2), (38, .int 1 1099511627776), (44, .int 1 1099511627776), (5001, .int 1 4), (5002, .int 0 1099511627776)] (5003, .int 0 1099511627776) [] (fun s => ((intVE s 0 1099511627776).1 : Int)) 0 rfl)
    · show ra = if (1 : Int) = 1 ∧ algoOf l = 3 then ((intVE (textOf l 5004) 1 10000).1 : Int) else 0
      rw [hra, hal]
      by_cases e3 : algoOf l = 3
      · rw [if_pos e3, if_pos ⟨rfl, e3⟩]
        rw [e3, tail3, ← runS_append, hw] at h0
        rw [gotI_cons]
        exact toldI h0
      · rw [if_neg e3, if_neg (fun e => e3 e.2)]
    · show sh = if (1 : Int) = 1 ∧ algoOf l = 4 then ((intVE (textOf l 5005) 1 1099511627776).1 : Int) else 0
      rw [hsh, hal]
      by_cases e4 : algoOf l = 4
      · rw [if_pos e4, if_pos ⟨rfl, e4⟩]
        rw [e4, tail4, ← runS_append, hw] at h0
        rw [gotI_cons]
        exact toldI h0
      · rw [if_neg e4, if_neg (fun e => e4 e.2)]
    · show cz = intsOf (if (1 : Int) = 1 ∧ algoOf l = 2 then (intsVE (textOf l 5006) 64 0 1048576).1 else [])
      rw [hcz, hal]
      by_cases e2 : algoOf l = 2
      · rw [if_pos e2, if_pos ⟨rfl, e2⟩]
        rw [e2, tail2, ← runS_append, hw] at h0
        rw [gotL_cons, toldL h0]
        rfl
      · rw [if_neg e2, if_neg (fun e => e2 e.2)]
        rfl
  have hd : decS k l = runS (x0F l) (headW k) := if_neg k1
  rw [hd]
  by_cases k3 : k = 3
  · subst k3
    refine (read_amend (x := x0F l) h hs hn).mono ?_
    rintro e w' ⟨n', i, t, q, p, en, rfl, R, hi, ht, hq, hp, hen⟩
    refine ⟨n', i, t, ⟨#[]⟩, ⟨#[]⟩, 0, q, p, 0, 0, en, 0, 0, none, 0, [], rfl, R, fun h0 => ?_⟩
    have T : ∀ {α : Type} (ws1 : List (Int × Want)) (p : Int × Want) (ws2 : List (Int × Want)) (val : ByteArray → α) (zero : α), ws1 ++ p :: ws2 = [(11, .name), (41, .name), (38, .int 1 1099511627776), (44, .int 1 1099511627776), (5003, .int 0 1099511627776)] → askV (runS (x0F l) ws1).1 (runS (x0F l) ws1).2.2 p.1 p.2.err val zero = val (textOf l p.1) := fun ws1 p ws2 val zero e => told_at ws1 p ws2 val zero (by rw [e]; exact h0)
    refine readAs_of rfl ?_ ?_ ?_ ?_ ?_ ?_ ?_ ?_ ?_ ?_ ?_ ?_ ?_
    · exact hi.trans (T [] (11, .name) _ id ⟨#[]⟩ rfl)
    · show t = if (3 : Int) = 1 then noText else textOf l 41
      rw [if_neg (by omega)]
      exact ht.trans (T [(11, .name)] (41, .name) _ id ⟨#[]⟩ rfl)
    · rfl
    · rfl
    · rfl
    · show q = if (3 : Int) = 1 ∨ (3 : Int) = 3 then ((intVE (textOf l 38) 1 1099511627776).1 : Int) else 0
      rw [if_pos (.inr rfl)]
      exact hq.trans (T [(11, .name), (41, .name)] (38, .int 1 1099511627776) _ (fun s => ((intVE s 1 1099511627776).1 : Int)) 0 rfl)
    · show p = if (3 : Int) = 1 ∨ (3 : Int) = 3 then ((intVE (textOf l 44) 1 1099511627776).1 : Int) else 0
      rw [if_pos (.inr rfl)]
      exact hp.trans (T [(11, .name), (41, .name), (38, .int 1 1099511627776)] (44, .int 1 1099511627776) _ (fun s => ((intVE s 1 1099511627776).1 : Int)) 0 rfl)
    · rfl
    · rfl
    · show en = if (3 : Int) = 1 ∨ (3 : Int) = 3 then ((intVE (textOf l 5003) 0 1099511627776).1 : Int) else 0
      rw [if_pos (.inr rfl)]
      exact hen.trans (T [(11, .name), (41, .name), (38, .int 1 1099511627776), (44, .int 1 1099511627776)] (5003, .int 0 1099511627776) [] (fun s => ((intVE s 0 1099511627776).1 : Int)) 0 rfl)
    · rfl
    · rfl
    · show [] = intsOf (if (3 : Int) = 1 ∧ algoOf l = 2 then (intsVE (textOf l 5006) 64 0 1048576).1 else [])
      rw [if_neg (by omega)]
      rfl
  · have hk : headW k = [(11, .name), (41, .name)] := by unfold headW; rw [if_neg k1, if_neg k3]
    rw [hk]
    refine (read_plain (x := x0F l) h hs hn k k1 k3).mono ?_
    rintro e w' ⟨n', i, t, rfl, R, hi, ht⟩
    refine ⟨n', i, t, ⟨#[]⟩, ⟨#[]⟩, 0, 0, 0, 0, 0, 0, 0, 0, none, 0, [], rfl, R, fun h0 => ?_⟩
    have T : ∀ {α : Type} (ws1 : List (Int × Want)) (p : Int × Want) (ws2 : List (Int × Want)) (val : ByteArray → α) (zero : α), ws1 ++ p :: ws2 = [(11, .name), (41, .name)] → askV (runS (x0F l) ws1).1 (runS (x0F l) ws1).2.2 p.1 p.2.err val zero = val (textOf l p.1) := fun ws1 p ws2 val zero e => told_at ws1 p ws2 val zero (by rw [e]; exact h0)
    have n13 : ¬ (k = 1 ∨ k = 3) := by rintro (e | e); exact k1 e; exact k3 e
    refine readAs_of rfl ?_ ?_ (if_neg k1).symm (if_neg k1).symm (if_neg k1).symm (if_neg n13).symm (if_neg n13).symm (if_neg k1).symm (if_neg k1).symm (if_neg n13).symm (if_neg (fun e => k1 e.1)).symm (if_neg (fun e => k1 e.1)).symm ?_
    · exact hi.trans (T [] (11, .name) _ id ⟨#[]⟩ rfl)
    · show t = if k = 1 then noText else textOf l 41
      rw [if_neg k1]
      exact ht.trans (T [(11, .name)] (41, .name) [] id ⟨#[]⟩ rfl)
    · show [] = intsOf (if k = 1 ∧ algoOf l = 2 then (intsVE (textOf l 5006) 64 0 1048576).1 else [])
      rw [if_neg (fun e => k1 e.1)]
      rfl
end Go.Proofs.YtepkmbpadhfbmaaGreatDoor
