/-
  A form that is asked for one field after another, beside other memory: what its texts are, what Done tells (for whatever is read out of a form).
-/
import Derived.Test.YtdacmhnniecmhaaDoorWantMath
import Derived.Test.YtdacmhnniecmhaaDoorBodyRead2
namespace Go.Proofs.YtdacmhnniecmhaaDoor
open Go.ChangeShapes Go.WideShapes Go.ChangeAt Go.RowKit Go.Lib

abbrev noText : ByteArray := ⟨#[]⟩
theorem name_fits {s : ByteArray} (h : vldB s = true) : Want.err .name s = 0 := if_pos h
theorem num_fits {n low high : Int} (h0 : 0 ≤ low) (h : low ≤ n ∧ n ≤ high) (hh : high ≤ 1099511627776) : Want.err (.int low high) (numT n) = 0 := by
  show (intVE (numT n) low high).2 = 0
  rw [numT_read (by omega) (by omega) h]
/-- The text of a tag. -/
def textOf (l : List Fd) (t : Int) : ByteArray := match lookF l t with
  | some (s, _) => s
  | none => noText
theorem textOf_mem {l : List Fd} (hn : (l.map Prod.fst).Nodup) {t : Int} {v : ByteArray} (h : (t, v) ∈ l) : textOf l t = v := by
  unfold textOf
  rw [lookF_mem (p := (t, v)) hn h]
theorem fits_text {l : List Fd} {t : Int} {w : Want} (h : Fits (lookF l) (t, w)) : w.err (textOf l t) = 0 := by
  obtain ⟨s, b, h1, h2⟩ := h
  unfold textOf
  dsimp only at h1
  rw [h1]
  exact h2
theorem num_text {n low high : Int} (h0 : 0 ≤ low) (h : low ≤ n ∧ n ≤ high) (hh : high ≤ 1099511627776) : ((intVE (numT n) low high).1 : Int) = n := by
  rw [numT_read (by omega) (by omega) h]
  show ((n.toNat : Nat) : Int) = n
  omega
theorem Frm.keepS {n0 : Nat} {w w' : World} {fb bm n : Nat} {tv : Value} {tags : List Int} {L : Int → Option (ByteArray × Bool)} {at_ e : Int} {S : Nat → Prop} (h : Frm n0 w fb bm n tv tags L at_ e) (k : But S w w') (h1 : ¬ S fb) (h2 : ¬ S bm) (h3 : ∀ g, tv.ownBlock = some g → ¬ S g) : Frm n0 w' fb bm n tv tags L at_ e where
  c0 := (k.cell h.lt h1).trans h.c0
  c1 := (k.cell h.lt h1).trans h.c1
  c2 := (k.cell h.lt h1).trans h.c2
  c3 := (k.cell h.lt h1).trans h.c3
  f1 := (k.frozen h.lt h1).trans h.f1
  f2 := (k.frozen h.lt h1).trans h.f2
  f3 := (k.frozen h.lt h1).trans h.f3
  map := h.map.kept k h2
  own := own_kept h.own k h3
  lof := h.lof
  lom := h.lom
  ne := h.ne
  nf := h.nf
/-- No text of a form is too long. -/
def SmallL (L : Int → Option (ByteArray × Bool)) : Prop := ∀ t s b, L t = some (s, b) → s.size ≤ 1000000
theorem small_step {x : StP} (h : SmallL x.1) (p : Int × Want) : SmallL (stepW x p).1 := by
  unfold stepW
  by_cases he : x.2.2 = 0
  · rw [he]
    cases hL : x.1 p.1 with
    | none => rw [askS_miss _ hL]; exact h
    | some q =>
      obtain ⟨s, b⟩ := q
      by_cases hs : p.2.err s = 0
      · rw [askS_good hL hs]
        intro t s' b' e
        by_cases ht : t = p.1
        · subst ht
          dsimp only at e
          rw [updI_same] at e
          simp only [Option.some.injEq, Prod.mk.injEq] at e
          rw [← e.1]
          exact h _ _ _ hL
        · dsimp only at e
          rw [updI_other _ _ ht] at e
          exact h _ _ _ e
      · rw [askS_bad hL hs]; exact h
  · rw [askS_err _ he]; exact h
/-- What a form tells behind other asks. -/
def gotN (x : StP) (ws : List (Int × Want)) (t : Int) : ByteArray := askV (runS x ws).1 (runS x ws).2.2 t nameVE id ⟨#[]⟩
def gotI (x : StP) (ws : List (Int × Want)) (t lo hi : Int) : Int := askV (runS x ws).1 (runS x ws).2.2 t (fun s => (intVE s lo hi).2) (fun s => ((intVE s lo hi).1 : Int)) 0
/-- A form that is new. -/
abbrev x0F (l : List Fd) : StP := (lookF l, 0, 0)
/-- What is told where no error came, by then and behind. -/
theorem told_at {α : Type} {l : List Fd} (ws1 : List (Int × Want)) (p : Int × Want) (ws2 : List (Int × Want)) (val : ByteArray → α) (zero : α) (h : (runS (x0F l) (ws1 ++ p :: ws2)).2.2 = 0) : askV (runS (x0F l) ws1).1 (runS (x0F l) ws1).2.2 p.1 p.2.err val zero = val (textOf l p.1) := by
  have all := runS_fresh_ok (ws1 ++ p :: ws2) h
  have h1 := runS_fresh (L := lookF l) (at_ := 0) ws1 (fun q hq => all q (by simp [hq]))
  obtain ⟨s, b, e1, e2⟩ := all p (by simp)
  show askV (runS (lookF l, 0, 0) ws1).1 (runS (lookF l, 0, 0) ws1).2.2 p.1 p.2.err val zero = _
  rw [h1]
  dsimp only
  rw [told_fits e1 e2]
  unfold textOf
  rw [e1]
/-- What Done tells of a form. -/
def doneE (y : StP) (tags : List Int) : Int × Int := if y.2.2 = 0 then spareE y.1 tags else (y.2.1, y.2.2)
theorem done_run {y : StP} {tags : List Int} (h : (doneE y tags).2 = 0) : y.2.2 = 0 ∧ doneE y tags = (0, 0) ∧ spareE y.1 tags = (0, 0) := by
  unfold doneE at *
  by_cases e : y.2.2 = 0
  · rw [if_pos e] at h ⊢
    rcases spare_cases y.1 tags with ⟨h1, _⟩ | h1
    · exact ⟨e, h1, h1⟩
    · rw [h1] at h
      simp at h
  · rw [if_neg e] at h
    exact absurd h e
theorem done_any {n0 : Nat} {w : World} {fb bm n : Nat} {tv : Value} {tags : List Int} {x : StP} (h : Frm n0 w fb bm n tv tags x.1 x.2.1 x.2.2) (hr : ∀ t ∈ tags, -9223372036854775808 ≤ t ∧ t ≤ 9223372036854775807) :
    Calls Tryd.prog 33 #[.pointer (some ⟨fb, 0, none⟩)] w fun e w' => e = .returned (.tuple #[.int .i64 (doneE x tags).1, .int .i64 (doneE x tags).2]) ∧ Below w.heap.size w w' := by
  unfold doneE
  by_cases e : x.2.2 = 0
  · rw [if_pos e]
    rw [e] at h
    exact (done_ok h hr).mono fun e w' ⟨he, hw⟩ => ⟨he, by rw [hw]; exact Below.refl _ _⟩
  · rw [if_neg e]
    exact done_err h e
theorem small_fields (l : List UInt8) : SmallL (lookF (fieldsL l).1) := by
  intro t s b h
  obtain ⟨new, n, h1, _, _, _, h5, _⟩ := fieldsA_one 64 l [] 0
  have e : (fieldsL l).1 = new := by unfold fieldsL; rw [h1]; simp
  rw [e] at h
  unfold lookF at h
  cases hf : new.find? (fun f => f.1 == t) with
  | none => rw [hf] at h; simp at h
  | some f =>
    rw [hf] at h
    simp only [Option.some.injEq, Prod.mk.injEq] at h
    have hm := List.mem_of_find?_eq_some hf
    obtain ⟨_, _, a3, _⟩ := formE_ok (ok_form (h5 f hm))
    have := a3.2.1
    rw [← h.1, size_eq]
    omega
theorem read_head {l : List UInt8} (h : readE l = 0) : (fieldsL l).2.2 = 0 ∧ (∃ V r, (fieldsL l).1 = (35, V) :: r) ∧ ((fieldsL l).1.map Prod.fst).Nodup := by
  unfold readE at h
  by_cases h0 : (fieldsL l).2.2 = 0
  · rw [if_neg (by omega)] at h
    by_cases h1 : ((fieldsL l).1.map Prod.fst).head? = some 35
    · rw [if_pos h1] at h
      refine ⟨h0, ?_, ?_⟩
      · cases hl : (fieldsL l).1 with
        | nil => rw [hl] at h1; simp at h1
        | cons f r =>
          rw [hl] at h1
          obtain ⟨T, V⟩ := f
          simp at h1
          exact ⟨V, r, by rw [h1]⟩
      · by_cases hn : ((fieldsL l).1.map Prod.fst).Nodup
        · exact hn
        · rw [if_neg hn] at h
          simp at h
    · rw [if_neg h1] at h
      simp at h
  · rw [if_pos h0] at h
    exact absurd h h0
theorem kind_text {l : List UInt8} (h : readE l = 0) : lookF (fieldsL l).1 35 = some (textOf (fieldsL l).1 35, true) := by
  obtain ⟨_, ⟨V, r, e⟩, hn⟩ := read_head h
  have m : ((35 : Int), V) ∈ (fieldsL l).1 := by rw [e]; simp
  rw [textOf_mem hn m, lookF_mem hn m]
  rfl
theorem fields_cat12 {L : List Fd} (h : AllOk L) (hl : L.length ≤ 64) : fieldsL (cat L) = (L, (cat L).length, 0) := by
  unfold fieldsL
  rw [fieldsA_back L 64 [] 0 h hl]
  simp
end Go.Proofs.YtdacmhnniecmhaaDoor
