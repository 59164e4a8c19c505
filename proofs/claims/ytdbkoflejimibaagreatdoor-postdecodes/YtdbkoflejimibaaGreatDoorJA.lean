/-
  A form that is asked for one field after another, beside other memory: what its texts are, what Done tells (for whatever is read out of a form).
-/
import Derived.BigRegion
import Derived.Test.YtdbkoflejimibaaGreatDoorGE
import Derived.Test.YtdbkoflejimibaaGreatDoorGD
import Derived.Test.YtdbkoflejimibaaGreatDoorGB
namespace Go.Proofs.YtdbkoflejimibaaGreatDoor
open Go.ChangeShapes Go.WideShapes Go.ChangeAt Go.RowKit Go.Lib

abbrev noText : ByteArray := ⟨#[]⟩
theorem name_fits {s : ByteArray} (h : vldB s = true) : Want.err .name s = 0 := if_pos h
theorem num_fits {n low high : Int} (h0 : 0 ≤ low) (h : low ≤ n ∧ n ≤ high) (hh : high ≤ 1099511627776) : Want.err (.int low high) (numT n) = 0 := by
  show (intVE (numT n) low high).2 = 0
  rw [numT_read (by omega) (by omega) h]
/-- The text of a tag. -/
def textOf (l : List Fd) (t : Int) : ByteArray := match lookF l t with
  | some (s, _) => s
  | none => noText
theorem textOf_mem {l : List Fd} (hn : (l.map Prod.fst).Nodup) {t : Int} {v : ByteArray} (h : (t, v) ∈ l) : textOf l t = v := by
  unfold textOf
  rw [lookF_mem (p := (t, v)) hn h]
theorem fits_text {l : List Fd} {t : Int} {w : Want} (h : Fits (lookF l) (t, w)) : w.err (textOf l t) = 0 := by
  obtain ⟨s, b, h1, h2⟩ := h
  unfold textOf
  dsimp only at h1
  rw [h1]
  exact h2
theorem num_text {n low high : Int} (h0 : 0 ≤ low) (h : low ≤ n ∧ n ≤ high) (hh : high ≤ 1099511627776) : ((intVE (numT n) low high).1 : Int) = n := by
  rw [numT_read (by omega) (by omega) h]
  show ((n.toNat : Nat) : Int) = n
  omega
theorem Frm.keepS {n0 : Nat} {w w' : World} {fb bm n : Nat} {tv : Value} {tags : List Int} {L : Int → Option (ByteArray × Bool)} {at_ e : Int} {S : Nat → Prop} (h : Frm n0 w fb bm n tv tags L at_ e) (k : But S w w') (h1 : ¬ S fb) (h2 : ¬ S bm) (h3 : ∀ g, tv.ownBlock = some g → ¬ S g) : Frm n0 w' fb bm n tv tags L at_ e where
  c0 := (k.cell h.lt h1).trans h.c0
  c1 := (k.cell h.lt h1).trans h.c1
  c2 := (k.cell h.lt h1).trans h.c2
  c3 := (k.cell h.lt h1).trans h.c3
  f1 := (k.frozen h.lt h1).trans h.f1
  f2 := (k.frozen h.lt h1).trans h.f2
  f3 := (k.frozen h.lt h1).trans h.f3
  map := h.map.kept k h2
  own := own_kept h.own k h3
  lof := h.lof
  lom := h.lom
  ne := h.ne
  nf := h.nf
/-- No text of a form is too long. -/
def SmallL (L : Int → Option (ByteArray × Bool)) : Prop := ∀ t s b, L t = some (s, b) → s.size ≤ 1000000
theorem small_step {x : StP} (h : SmallL x.1) (p : Int × Want) : SmallL (stepW x p).1 := by
  unfold stepW
  by_cases he : x.2.2 = 0
  · rw [he]
    cases hL : x.1 p.1 with
    | none => rw [askS_miss _ hL]; exact h
    | some q =>
      obtain ⟨s, b⟩ := q
      by_cases hs : p.2.err s = 0
      · rw [askS_good hL hs]
        intro t s' b' e
        by_cases ht : t = p.1
        · subst ht
          dsimp only at e
          rw [updI_same] at e
          simp only [Option.some.injEq, Prod.mk.injEq] at e
          rw [← e.1]
          exact h _ _ _ hL
        · dsimp only at e
          rw [updI_other _ _ ht] at e
          exact h _ _ _ e
      · rw [askS_bad hL hs]; exact h
  · rw [askS_err _ he]; exact h
/-- What a form tells behind other asks. -/
def gotN (x : StP) (ws : List (Int × Want)) (t : Int) : ByteArray := askV (runS x ws).1 (runS x ws).2.2 t nameVE id ⟨#[]⟩
def gotI (x : StP) (ws : List (Int × Want)) (t lo hi : Int) : Int := askV (runS x ws).1 (runS x ws).2.2 t (fun s => (intVE s lo hi).2) (fun s => ((intVE s lo hi).1 : Int)) 0
/-- A form that is new. -/
abbrev x0F (l : List Fd) : StP := (lookF l, 0, 0)
/-- What is told where no error came, by then and behind. -/
theorem told_at {α : Type} {l : List Fd} (ws1 : List (Int × Want)) (p : Int × Want) (ws2 : List (Int × Want)) (val : ByteArray → α) (zero : α) (h : (runS (x0F l) (ws1 ++ p :: ws2)).2.2 = 0) : askV (runS (x0F l) ws1).1 (runS (x0F l) ws1).2.2 p.1 p.2.err val zero = val (textOf l p.1) := by
  have all := runS_fresh_ok (ws1 ++ p :: ws2) h
  have h1 := runS_fresh (L := lookF l) (at_ := 0) ws1 (fun q hq => all q (by simp [hq]))
  obtain ⟨s, b, e1, e2⟩ := all p (by simp)
  show askV (runS (lookF l, 0, 0) ws1).1 (runS (lookF l, 0, 0) ws1).2.2 p.1 p.2.err val zero = _
  rw [h1]
  dsimp only
  rw [told_fits e1 e2]
  unfold textOf
  rw [e1]
/-- What Done tells of a form. -/
def doneE (y : StP) (tags : List Int) : Int × Int := if y.2.2 = 0 then spareE y.1 tags else (y.2.1, y.2.2)
theorem done_run {y : StP} {tags : List Int} (h : (doneE y tags).2 = 0) : y.2.2 = 0 ∧ doneE y tags = (0, 0) ∧ spareE y.1 tags = (0, 0) := by
  unfold doneE at *
  by_cases e : y.2.2 = 0
  · rw [if_pos e] at h ⊢
    rcases spare_cases y.1 tags with ⟨h1, _⟩ | h1
    · exact ⟨e, h1, h1⟩
    · rw [h1] at h
      simp at h
  · rw [if_neg e] at h
    exact absurd h e
theorem done_any {n0 : Nat} {w : World} {fb bm n : Nat} {tv : Value} {tags : List Int} {x : StP} (h : Frm n0 w fb bm n tv tags x.1 x.2.1 x.2.2) (hr : ∀ t ∈ tags, -9223372036854775808 ≤ t ∧ t ≤ 9223372036854775807) :
    Calls Tryz.prog 57 #[.pointer (some ⟨fb, 0, none⟩)] w fun e w' => e = .returned (.tuple #[.int .i64 (doneE x tags).1, .int .i64 (doneE x tags).2]) ∧ Below w.heap.size w w' := by
  unfold doneE
  by_cases e : x.2.2 = 0
  · rw [if_pos e]
    rw [e] at h
    exact (done_ok h hr).mono fun e w' ⟨he, hw⟩ => ⟨he, by rw [hw]; exact Below.refl _ _⟩
  · rw [if_neg e]
    exact done_err h e
theorem small_fields (l : List UInt8) : SmallL (lookF (fieldsL l).1) := by
  intro t s b h
  obtain ⟨new, n, h1, _, _, _, h5, _⟩ := fieldsA_one 64 l [] 0
  have e : (fieldsL l).1 = new := by unfold fieldsL; rw [h1]; simp
  rw [e] at h
  unfold lookF at h
  cases hf : new.find? (fun f => f.1 == t) with
  | none => rw [hf] at h; simp at h
  | some f =>
    rw [hf] at h
    simp only [Option.some.injEq, Prod.mk.injEq] at h
    have hm := List.mem_of_find?_eq_some hf
    obtain ⟨_, _, a3, _⟩ := formE_ok (ok_form (h5 f hm))
    have := a3.2.1
    rw [← h.1, size_eq]
    omega
theorem read_head {l : List UInt8} (h : readE l = 0) : (fieldsL l).2.2 = 0 ∧ (∃ V r, (fieldsL l).1 = (35, V) :: r) ∧ ((fieldsL l).1.map Prod.fst).Nodup := by
  unfold readE at h
  by_cases h0 : (fieldsL l).2.2 = 0
  · rw [if_neg (by omega)] at h
    by_cases h1 : ((fieldsL l).1.map Prod.fst).head? = some 35
    · rw [if_pos h1] at h
      refine ⟨h0, ?_, ?_⟩
      · cases hl : (fieldsL l).1 with
        | nil => rw [hl] at h1; simp at h1
        | cons f r =>
          rw [hl] at h1
          obtain ⟨T, V⟩ := f
          simp at h1
          exact ⟨V, r, by rw [h1]⟩
      · by_cases hn : ((fieldsL l).1.map Prod.fst).Nodup
        · exact hn
        · rw [if_neg hn] at h
          simp at h
    · rw [if_neg h1] at h
      simp at h
  · rw [if_pos h0] at h
    exact absurd h h0
theorem kind_text {l : List UInt8} (h : readE l = 0) : lookF (fieldsL l).1 35 = some (textOf (fieldsL l).1 35, true) := by
  obtain ⟨_, ⟨V, r, e⟩, hn⟩ := read_head h
  have m : ((35 : Int), V) ∈ (fieldsL l).1 := by rw [e]; simp
  rw [textOf_mem hn m, lookF_mem hn m]
  rfl
theorem fields_cat12 {L : List Fd} (h : AllOk L) (hl : L.length ≤ 64) : fieldsL (cat L) = (L, (cat L).length, 0) := by
  unfold fieldsL
  rw [fieldsA_back L 64 [] 0 h hl]
  simp
end Go.Proofs.YtdbkoflejimibaaGreatDoor
/-
  Things whose fields lie by places: what a field is, how a list of fields is looked at, written and read (plain); a block that holds a thing of seven cells.
-/
namespace Go.Proofs.YtdbkoflejimibaaGreatDoor.PP
open Go.ChangeShapes Go.WideShapes Go.ChangeAt Go.RowKit Go.Lib

/-- A thing: its texts and its numbers, by their places. -/
abbrev ThP := (Nat → ByteArray) × (Nat → Int)
/-- A field: its tag, whether it is a name, its place, its ends. -/
structure Pl where
  tag : Int
  isName : Bool
  off : Nat
  low : Int
  high : Int
/-- What a field is asked for as. -/
def Pl.want (p : Pl) : Int × Want := (p.tag, if p.isName = true then .name else .int p.low p.high)
/-- A field of a thing is right. -/
def Pl.okB (p : Pl) (t : ThP) : Bool := if p.isName = true then vldB (t.1 p.off) else decide (p.low ≤ t.2 p.off ∧ t.2 p.off ≤ p.high)
/-- Its text. -/
def Pl.text (p : Pl) (t : ThP) : ByteArray := if p.isName = true then t.1 p.off else numT (t.2 p.off)
/-- The thing without it. -/
def Pl.clr (p : Pl) (t : ThP) : ThP := if p.isName = true then (upd t.1 p.off noText, t.2) else (t.1, upd t.2 p.off 0)
/-- The thing with it as a form tells it. -/
def Pl.got (p : Pl) (x : StP) (t : ThP) : ThP := if p.isName = true then (upd t.1 p.off (askV x.1 x.2.2 p.tag nameVE id ⟨#[]⟩), t.2) else (t.1, upd t.2 p.off (askV x.1 x.2.2 p.tag (fun s => (intVE s p.low p.high).2) (fun s => ((intVE s p.low p.high).1 : Int)) 0))
/-- The thing with it as a body's fields say it. -/
def Pl.told (p : Pl) (l : List Fd) (t : ThP) : ThP := if p.isName = true then (upd t.1 p.off (textOf l p.tag), t.2) else (t.1, upd t.2 p.off ((intVE (textOf l p.tag) p.low p.high).1 : Int))
/-- All fields of a list, one behind the other. -/
def rgt : List Pl → Bool → ThP → Bool × ThP
  | [], r, t => (r, t)
  | p :: q, r, t => rgt q (r && p.okB t) (p.clr t)
def fil : List Pl → StP → ThP → StP × ThP
  | [], x, t => (x, t)
  | p :: q, x, t => fil q (stepW x p.want) (p.got x t)
def tolds : List Pl → List Fd → ThP → ThP
  | [], _, t => t
  | p :: q, l, t => tolds q l (p.told l t)
theorem fil_st : ∀ (L : List Pl) (x : StP) (t : ThP), (fil L x t).1 = runS x (L.map Pl.want)
  | [], _, _ => rfl
  | p :: q, x, t => by rw [fil, fil_st q, List.map_cons, runS_cons]
theorem got_told {l : List Fd} (pre : List Pl) (p : Pl) (q : List Pl) (t : ThP) (h : (runS (x0F l) ((pre ++ p :: q).map Pl.want)).2.2 = 0) : p.got (runS (x0F l) (pre.map Pl.want)) t = p.told l t := by
  rw [List.map_append, List.map_cons] at h
  obtain ⟨tag, nm, off, low, high⟩ := p
  cases nm with
  | true =>
    have := told_at (pre.map Pl.want) (tag, .name) (q.map Pl.want) id (⟨#[]⟩ : ByteArray) h
    show (upd t.1 off (askV _ _ tag nameVE id ⟨#[]⟩), t.2) = (upd t.1 off (textOf l tag), t.2)
    rw [show askV (runS (x0F l) (pre.map Pl.want)).1 (runS (x0F l) (pre.map Pl.want)).2.2 tag nameVE id ⟨#[]⟩ = textOf l tag from this]
  | false =>
    have := told_at (pre.map Pl.want) (tag, .int low high) (q.map Pl.want) (fun s => ((intVE s low high).1 : Int)) 0 h
    show (t.1, upd t.2 off (askV _ _ tag (fun s => (intVE s low high).2) (fun s => ((intVE s low high).1 : Int)) 0)) = (t.1, upd t.2 off ((intVE (textOf l tag) low high).1 : Int))
    rw [show askV (runS (x0F l) (pre.map Pl.want)).1 (runS (x0F l) (pre.map Pl.want)).2.2 tag (fun s => (intVE s low high).2) (fun s => ((intVE s low high).1 : Int)) 0 = ((intVE (textOf l tag) low high).1 : Int) from this]
theorem fil_told {l : List Fd} : ∀ (q pre : List Pl) (t : ThP), (runS (x0F l) ((pre ++ q).map Pl.want)).2.2 = 0 → (fil q (runS (x0F l) (pre.map Pl.want)) t).2 = tolds q l t
  | [], _, _, _ => rfl
  | p :: q, pre, t, h => by
    rw [fil, tolds, got_told pre p q t h]
    have e : stepW (runS (x0F l) (pre.map Pl.want)) p.want = runS (x0F l) ((pre ++ [p]).map Pl.want) := by rw [List.map_append, runS_append]; rfl
    rw [e]
    exact fil_told q (pre ++ [p]) _ (by rw [List.append_assoc]; exact h)
/-- A thing of a kind of which nothing else is set. -/
def zeroT (k : Int) : ThP := (fun _ => noText, fun j => if j = 0 then k else 0)
/-- A list of fields: their tags differ, their ends are within what numbers may be. -/
structure Good (L : List Pl) : Prop where
  nodup : (35 :: L.map Pl.tag).Nodup
  ends : ∀ p ∈ L, 1 ≤ p.tag ∧ p.tag ≤ 99999 ∧ 0 ≤ p.low ∧ p.high ≤ 1099511627776
  len : L.length ≤ 8
/-- A thing's fields: its word, and those of a list. -/
def fieldsG (wd : ByteArray) (L : List Pl) (t : ThP) : List Fd := (35, wd) :: L.map fun p => (p.tag, p.text t)
theorem fields_tags (wd : ByteArray) (L : List Pl) (t : ThP) : (fieldsG wd L t).map Prod.fst = 35 :: L.map Pl.tag := by
  unfold fieldsG
  rw [List.map_cons, List.map_map]
  rfl
theorem fields_nodup {L : List Pl} (G : Good L) (wd : ByteArray) (t : ThP) : ((fieldsG wd L t).map Prod.fst).Nodup := by rw [fields_tags]; exact G.nodup
theorem field_mem {L : List Pl} {wd : ByteArray} {t : ThP} {p : Pl} (h : p ∈ L) : (p.tag, p.text t) ∈ fieldsG wd L t := List.mem_cons_of_mem _ (List.mem_map.2 ⟨p, h, rfl⟩)
theorem text_fits {t : ThP} {p : Pl} (he : 0 ≤ p.low ∧ p.high ≤ 1099511627776) (ok : p.okB t = true) : p.want.2.err (p.text t) = 0 := by
  obtain ⟨tag, nm, off, low, high⟩ := p
  cases nm with
  | true => exact name_fits ok
  | false => exact num_fits he.1 (of_decide_eq_true ok) he.2
theorem right_fits {L : List Pl} (G : Good L) {wd : ByteArray} {t : ThP} (R : ∀ p ∈ L, p.okB t = true) : ∀ w ∈ L.map Pl.want, Fits (lookF (fieldsG wd L t)) w := by
  intro w hw
  obtain ⟨p, hp, rfl⟩ := List.mem_map.1 hw
  have e := G.ends p hp
  exact fits_mem (fields_nodup G wd t) (field_mem hp) (text_fits ⟨e.2.2.1, e.2.2.2⟩ (R p hp))
theorem want_tags (L : List Pl) : (L.map Pl.want).map Prod.fst = L.map Pl.tag := by rw [List.map_map]; rfl
/-- A right thing's fields all have forms. -/
theorem right_allOk {L : List Pl} (G : Good L) {wd : ByteArray} {t : ThP} (hw : ValOk wd.data.toList) (R : ∀ p ∈ L, p.okB t = true) : AllOk (fieldsG wd L t) ∧ (fieldsG wd L t).length ≤ 64 := by
  constructor
  · intro f hf
    unfold fieldsG at hf
    rcases List.mem_cons.1 hf with rfl | hf
    · exact form_val (t := 35) (by omega) (by omega) hw
    · obtain ⟨p, hp, rfl⟩ := List.mem_map.1 hf
      have e := G.ends p hp
      refine form_val (by omega) (by omega) ?_
      have ok := R p hp
      obtain ⟨tag, nm, off, low, high⟩ := p
      cases nm with
      | true => exact name_val ok
      | false =>
        have := of_decide_eq_true ok
        dsimp only at this e
        exact numT_val (n := t.2 off) (by omega)
  · unfold fieldsG
    have := G.len
    simp
    omega
/-- A field of a right thing is told as it was. -/
theorem told_text {L : List Pl} (G : Good L) {wd : ByteArray} {t : ThP} {p : Pl} (hp : p ∈ L) (R : ∀ p ∈ L, p.okB t = true) (u : ThP) : p.told (fieldsG wd L t) u = if p.isName = true then (upd u.1 p.off (t.1 p.off), u.2) else (u.1, upd u.2 p.off (t.2 p.off)) := by
  have e := G.ends p hp
  have ok := R p hp
  have tx := textOf_mem (fields_nodup G wd t) (field_mem hp)
  unfold Pl.told
  rw [tx]
  obtain ⟨tag, nm, off, low, high⟩ := p
  cases nm with
  | true => rfl
  | false =>
    have ok' := of_decide_eq_true ok
    dsimp only at ok' e
    show (u.1, upd u.2 off ((intVE (numT (t.2 off)) low high).1 : Int)) = (u.1, upd u.2 off (t.2 off))
    rw [num_text e.2.2.1 ok' e.2.2.2]
/-- The fields of a list as another thing has them. -/
def sets : List Pl → ThP → ThP → ThP
  | [], _, u => u
  | p :: q, t, u => sets q t (if p.isName = true then (upd u.1 p.off (t.1 p.off), u.2) else (u.1, upd u.2 p.off (t.2 p.off)))
theorem tolds_sets {t : ThP} {F : List Fd} : ∀ (L : List Pl) (u : ThP), (∀ p ∈ L, ∀ u, p.told F u = if p.isName = true then (upd u.1 p.off (t.1 p.off), u.2) else (u.1, upd u.2 p.off (t.2 p.off))) → tolds L F u = sets L t u
  | [], _, _ => rfl
  | p :: q, u, h => by
    rw [tolds, sets, h p (by simp)]
    exact tolds_sets q _ (fun r hr => h r (by simp [hr]))
theorem told_sets {L : List Pl} (G : Good L) {wd : ByteArray} {t : ThP} (R : ∀ p ∈ L, p.okB t = true) (u : ThP) : tolds L (fieldsG wd L t) u = sets L t u := tolds_sets L u (fun _ hp u => told_text G hp R u)
/-- A form of a right thing's body, asked for all of it. -/
theorem run_right {L : List Pl} (G : Good L) {wd : ByteArray} {t : ThP} (R : ∀ p ∈ L, p.okB t = true) : runS (x0F (fieldsG wd L t)) (L.map Pl.want) = (markAll (lookF (fieldsG wd L t)) (L.map Pl.tag), 0, 0) := by
  rw [← want_tags]
  exact runS_fresh _ (right_fits G R)
theorem done_right {L : List Pl} (G : Good L) {wd : ByteArray} {t : ThP} (R : ∀ p ∈ L, p.okB t = true) : doneE (runS (x0F (fieldsG wd L t)) (L.map Pl.want)) ((fieldsG wd L t).map Prod.fst) = (0, 0) := by
  unfold doneE
  rw [run_right G R]
  dsimp only
  rw [if_pos rfl]
  exact done_all (fields_nodup G wd t) (fun u hu => by
    rw [fields_tags] at hu
    exact List.mem_cons.1 hu)
theorem read_right {L : List Pl} (G : Good L) {wd : ByteArray} {t : ThP} (hw : ValOk wd.data.toList) (R : ∀ p ∈ L, p.okB t = true) : fieldsL (cat (fieldsG wd L t)) = (fieldsG wd L t, (cat (fieldsG wd L t)).length, 0) ∧ readE (cat (fieldsG wd L t)) = 0 ∧ textOf (fieldsG wd L t) 35 = wd := by
  obtain ⟨ok, l64⟩ := right_allOk G hw R
  have hf := fields_cat12 ok l64
  refine ⟨hf, ?_, textOf_mem (fields_nodup G wd t) (by unfold fieldsG; simp)⟩
  unfold readE
  rw [hf]
  dsimp only
  rw [if_neg (by simp), if_pos (by rw [fields_tags]; simp), if_pos (fields_nodup G wd t)]
/-- What fits is right. -/
theorem name_of {l : List Fd} {t : Int} (h : Fits (lookF l) (t, .name)) : vldB (textOf l t) = true := by
  have := fits_text h
  by_cases hv : vldB (textOf l t) = true
  · exact hv
  · have e : Want.err .name (textOf l t) = 43 := if_neg hv
    rw [e] at this
    simp at this
theorem int_of {l : List Fd} {t lo hi : Int} (h : Fits (lookF l) (t, .int lo hi)) : lo ≤ ((intVE (textOf l t) lo hi).1 : Int) ∧ ((intVE (textOf l t) lo hi).1 : Int) ≤ hi := by
  have := int_back (fits_text h)
  exact ⟨this.1, this.2.1⟩
theorem fits_told {L : List Pl} {l : List Fd} (h : ∀ w ∈ L.map Pl.want, Fits (lookF l) w) {p : Pl} (hp : p ∈ L) : if p.isName = true then vldB (textOf l p.tag) = true else p.low ≤ ((intVE (textOf l p.tag) p.low p.high).1 : Int) ∧ ((intVE (textOf l p.tag) p.low p.high).1 : Int) ≤ p.high := by
  have := h _ (List.mem_map.2 ⟨p, hp, rfl⟩)
  obtain ⟨tag, nm, off, low, high⟩ := p
  cases nm with
  | true => exact name_of this
  | false => exact int_of this
/-- A cell of a thing; nm: which places are names. -/
def cellT (nm : Nat → Bool) (t : ThP) (j : Nat) : Value := if nm j = true then .string (t.1 j) else .int .i64 (t.2 j)
/-- A block that holds a thing. -/
structure ThAt (nm : Nat → Bool) (w : World) (b : Nat) (t : ThP) : Prop where
  cell : ∀ j, j < 7 → w.cell? ⟨b, j, none⟩ = some (cellT nm t j)
  fz : ∀ j, w.frozen? ⟨b, j, none⟩ = false
theorem ThAt.lt {nm : Nat → Bool} {w : World} {b : Nat} {t : ThP} (h : ThAt nm w b t) : b < w.heap.size := World.block_lt_of_cell? _ _ (h.cell 0 (by omega))
theorem ThAt.but {nm : Nat → Bool} {S : Nat → Prop} {w w' : World} {b : Nat} {t : ThP} (h : ThAt nm w b t) (k : But S w w') (hS : ¬ S b) : ThAt nm w' b t :=
  ⟨fun j hj => (k.cell h.lt hS).trans (h.cell j hj), fun j => (k.frozen h.lt hS).trans (h.fz j)⟩
theorem ThAt.still {nm : Nat → Bool} {w w' : World} {b : Nat} {t : ThP} (h : ThAt nm w b t) (k : Below w.heap.size w w') : ThAt nm w' b t := h.but (But.of_below (S := fun _ => False) k) id
theorem ThAt.text {nm : Nat → Bool} {w : World} {b : Nat} {t : ThP} (h : ThAt nm w b t) {j : Nat} (h7 : j < 7) (hn : nm j = true) : w.cell? ⟨b, j, none⟩ = some (.string (t.1 j)) := by
  rw [h.cell _ h7, cellT, if_pos hn]
theorem ThAt.num {nm : Nat → Bool} {w : World} {b : Nat} {t : ThP} (h : ThAt nm w b t) {j : Nat} (h7 : j < 7) (hn : nm j = false) : w.cell? ⟨b, j, none⟩ = some (.int .i64 (t.2 j)) := by
  rw [h.cell _ h7, cellT, if_neg (by rw [hn]; decide)]
theorem ThAt.setText {nm : Nat → Bool} {w : World} {b : Nat} {t : ThP} (h : ThAt nm w b t) {o : Nat} (h7 : o < 7) (hn : nm o = true) (s : ByteArray) : ThAt nm (w.setCell ⟨b, o, none⟩ (.string s)) b (upd t.1 o s, t.2) := by
  refine ⟨fun j hj => ?_, fun j => by rw [World.frozen?_setCell]; exact h.fz j⟩
  by_cases e : j = o
  · subst e
    rw [World.cell?_setCell_same _ _ _ (h.cell _ h7), cellT, if_pos hn]
    dsimp only
    rw [upd_same]
  · rw [World.cell?_setCell_other _ _ _ _ (by simp), h.cell _ hj]
    unfold cellT
    dsimp only
    by_cases c : nm j = true
    · rw [if_pos c, if_pos c, upd_other _ _ e]
    · rw [if_neg c, if_neg c]
theorem ThAt.setNum {nm : Nat → Bool} {w : World} {b : Nat} {t : ThP} (h : ThAt nm w b t) {o : Nat} (h7 : o < 7) (hn : nm o = false) (n : Int) : ThAt nm (w.setCell ⟨b, o, none⟩ (.int .i64 n)) b (t.1, upd t.2 o n) := by
  refine ⟨fun j hj => ?_, fun j => by rw [World.frozen?_setCell]; exact h.fz j⟩
  by_cases e : j = o
  · subst e
    rw [World.cell?_setCell_same _ _ _ (h.cell _ h7), cellT, if_neg (by rw [hn]; decide)]
    dsimp only
    rw [upd_same]
  · rw [World.cell?_setCell_other _ _ _ _ (by simp), h.cell _ hj]
    unfold cellT
    dsimp only
    by_cases c : nm j = true
    · rw [if_pos c, if_pos c]
    · rw [if_neg c, if_neg c, upd_other _ _ e]
/-- A text at a place that the block does not hold. -/
theorem ThAt.beyond {nm : Nat → Bool} {w : World} {b : Nat} {t : ThP} (h : ThAt nm w b t) {o : Nat} (h7 : 7 ≤ o) (s : ByteArray) : ThAt nm w b (upd t.1 o s, t.2) := by
  refine ⟨fun j hj => ?_, h.fz⟩
  rw [h.cell _ hj]
  unfold cellT
  dsimp only
  rw [upd_other _ _ (by omega)]
end Go.Proofs.YtdbkoflejimibaaGreatDoor.PP
/-
  A list of fields that grows, its slice in a cell of its own; the contract of strconv.Itoa for numbers from 0 on.
-/
namespace Go.Proofs.YtdbkoflejimibaaGreatDoor.PP
open Go.ChangeShapes Go.WideShapes Go.ChangeAt Go.RowKit Go.Lib

/-- A list of fields whose slice lies in the cell of block lb, its array from block bs on. -/
structure LstB (w : World) (lb bs : Nat) (v : Value) (L : List Fd) : Prop where
  cell : w.cell? ⟨lb, 0, none⟩ = some v
  fz : w.frozen? ⟨lb, 0, none⟩ = false
  own : w.ownsRow bs 98 2 v L.length (cells2 L)
  ne : ¬ v.ownBlock = some lb
  lo : bs ≤ w.heap.size
theorem LstB.lt {w : World} {lb bs : Nat} {v : Value} {L : List Fd} (h : LstB w lb bs v L) : lb < w.heap.size := World.block_lt_of_cell? _ _ h.cell
theorem LstB.still {w w' : World} {lb bs : Nat} {v : Value} {L : List Fd} (h : LstB w lb bs v L) (hb : Below w.heap.size w w') : LstB w' lb bs v L :=
  ⟨(hb.cell (p := ⟨lb, 0, none⟩) h.lt).trans h.cell, (hb.frozen (p := ⟨lb, 0, none⟩) h.lt).trans h.fz, own_below h.own hb, h.ne, Nat.le_trans h.lo hb.size⟩
/-- The blocks that a list may write. -/
def LstS (lb : Nat) (v : Value) (j : Nat) : Prop := j = lb ∨ v.ownBlock = some j
/-- What putting a field comes to. -/
def PutOk (lb bs : Nat) (v : Value) (L : List Fd) (w w' : World) : Prop := ∃ v', LstB w' lb bs v' L ∧ But (LstS lb v) w w' ∧ (v'.ownBlock = v.ownBlock ∨ ∃ g, v'.ownBlock = some g ∧ w.heap.size ≤ g)
theorem lst_close {w w4 w5 : World} {lb bs : Nat} {v v5 : Value} {L : List Fd} {t : Int} {s : ByteArray} (h : LstB w4 lb bs v L ∧ Below w.heap.size w w4 ∧ w4.grownBy w5 v.ownBlock ∧ w5.ownsRow bs 98 2 v5 (L.length + 1) (cells2 L ++ fd2 (t, s)) ∧ (v5.ownBlock = v.ownBlock ∨ v5.ownBlock = some w4.heap.size)) :
    PutOk lb bs v (L ++ [(t, s)]) w (w5.setCell ⟨lb, 0, none⟩ v5) := by
  obtain ⟨F4, B4, hg5, own5, hat5⟩ := h
  have BG := But.of_grown hg5
  have x5 := (BG.cell (o := 0) F4.lt F4.ne).trans F4.cell
  have y5 := (BG.frozen (o := 0) F4.lt F4.ne).trans F4.fz
  have hB : But (fun j => j = lb) w5 (w5.setCell ⟨lb, 0, none⟩ v5) := (But.refl _ w5).setCell lb 0 _ (fun _ => rfl)
  have n5 : ¬ v5.ownBlock = some lb := fun e => by
    rcases hat5 with k | k
    · rw [k] at e
      exact F4.ne e
    · rw [k] at e
      have := F4.lt
      simp only [Option.some.injEq] at e
      omega
  refine ⟨v5, ⟨World.cell?_setCell_same _ _ _ x5, by rw [World.frozen?_setCell]; exact y5, ?_, n5, ?_⟩, ?_, ?_⟩
  · rw [cells2_more, List.length_append]
    exact own_kept own5 hB (fun g hg e => n5 (by rw [hg, e]))
  · have := hB.size
    have := BG.size
    have := F4.lo
    omega
  · have b1 : But (LstS lb v) w w4 := But.of_below B4
    have b2 := b1.trans BG (fun i _ e => .inr e)
    exact b2.trans hB (fun i _ e => .inl e)
  · rcases hat5 with e | e
    · exact .inl e
    · exact .inr ⟨_, e, B4.size⟩
theorem itoaP (n : Nat) (hn : n ≤ 9223372036854775807) {w : World} (h : Pow w) :
    Calls Tryz.prog 45 #[.int .i64 (n : Int)] w fun e w' => e = .returned (.string (mk (decDigits n))) ∧ Below w.heap.size w w' := by
  have := Any.strconv_Itoa Tryz.laysM171 (n : Int) (by omega) (by omega) w h
  refine Calls.mono this ?_
  rintro e w' ⟨rfl, k, os, rfl⟩
  exact ⟨by rw [itoa_nonneg]; rfl, below_grow _ _ (Nat.le_refl _) _ _⟩
theorem lst_one (w : World) (t : Int) (s : ByteArray) : LstB ((w.alloc (.cells #[.int .i64 t, .string s] 98)).alloc (.cells #[.slice (some ⟨w.heap.size, 0, none⟩) 1 1] 65)) (w.heap.size + 1) w.heap.size (.slice (some ⟨w.heap.size, 0, none⟩) 1 1) [(t, s)] := by
  have hz : (w.alloc (.cells #[.int .i64 t, .string s] 98)).heap.size = w.heap.size + 1 := by simp
  have own : (w.alloc (.cells #[.int .i64 t, .string s] 98)).ownsRow w.heap.size 98 2 (.slice (some ⟨w.heap.size, 0, none⟩) 1 1) 1 (fd2 (t, s)) := World.ownsRow_lit (e := 98) (size := 2) (base := w.heap.size) w #[.int .i64 t, .string s] 1 (Nat.le_refl _) (by unfold maxLen; omega) rfl
  refine ⟨?_, ?_, ?_, ?_, ?_⟩
  · rw [← hz]; simp
  · rw [← hz]; simp
  · exact own.alloc _
  · simp [Value.ownBlock]
  · simp; omega
/-- What putting a field leaves, told by where the list lies. -/
theorem own_away {v : Value} {w : World} {j : Nat} (hj : j < w.heap.size) (hn : ¬ v.ownBlock = some j) : ∀ v' : Value, (v'.ownBlock = v.ownBlock ∨ ∃ g, v'.ownBlock = some g ∧ w.heap.size ≤ g) → ¬ v'.ownBlock = some j := by
  intro v' hv e
  rcases hv with k | ⟨g, k, hg⟩
  · rw [k] at e
    exact hn e
  · rw [k] at e
    simp only [Option.some.injEq] at e
    omega
end Go.Proofs.YtdbkoflejimibaaGreatDoor.PP
