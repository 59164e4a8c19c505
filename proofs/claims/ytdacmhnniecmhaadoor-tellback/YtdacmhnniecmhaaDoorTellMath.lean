/-
  Tells, their fields, how they are read again (plain).
-/
import Derived.Test.YtdacmhnniecmhaaDoorFormMath
import Derived.Test.YtdacmhnniecmhaaDoorTellBase
namespace Go.Proofs.YtdacmhnniecmhaaDoor
open Go.Lib

/-- What a field is asked for as. -/
def Pl.want (p : Pl) : Int × Want := (p.tag, if p.isName = true then .name else .int p.low p.high)
/-- A field of a tell is right. -/
def Pl.okB (p : Pl) (t : TellP) : Bool := if p.isName = true then vldB (t.1 p.off) else decide (p.low ≤ t.2 p.off ∧ t.2 p.off ≤ p.high)
/-- Its text. -/
def Pl.text (p : Pl) (t : TellP) : ByteArray := if p.isName = true then t.1 p.off else numT (t.2 p.off)
/-- The tell without it. -/
def Pl.clr (p : Pl) (t : TellP) : TellP := if p.isName = true then (upd t.1 p.off noText, t.2) else (t.1, upd t.2 p.off 0)
/-- The tell with it as a form tells it. -/
def Pl.got (p : Pl) (x : StP) (t : TellP) : TellP := if p.isName = true then (upd t.1 p.off (askV x.1 x.2.2 p.tag nameVE id ⟨#[]⟩), t.2) else (t.1, upd t.2 p.off (askV x.1 x.2.2 p.tag (fun s => (intVE s p.low p.high).2) (fun s => ((intVE s p.low p.high).1 : Int)) 0))
/-- The tell with it as a body's fields say it. -/
def Pl.told (p : Pl) (l : List Fd) (t : TellP) : TellP := if p.isName = true then (upd t.1 p.off (textOf l p.tag), t.2) else (t.1, upd t.2 p.off ((intVE (textOf l p.tag) p.low p.high).1 : Int))
/-- All fields of a list, one behind the other. -/
def rgt : List Pl → Bool → TellP → Bool × TellP
  | [], r, t => (r, t)
  | p :: q, r, t => rgt q (r && p.okB t) (p.clr t)
def fil : List Pl → StP → TellP → StP × TellP
  | [], x, t => (x, t)
  | p :: q, x, t => fil q (stepW x p.want) (p.got x t)
def tolds : List Pl → List Fd → TellP → TellP
  | [], _, t => t
  | p :: q, l, t => tolds q l (p.told l t)
theorem fil_st : ∀ (L : List Pl) (x : StP) (t : TellP), (fil L x t).1 = runS x (L.map Pl.want)
  | [], _, _ => rfl
  | p :: q, x, t => by rw [fil, fil_st q, List.map_cons, runS_cons]
theorem got_told {l : List Fd} (pre : List Pl) (p : Pl) (q : List Pl) (t : TellP) (h : (runS (x0F l) ((pre ++ p :: q).map Pl.want)).2.2 = 0) : p.got (runS (x0F l) (pre.map Pl.want)) t = p.told l t := by
  rw [List.map_append, List.map_cons] at h
  obtain ⟨tag, nm, off, low, high⟩ := p
  cases nm with
  | true =>
    have := told_at (pre.map Pl.want) (tag, .name) (q.map Pl.want) id (⟨#[]⟩ : ByteArray) h
    show (upd t.1 off (askV _ _ tag nameVE id ⟨#[]⟩), t.2) = (upd t.1 off (textOf l tag), t.2)
    rw [show askV (runS (x0F l) (pre.map Pl.want)).1 (runS (x0F l) (pre.map Pl.want)).2.2 tag nameVE id ⟨#[]⟩ = textOf l tag from this]
  | false =>
    have := told_at (pre.map Pl.want) (tag, .int low high) (q.map Pl.want) (fun s => ((intVE s low high).1 : Int)) 0 h
    show (t.1, upd t.2 off (askV _ _ tag (fun s => (intVE s low high).2) (fun s => ((intVE s low high).1 : Int)) 0)) = (t.1, upd t.2 off ((intVE (textOf l tag) low high).1 : Int))
    rw [show askV (runS (x0F l) (pre.map Pl.want)).1 (runS (x0F l) (pre.map Pl.want)).2.2 tag (fun s => (intVE s low high).2) (fun s => ((intVE s low high).1 : Int)) 0 = ((intVE (textOf l tag) low high).1 : Int) from this]
theorem fil_told {l : List Fd} : ∀ (q pre : List Pl) (t : TellP), (runS (x0F l) ((pre ++ q).map Pl.want)).2.2 = 0 → (fil q (runS (x0F l) (pre.map Pl.want)) t).2 = tolds q l t
  | [], _, _, _ => rfl
  | p :: q, pre, t, h => by
    rw [fil, tolds, got_told pre p q t h]
    have e : stepW (runS (x0F l) (pre.map Pl.want)) p.want = runS (x0F l) ((pre ++ [p]).map Pl.want) := by rw [List.map_append, runS_append]; rfl
    rw [e]
    exact fil_told q (pre ++ [p]) _ (by rw [List.append_assoc]; exact h)
/-- A tell of a kind of which nothing else is set. -/
def zeroT (k : Int) : TellP := (fun _ => noText, fun j => if j = 0 then k else 0)
/-- A tell as a value. -/
def tellV (t : TellP) : Value := .agg #[.int .i64 (t.2 0), .string (t.1 1), .string (t.1 2), .int .i64 (t.2 3), .int .i64 (t.2 4), .int .i64 (t.2 5), .int .i64 (t.2 6), .int .i64 (t.2 7), .int .i64 (t.2 8), .int .i64 (t.2 9)]
/-- Two tells are the same. -/
structure Same (t u : TellP) : Prop where
  k : t.2 0 = u.2 0
  i : t.1 1 = u.1 1
  x : t.1 2 = u.1 2
  s : t.2 3 = u.2 3
  l : t.2 4 = u.2 4
  p : t.2 5 = u.2 5
  c : t.2 6 = u.2 6
  e : t.2 7 = u.2 7
  g : t.2 8 = u.2 8
  r : t.2 9 = u.2 9
theorem Same.refl (t : TellP) : Same t t := ⟨rfl, rfl, rfl, rfl, rfl, rfl, rfl, rfl, rfl, rfl⟩
theorem Same.symm {t u : TellP} (h : Same t u) : Same u t := ⟨h.k.symm, h.i.symm, h.x.symm, h.s.symm, h.l.symm, h.p.symm, h.c.symm, h.e.symm, h.g.symm, h.r.symm⟩
theorem Same.trans {t u v : TellP} (h : Same t u) (h' : Same u v) : Same t v := ⟨h.k.trans h'.k, h.i.trans h'.i, h.x.trans h'.x, h.s.trans h'.s, h.l.trans h'.l, h.p.trans h'.p, h.c.trans h'.c, h.e.trans h'.e, h.g.trans h'.g, h.r.trans h'.r⟩
theorem Same.val {t u : TellP} (h : Same t u) : tellV t = tellV u := by
  unfold tellV
  rw [h.k, h.i, h.x, h.s, h.l, h.p, h.c, h.e, h.g, h.r]
/-- Nothing but the kind is set. -/
def zeroB (t : TellP) : Bool := decide (t.1 1 = noText ∧ t.1 2 = noText ∧ t.2 3 = 0 ∧ t.2 4 = 0 ∧ t.2 5 = 0 ∧ t.2 6 = 0 ∧ t.2 7 = 0 ∧ t.2 8 = 0 ∧ t.2 9 = 0)
/-- What the program says of a tell. -/
def rightB (t : TellP) : Bool := decide (1 ≤ t.2 0 ∧ t.2 0 ≤ 4) && ((rgt (listK (t.2 0)) true t).1 && zeroB (rgt (listK (t.2 0)) true t).2)
/-- A tell that is right. -/
structure RightP (t : TellP) : Prop where
  kind : 1 ≤ t.2 0 ∧ t.2 0 ≤ 4
  all : ∀ p ∈ listK (t.2 0), p.okB t = true
  rep : t.2 0 ≠ 1 → t.1 2 = noText ∧ t.2 4 = 0 ∧ t.2 5 = 0 ∧ t.2 6 = 0 ∧ t.2 7 = 0
  name : 3 ≤ t.2 0 → t.1 1 = noText ∧ t.2 3 = 0
  tag : t.2 0 ≤ 2 → t.2 8 = 0
theorem right_iff (t : TellP) : rightB t = true ↔ RightP t := by
  unfold rightB
  by_cases hk : 1 ≤ t.2 0 ∧ t.2 0 ≤ 4
  · rw [decide_eq_true hk, Bool.true_and]
    rcases kinds hk.1 hk.2 with e | e | e | e
    · constructor
      · intro h
        rw [e, listK_1] at h
        simp [rgt, Pl.okB, Pl.clr, upd, zeroB] at h
        refine ⟨hk, ?_, fun n => absurd e n, fun n => by omega, fun _ => h.2⟩
        rw [e, listK_1]
        simp [Pl.okB]
        exact ⟨h.1.1.1.1.1.1.1.1, h.1.1.1.1.1.1.1.2, h.1.1.1.1.1.1.2, h.1.1.1.1.1.2, h.1.1.1.1.2, h.1.1.1.2, h.1.1.2, h.1.2⟩
      · intro h
        have a := h.all
        have g := h.tag (by omega)
        rw [e, listK_1] at a ⊢
        simp [Pl.okB] at a
        simp [rgt, Pl.okB, Pl.clr, upd, zeroB]
        simp [a, g]
    · constructor
      · intro h
        rw [e, listK_2] at h
        simp [rgt, Pl.okB, Pl.clr, upd, zeroB] at h
        refine ⟨hk, ?_, fun _ => ?_, fun n => by omega, fun _ => ?_⟩
        · rw [e, listK_2]
          simp [Pl.okB]
          simp [h]
        · simp [h]
        · simp [h]
      · intro h
        have a := h.all
        have g := h.tag (by omega)
        have r := h.rep (by omega)
        rw [e, listK_2] at a ⊢
        simp [Pl.okB] at a
        simp [rgt, Pl.okB, Pl.clr, upd, zeroB]
        simp [a, g, r]
    · constructor
      · intro h
        rw [e, listK_3] at h
        simp [rgt, Pl.okB, Pl.clr, upd, zeroB] at h
        refine ⟨hk, ?_, fun _ => ?_, fun _ => ?_, fun n => by omega⟩
        · rw [e, listK_3]
          simp [Pl.okB]
          simp [h]
        · simp [h]
        · simp [h]
      · intro h
        have a := h.all
        have g := h.name (by omega)
        have r := h.rep (by omega)
        rw [e, listK_3] at a ⊢
        simp [Pl.okB] at a
        simp [rgt, Pl.okB, Pl.clr, upd, zeroB]
        simp [a, g, r]
    · constructor
      · intro h
        rw [e, listK_4] at h
        simp [rgt, Pl.okB, Pl.clr, upd, zeroB] at h
        refine ⟨hk, ?_, fun _ => ?_, fun _ => ?_, fun n => by omega⟩
        · rw [e, listK_4]
          simp [Pl.okB]
          simp [h]
        · simp [h]
        · simp [h]
      · intro h
        have a := h.all
        have g := h.name (by omega)
        have r := h.rep (by omega)
        rw [e, listK_4] at a ⊢
        simp [Pl.okB] at a
        simp [rgt, Pl.okB, Pl.clr, upd, zeroB]
        simp [a, g, r]
  · rw [decide_eq_false hk, Bool.false_and]
    exact ⟨fun h => by simp at h, fun h => absurd h.kind hk⟩
/-- A kind's word. -/
def wordT (k : Int) : ByteArray := if k = 1 then ⟨#[56]⟩ else if k = 2 then ⟨#[57]⟩ else if k = 3 then ⟨#[51]⟩ else ⟨#[106]⟩
/-- The kind that a word says, or 0. -/
def kindOf (w : ByteArray) : Int := if w = ⟨#[56]⟩ then 1 else if w = ⟨#[57]⟩ then 2 else if w = ⟨#[51]⟩ then 3 else if w = ⟨#[106]⟩ then 4 else 0
theorem kind_word {k : Int} (h1 : 1 ≤ k) (h2 : k ≤ 4) : kindOf (wordT k) = k := by
  rcases kinds h1 h2 with rfl | rfl | rfl | rfl <;> decide
theorem kind_range (w : ByteArray) : 0 ≤ kindOf w ∧ kindOf w ≤ 4 := by
  unfold kindOf
  repeat' split
  all_goals omega
theorem word_val {k : Int} (h1 : 1 ≤ k) (h2 : k ≤ 4) : ValOk (wordT k).data.toList := by
  refine valB_true.1 ?_
  rcases kinds h1 h2 with rfl | rfl | rfl | rfl <;> decide +kernel
/-- A tell's fields. -/
def fieldsT (t : TellP) : List Fd := (35, wordT (t.2 0)) :: (listK (t.2 0)).map fun p => (p.tag, p.text t)
theorem fields_tags (t : TellP) : (fieldsT t).map Prod.fst = 35 :: (listK (t.2 0)).map Pl.tag := by
  unfold fieldsT
  rw [List.map_cons, List.map_map]
  rfl
theorem fields_nodup (t : TellP) : ((fieldsT t).map Prod.fst).Nodup := by rw [fields_tags]; exact list_nodup _
theorem field_mem {t : TellP} {p : Pl} (h : p ∈ listK (t.2 0)) : (p.tag, p.text t) ∈ fieldsT t := List.mem_cons_of_mem _ (List.mem_map.2 ⟨p, h, rfl⟩)
theorem text_fits {t : TellP} {p : Pl} (he : 0 ≤ p.low ∧ p.high ≤ 1099511627776) (ok : p.okB t = true) : p.want.2.err (p.text t) = 0 := by
  obtain ⟨tag, nm, off, low, high⟩ := p
  cases nm with
  | true => exact name_fits ok
  | false => exact num_fits he.1 (of_decide_eq_true ok) he.2
theorem right_fits {t : TellP} (R : RightP t) : ∀ w ∈ (listK (t.2 0)).map Pl.want, Fits (lookF (fieldsT t)) w := by
  intro w hw
  obtain ⟨p, hp, rfl⟩ := List.mem_map.1 hw
  have e := list_ends _ p hp
  exact fits_mem (fields_nodup t) (field_mem hp) (text_fits ⟨e.2.2.1, e.2.2.2.1⟩ (R.all p hp))
theorem want_tags (L : List Pl) : (L.map Pl.want).map Prod.fst = L.map Pl.tag := by rw [List.map_map]; rfl
/-- A right tell's fields all have forms. -/
theorem right_allOk {t : TellP} (R : RightP t) : AllOk (fieldsT t) ∧ (fieldsT t).length ≤ 64 := by
  constructor
  · intro f hf
    unfold fieldsT at hf
    rcases List.mem_cons.1 hf with rfl | hf
    · exact form_val (t := 35) (by omega) (by omega) (word_val R.kind.1 R.kind.2)
    · obtain ⟨p, hp, rfl⟩ := List.mem_map.1 hf
      have e := list_ends _ p hp
      refine form_val (by omega) (by omega) ?_
      have ok := R.all p hp
      obtain ⟨tag, nm, off, low, high⟩ := p
      cases nm with
      | true => exact name_val ok
      | false =>
        have := of_decide_eq_true ok
        dsimp only at this e
        exact numT_val (n := t.2 off) (by omega)
  · unfold fieldsT
    have := list_len (t.2 0)
    simp
    omega
/-- A field of a right tell is told as it was. -/
theorem told_text {t u : TellP} {p : Pl} (hp : p ∈ listK (t.2 0)) (R : RightP t) : p.told (fieldsT t) u = if p.isName = true then (upd u.1 p.off (t.1 p.off), u.2) else (u.1, upd u.2 p.off (t.2 p.off)) := by
  have e := list_ends _ p hp
  have ok := R.all p hp
  have tx := textOf_mem (fields_nodup t) (field_mem hp)
  unfold Pl.told
  rw [tx]
  obtain ⟨tag, nm, off, low, high⟩ := p
  cases nm with
  | true => rfl
  | false =>
    have ok' := of_decide_eq_true ok
    dsimp only at ok' e
    show (u.1, upd u.2 off ((intVE (numT (t.2 off)) low high).1 : Int)) = (u.1, upd u.2 off (t.2 off))
    rw [num_text e.2.2.1 ok' e.2.2.2.1]
/-- The fields of a list as another tell has them. -/
def sets : List Pl → TellP → TellP → TellP
  | [], _, u => u
  | p :: q, t, u => sets q t (if p.isName = true then (upd u.1 p.off (t.1 p.off), u.2) else (u.1, upd u.2 p.off (t.2 p.off)))
theorem tolds_sets {t : TellP} {F : List Fd} : ∀ (L : List Pl) (u : TellP), (∀ p ∈ L, ∀ u, p.told F u = if p.isName = true then (upd u.1 p.off (t.1 p.off), u.2) else (u.1, upd u.2 p.off (t.2 p.off))) → tolds L F u = sets L t u
  | [], _, _ => rfl
  | p :: q, u, h => by
    rw [tolds, sets, h p (by simp)]
    exact tolds_sets q _ (fun r hr => h r (by simp [hr]))
/-- What a right tell's body says is the tell. -/
theorem tell_back {t : TellP} (R : RightP t) : Same (tolds (listK (t.2 0)) (fieldsT t) (zeroT (t.2 0))) t := by
  rw [tolds_sets (t := t) _ _ (fun p hp u => told_text hp R)]
  rcases kinds R.kind.1 R.kind.2 with e | e | e | e
  · have g := R.tag (by omega)
    rw [e, listK_1]
    constructor <;> simp [sets, zeroT, upd, e, g]
  · have g := R.tag (by omega)
    have r := R.rep (by omega)
    rw [e, listK_2]
    constructor <;> simp [sets, zeroT, upd, e, g, r]
  · have n := R.name (by omega)
    have r := R.rep (by omega)
    rw [e, listK_3]
    constructor <;> simp [sets, zeroT, upd, e, n, r]
  · have n := R.name (by omega)
    have r := R.rep (by omega)
    rw [e, listK_4]
    constructor <;> simp [sets, zeroT, upd, e, n, r]
/-- What fits is right. -/
theorem name_of {l : List Fd} {t : Int} (h : Fits (lookF l) (t, .name)) : vldB (textOf l t) = true := by
  have := fits_text h
  by_cases hv : vldB (textOf l t) = true
  · exact hv
  · have e : Want.err .name (textOf l t) = 43 := if_neg hv
    rw [e] at this
    simp at this
theorem int_of {l : List Fd} {t lo hi : Int} (h : Fits (lookF l) (t, .int lo hi)) : lo ≤ ((intVE (textOf l t) lo hi).1 : Int) ∧ ((intVE (textOf l t) lo hi).1 : Int) ≤ hi := by
  have := int_back (fits_text h)
  exact ⟨this.1, this.2.1⟩
theorem tell_sound {k : Int} {l : List Fd} (h1 : 1 ≤ k) (h4 : k ≤ 4) (h : ∀ w ∈ (listK k).map Pl.want, Fits (lookF l) w) : RightP (tolds (listK k) l (zeroT k)) := by
  have N : ∀ tag off low high, (⟨tag, true, off, low, high⟩ : Pl) ∈ listK k → vldB (textOf l tag) = true := fun tag off low high hp => name_of (h _ (List.mem_map.2 ⟨_, hp, rfl⟩))
  have I : ∀ tag off low high, (⟨tag, false, off, low, high⟩ : Pl) ∈ listK k → low ≤ ((intVE (textOf l tag) low high).1 : Int) ∧ ((intVE (textOf l tag) low high).1 : Int) ≤ high := fun tag off low high hp => int_of (h _ (List.mem_map.2 ⟨_, hp, rfl⟩))
  clear h
  rcases kinds h1 h4 with rfl | rfl | rfl | rfl
  · rw [listK_1] at N I
    have a1 := N 11 1 0 0 (by simp)
    have a2 := N 17 2 0 0 (by simp)
    have a3 := I 39 3 0 9 (by simp)
    have a4 := I 32 4 0 1099511627776 (by simp)
    have a5 := I 31 5 0 1099511627776 (by simp)
    have a6 := I 14 6 0 1099511627776 (by simp)
    have a7 := I 151 7 0 1099511627776 (by simp)
    have a8 := I 103 9 0 999 (by simp)
    have hk : (tolds (listK 1) l (zeroT 1)).2 0 = 1 := by simp [listK_1, tolds, Pl.told, zeroT, upd]
    refine ⟨by rw [hk]; omega, ?_, fun n => absurd hk n, fun n => by omega, fun _ => by simp [listK_1, tolds, Pl.told, zeroT, upd]⟩
    rw [hk, listK_1]
    simp [tolds, Pl.told, zeroT, upd, Pl.okB]
    simp at a3 a4 a5 a6 a7 a8
    exact ⟨a1, a2, a3, a4, a5, a6, a7, a8⟩
  · rw [listK_2] at N I
    have a1 := N 11 1 0 0 (by simp)
    have a3 := I 39 3 0 9 (by simp)
    have a8 := I 103 9 0 999 (by simp)
    have hk : (tolds (listK 2) l (zeroT 2)).2 0 = 2 := by simp [listK_2, tolds, Pl.told, zeroT, upd]
    refine ⟨by rw [hk]; omega, ?_, fun _ => by simp [listK_2, tolds, Pl.told, zeroT, upd], fun n => by omega, fun _ => by simp [listK_2, tolds, Pl.told, zeroT, upd]⟩
    rw [hk, listK_2]
    simp [tolds, Pl.told, zeroT, upd, Pl.okB]
    simp at a3 a8
    exact ⟨a1, a3, a8⟩
  · rw [listK_3] at N I
    have a3 := I 371 8 0 99999 (by simp)
    have a8 := I 373 9 0 999 (by simp)
    have hk : (tolds (listK 3) l (zeroT 3)).2 0 = 3 := by simp [listK_3, tolds, Pl.told, zeroT, upd]
    refine ⟨by rw [hk]; omega, ?_, fun _ => by simp [listK_3, tolds, Pl.told, zeroT, upd], fun _ => by simp [listK_3, tolds, Pl.told, zeroT, upd], fun n => by omega⟩
    rw [hk, listK_3]
    simp [tolds, Pl.told, zeroT, upd, Pl.okB]
    simp at a3 a8
    exact ⟨a3, a8⟩
  · rw [listK_4] at N I
    have a3 := I 371 8 0 99999 (by simp)
    have a8 := I 380 9 0 999 (by simp)
    have hk : (tolds (listK 4) l (zeroT 4)).2 0 = 4 := by simp [listK_4, tolds, Pl.told, zeroT, upd]
    refine ⟨by rw [hk]; omega, ?_, fun _ => by simp [listK_4, tolds, Pl.told, zeroT, upd], fun _ => by simp [listK_4, tolds, Pl.told, zeroT, upd], fun n => by omega⟩
    rw [hk, listK_4]
    simp [tolds, Pl.told, zeroT, upd, Pl.okB]
    simp at a3 a8
    exact ⟨a3, a8⟩
/-- The form behind all asks for a kind. -/
def decS (k : Int) (l : List Fd) : StP := runS (x0F l) ((listK k).map Pl.want)
/-- The tag and the error's number of a body's fields. -/
def decE (l : List Fd) : Int × Int := if kindOf (textOf l 35) = 0 then (35, 120) else doneE (decS (kindOf (textOf l 35)) l) (l.map Prod.fst)
/-- The tag and the error's number of a text. -/
def decT (l : List UInt8) : Int × Int := if readE l ≠ 0 then (0, (readE l : Int)) else decE (fieldsL l).1
/-- The tell of a text. -/
def decA (l : List UInt8) : TellP := if (decT l).2 = 0 then tolds (listK (kindOf (textOf (fieldsL l).1 35))) (fieldsL l).1 (zeroT (kindOf (textOf (fieldsL l).1 35))) else zeroT 0
theorem dec_zero {l : List Fd} (h : (decE l).2 = 0) : decE l = (0, 0) := by
  unfold decE at *
  split at h
  · simp at h
  · rename_i n1
    rw [if_neg n1]
    exact (done_run h).2.1
theorem decT_zero {l : List UInt8} (h : (decT l).2 = 0) : decT l = (0, 0) := by
  unfold decT at *
  split at h
  · rename_i n1
    dsimp only at h
    omega
  · rename_i n1
    rw [if_neg n1]
    exact dec_zero h
/-- What is encoded is decoded as it was. -/
theorem dec_right {t : TellP} (R : RightP t) : decT (cat (fieldsT t)) = (0, 0) ∧ Same (decA (cat (fieldsT t))) t := by
  obtain ⟨ok, l64⟩ := right_allOk R
  have hf := fields_cat12 ok l64
  have hn := fields_nodup t
  have hE : readE (cat (fieldsT t)) = 0 := by
    unfold readE
    rw [hf]
    dsimp only
    rw [if_neg (by simp), if_pos (by rw [fields_tags]; simp), if_pos hn]
  have h35 : textOf (fieldsT t) 35 = wordT (t.2 0) := textOf_mem hn (by unfold fieldsT; simp)
  have hk : kindOf (textOf (fieldsT t) 35) = t.2 0 := by rw [h35]; exact kind_word R.kind.1 R.kind.2
  have hS : decS (t.2 0) (fieldsT t) = (markAll (lookF (fieldsT t)) ((listK (t.2 0)).map Pl.tag), 0, 0) := by
    unfold decS
    rw [← want_tags]
    exact runS_fresh _ (right_fits R)
  have hD : doneE (decS (t.2 0) (fieldsT t)) ((fieldsT t).map Prod.fst) = (0, 0) := by
    unfold doneE
    rw [hS]
    dsimp only
    rw [if_pos rfl]
    exact done_all hn (fun u hu => by
      rw [fields_tags] at hu
      exact List.mem_cons.1 hu)
  have hT : decT (cat (fieldsT t)) = (0, 0) := by
    unfold decT
    rw [if_neg (by omega), hf]
    dsimp only
    unfold decE
    rw [hk, if_neg (by have := R.kind.1; omega), hD]
  refine ⟨hT, ?_⟩
  unfold decA
  rw [hT, if_pos rfl, hf]
  dsimp only
  rw [hk]
  exact tell_back R
/-- What is decoded is right. -/
theorem dec_sound {l : List UInt8} (h : (decT l).2 = 0) : RightP (decA l) := by
  have hA : decA l = tolds (listK (kindOf (textOf (fieldsL l).1 35))) (fieldsL l).1 (zeroT (kindOf (textOf (fieldsL l).1 35))) := if_pos h
  have hE : readE l = 0 := by
    unfold decT at h
    by_cases e : readE l = 0
    · exact e
    · rw [if_pos e] at h
      dsimp only at h
      omega
  have hT : decT l = decE (fieldsL l).1 := by unfold decT; rw [if_neg (by omega)]
  rw [hT] at h
  rw [hA]
  generalize (fieldsL l).1 = F at *
  have hk0 : kindOf (textOf F 35) ≠ 0 := fun e => by
    unfold decE at h
    rw [if_pos e] at h
    simp at h
  have hr := kind_range (textOf F 35)
  unfold decE at h
  rw [if_neg hk0] at h
  generalize kindOf (textOf F 35) = K at *
  have h0 := (done_run h).1
  exact tell_sound (by omega) (by omega) (runS_fresh_ok _ h0)
theorem Same.right {t u : TellP} (h : Same t u) (R : RightP t) : RightP u := by
  have e := h.k
  refine ⟨by rw [← e]; exact R.kind, ?_, fun n => ?_, fun n => ?_, fun n => ?_⟩
  · intro p hp
    rw [← e] at hp
    have a := R.all p hp
    have l := list_ends _ p hp
    obtain ⟨tag, nm, off, low, high⟩ := p
    dsimp only at l
    have so : nm = true → t.1 off = u.1 off := fun n => by
      rcases l.2.2.2.2.2.2.1 n with rfl | rfl
      · exact h.i
      · exact h.x
    have si : ¬ nm = true → t.2 off = u.2 off := fun n => by
      have n1 : off ≠ 1 := fun e => n (l.2.2.2.2.2.2.2 (.inl e))
      have n2 : off ≠ 2 := fun e => n (l.2.2.2.2.2.2.2 (.inr e))
      rcases (show off = 3 ∨ off = 4 ∨ off = 5 ∨ off = 6 ∨ off = 7 ∨ off = 8 ∨ off = 9 by omega) with rfl | rfl | rfl | rfl | rfl | rfl | rfl
      · exact h.s
      · exact h.l
      · exact h.p
      · exact h.c
      · exact h.e
      · exact h.g
      · exact h.r
    unfold Pl.okB at a ⊢
    dsimp only at a ⊢
    by_cases n : nm = true
    · rw [if_pos n] at a ⊢
      rw [← so n]
      exact a
    · rw [if_neg n] at a ⊢
      rw [← si n]
      exact a
  · have := R.rep (by rw [e]; exact n)
    rw [← h.x, ← h.l, ← h.p, ← h.c, ← h.e]
    exact this
  · have := R.name (by rw [e]; exact n)
    rw [← h.i, ← h.s]
    exact this
  · have := R.tag (by rw [e]; exact n)
    rw [← h.g]
    exact this
end Go.Proofs.YtdacmhnniecmhaaDoor
