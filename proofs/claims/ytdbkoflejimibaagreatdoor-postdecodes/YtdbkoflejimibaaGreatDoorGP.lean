/-
  The reference's form in memory; the contracts of its Find, Fail, Value and Kind.
-/
import Derived.Deep.RegionLaw
import Derived.Test.YtdbkoflejimibaaGreatDoorGM
import Derived.Test.YtdbkoflejimibaaGreatDoorJA
import Derived.Test.YtdbkoflejimibaaGreatDoorGB
import Derived.Test.YtdbkoflejimibaaGreatDoorGD
import Derived.Test.YtdbkoflejimibaaGreatDoorGO
namespace Go.Proofs.YtdbkoflejimibaaGreatDoor
open Go.ChangeShapes Go.WideShapes Go.ChangeAt Go.RowKit Go.Lib

/-- The reference's form at block fb: its fields' slice v, its asked tags' slice u, the first error's tag, the first error; all of it from block m on; all but S is as in w0. -/
structure RFrm (m : Nat) (S : Nat → Prop) (w0 w : World) (fb : Nat) (v : Value) (l : List Fd) (u : Value) (A : List Int) (tag e : Int) : Prop where
  c0 : w.cell? ⟨fb, 0, none⟩ = some v
  c1 : w.cell? ⟨fb, 1, none⟩ = some u
  c2 : w.cell? ⟨fb, 2, none⟩ = some (.int .i64 tag)
  c3 : w.cell? ⟨fb, 3, none⟩ = some (.int .i64 e)
  fz : ∀ j, w.frozen? ⟨fb, j, none⟩ = false
  ownv : w.ownsRow m 85 2 v l.length (cells2 l)
  own : w.ownsRow m 3 1 u A.length (its A)
  lo : m ≤ fb
  nf : u.ownBlock ≠ some fb
  nv : v.ownBlock ≠ some fb
  nu : ∀ g, v.ownBlock = some g → u.ownBlock ≠ some g
  sf : S fb
  su : ∀ g, u.ownBlock = some g → g < w0.heap.size → S g
  but : But S w0 w
theorem RFrm.lt {m : Nat} {S : Nat → Prop} {w0 w : World} {fb : Nat} {v : Value} {l : List Fd} {u : Value} {A : List Int} {tag e : Int} (h : RFrm m S w0 w fb v l u A tag e) : fb < w.heap.size := World.block_lt_of_cell? _ _ h.c0
theorem RFrm.still {m : Nat} {S : Nat → Prop} {w0 w w' : World} {fb : Nat} {v : Value} {l : List Fd} {u : Value} {A : List Int} {tag e : Int} (h : RFrm m S w0 w fb v l u A tag e) (k : Below w.heap.size w w') : RFrm m S w0 w' fb v l u A tag e where
  c0 := (k.cell (p := ⟨fb, 0, none⟩) h.lt).trans h.c0
  c1 := (k.cell (p := ⟨fb, 1, none⟩) h.lt).trans h.c1
  c2 := (k.cell (p := ⟨fb, 2, none⟩) h.lt).trans h.c2
  c3 := (k.cell (p := ⟨fb, 3, none⟩) h.lt).trans h.c3
  fz := fun j => (k.frozen (p := ⟨fb, j, none⟩) h.lt).trans (h.fz j)
  ownv := own_below h.ownv k
  own := own_below h.own k
  lo := h.lo
  nf := h.nf
  nv := h.nv
  nu := h.nu
  sf := h.sf
  su := h.su
  but := h.but.trans (But.of_below (S := fun _ => False) k) (fun _ _ e => e.elim)
theorem put_other {w : World} {r j j' : Nat} {v x : Value} (h : w.cell? ⟨r, j, none⟩ = some x) (hj : j ≠ j') : (w.setCell ⟨r, j', none⟩ v).cell? ⟨r, j, none⟩ = some x :=
  (World.cell?_setCell_other _ _ _ _ (by simp only [ne_eq, Addr.mk.injEq]; omega)).trans h
theorem RFrm.failed {m : Nat} {S : Nat → Prop} {w0 w : World} {fb : Nat} {v : Value} {l : List Fd} {u : Value} {A : List Int} {tag e : Int} (h : RFrm m S w0 w fb v l u A tag e) (t e' : Int) : RFrm m S w0 ((w.setCell ⟨fb, 2, none⟩ (.int .i64 t)).setCell ⟨fb, 3, none⟩ (.int .i64 e')) fb v l u A t e' := by
  have hB : But (fun k => k = fb) w ((w.setCell ⟨fb, 2, none⟩ (.int .i64 t)).setCell ⟨fb, 3, none⟩ (.int .i64 e')) := ((But.refl (fun k => k = fb) w).setCell fb 2 _ (fun _ => rfl)).setCell fb 3 _ (fun _ => rfl)
  refine ⟨put_other (put_other h.c0 (by omega)) (by omega), put_other (put_other h.c1 (by omega)) (by omega), put_other (World.cell?_setCell_same _ _ _ h.c2) (by omega), World.cell?_setCell_same _ _ _ (put_other h.c3 (by omega)), fun j => by rw [World.frozen?_setCell, World.frozen?_setCell]; exact h.fz j, own_kept h.ownv hB (fun g hg e => h.nv (by rw [hg, e])), own_kept h.own hB (fun g hg e => h.nf (by rw [hg, e])), h.lo, h.nf, h.nv, h.nu, h.sf, h.su, (h.but.setCell fb 2 _ (fun _ => h.sf)).setCell fb 3 _ (fun _ => h.sf)⟩
theorem RFrm.more {m : Nat} {S : Nat → Prop} {w0 w w' : World} {fb : Nat} {v : Value} {l : List Fd} {u u' : Value} {A : List Int} {tag e t : Int} (h : RFrm m S w0 w fb v l u A tag e) (hg : w.grownBy w' u.ownBlock) (ho : w'.ownsRow m 3 1 u' (A.length + 1) (its A ++ [.int .i64 t])) (hat : u'.ownBlock = u.ownBlock ∨ u'.ownBlock = some w.heap.size) : RFrm m S w0 (w'.setCell ⟨fb, 1, none⟩ u') fb v l u' (A ++ [t]) tag e := by
  have BG := But.of_grown hg
  have lt := h.lt
  have hlo := h.lo
  have n1 : ¬ u.ownBlock = some fb := h.nf
  have nf' : u'.ownBlock ≠ some fb := fun e => by
    rcases hat with x | x
    · exact h.nf (by rw [← x]; exact e)
    · rw [x] at e
      simp only [Option.some.injEq] at e
      omega
  have hB : But (fun k => k = fb) w' (w'.setCell ⟨fb, 1, none⟩ u') := (But.refl (fun k => k = fb) w').setCell fb 1 _ (fun _ => rfl)
  refine ⟨put_other ((BG.cell lt n1).trans h.c0) (by omega), World.cell?_setCell_same _ _ _ ((BG.cell lt n1).trans h.c1), put_other ((BG.cell lt n1).trans h.c2) (by omega), put_other ((BG.cell lt n1).trans h.c3) (by omega), fun j => by rw [World.frozen?_setCell]; exact (BG.frozen lt n1).trans (h.fz j), own_kept (own_kept h.ownv BG (fun g hg e => h.nu g hg e)) hB (fun g hg e => h.nv (by rw [hg, e])), ?_, h.lo, nf', h.nv, fun g hg e => ?_, h.sf, fun g hg lg => ?_, ?_⟩
  · rw [its_more, List.length_append]
    exact own_kept ho hB (fun g hg e => nf' (by rw [hg, e]))
  · rcases hat with x | x
    · exact h.nu g hg (by rw [← x]; exact e)
    · rw [x] at e
      simp only [Option.some.injEq] at e
      have := (h.ownv.lt g hg).2
      omega
  · rcases hat with x | x
    · exact h.su g (by rw [← x]; exact hg) lg
    · rw [x] at hg
      simp only [Option.some.injEq] at hg
      have := h.but.size
      omega
  · exact (h.but.trans BG (fun i hi e => h.su i e hi)).setCell fb 1 _ (fun _ => h.sf)
theorem RFrm.base {m : Nat} {S S' : Nat → Prop} {w0 w : World} {fb : Nat} {v : Value} {l : List Fd} {u : Value} {A : List Int} {tag e : Int} (h : RFrm m S w0 w fb v l u A tag e) (hf : S' fb) (hu : ∀ g, u.ownBlock = some g → S' g) : RFrm m S' w w fb v l u A tag e :=
  { h with sf := hf, su := fun g hg _ => hu g hg, but := But.refl _ _ }
theorem RFrm.grown {m : Nat} {S : Nat → Prop} {w0 w : World} {fb : Nat} {v : Value} {l : List Fd} {u : Value} {A : List Int} {tag e : Int} (h : RFrm m S w0 w fb v l u A tag e) : m ≤ w.heap.size := by
  have := h.lt
  have := h.lo
  omega
/-- A tag's place among fields. -/
def findI (l : List Fd) (t : Int) : Option Nat := l.findIdx? (fun f => f.1 == t)
set_option maxHeartbeats 2000000 in
theorem find_any {m : Nat} {S : Nat → Prop} {w0 w : World} {fb : Nat} {v : Value} {l : List Fd} {u : Value} {A : List Int} {tag e : Int} (h : RFrm m S w0 w fb v l u A tag e) (t : Int) :
    Calls Tryz.prog 59 #[.pointer (some ⟨fb, 0, none⟩), .int .i64 t] w fun e w' => e = .returned (.int .i64 (match findI l t with | some j => (j : Int) | none => -1)) ∧ w' = w := by
  obtain ⟨a, cap, rfl, h1, h2, h3⟩ := flds_of_own h.ownv
  unfold maxLen at h2
  have c0 := h.c0
  obtain ⟨R, hR⟩ : ∃ R : Int, (match findI l t with | some j => (j : Int) | none => -1) = R := ⟨_, rfl⟩
  rw [hR]
  have HR : Hid ((match findI l t with | some j => (j : Int) | none => -1) = R) := hR
  clear h hR
  go_enter Tryz.func59, Tryz.ntmps59
  go_wp2_with fail
  go_loopw [5] (fun i wr => ∃ k : Nat, i = .int .i64 (k : Int) ∧ k ≤ l.length ∧ wr = w ∧ Hid (∀ j, (hj : j < l.length) → j < k → (l[j]).1 ≠ t)) (fun i _ => l.length - (RowKit.intOf i).toNat)
  case atStart => exact ⟨0, rfl, Nat.zero_le _, rfl, fun j _ hj => absurd hj (by omega)⟩
  case round =>
    obtain ⟨k, rfl, hk, rfl, HN⟩ := hrel
    by_cases hp : k < l.length
    · have t0 : (k : Int) < (l.length : Int) := by omega
      obtain ⟨b, off, rfl, x0, x1⟩ := h3 k hp
      by_cases hx : (l[k]).1 = t
      · have g : ((l[k]).1 == t) = true := beq_iff_eq.2 hx
        have HE : Hid (R = (k : Int)) := by
          show R = (k : Int)
          rw [← HR.out]
          have : findI l t = some k := by
            unfold findI
            rw [List.findIdx?_eq_some_iff_getElem]
            exact ⟨hp, beq_iff_eq.2 hx, fun j hj => by have := HN.out j (by omega) hj; simpa using this⟩
          rw [this]
        clear h3 hx HN
        generalize (l[k]).1 = T at *
        go_wp2_with fail
        go_ret
        exact ⟨by rw [HE.out]; rfl, rfl⟩
      · have g : ((l[k]).1 == t) = false := beq_false_of_ne hx
        have HN2 : Hid (∀ j, (hj : j < l.length) → j < k + 1 → (l[j]).1 ≠ t) := fun j hj hjk => by
          by_cases e : j = k
          · subst e; exact hx
          · exact HN.out j hj (by omega)
        clear h3 hx HN
        generalize (l[k]).1 = T at *
        go_wp2_with fail
        go_roundw
        case rel => exact ⟨k + 1, by simp, by omega, by first | trivial | rfl, HN2⟩
        case measure => simp [RowKit.intOf]; omega
    · obtain rfl : k = l.length := by omega
      have t0 : ¬ (l.length : Int) < (l.length : Int) := by omega
      have HE : Hid (R = -1) := by
        show R = -1
        rw [← HR.out]
        have : findI l t = none := by
          unfold findI
          rw [List.findIdx?_eq_none_iff]
          intro x hx
          obtain ⟨j, hj, rfl⟩ := List.getElem_of_mem hx
          exact beq_false_of_ne (HN.out j hj hj)
        rw [this]
      clear h3 HN
      go_wp2_with fail
      go_ret
      exact ⟨by rw [HE.out]; rfl, rfl⟩
set_option maxHeartbeats 2000000 in
theorem fail_any {m : Nat} {S : Nat → Prop} {w0 w : World} {fb : Nat} {v : Value} {l : List Fd} {u : Value} {A : List Int} {tag : Int} (h : RFrm m S w0 w fb v l u A tag 0) (t e' : Int) :
    Calls Tryz.prog 35 #[.pointer (some ⟨fb, 0, none⟩), .int .i64 t, .int .i64 e'] w fun e w' => e = .returned (.tuple #[]) ∧ RFrm m S w0 w' fb v l u A t e' := by
  have c2 := h.c2
  have c3 := h.c3
  have z2 := h.fz 2
  have z3 := h.fz 3
  have HF : Hid (RFrm m S w0 ((w.setCell ⟨fb, 2, none⟩ (.int .i64 t)).setCell ⟨fb, 3, none⟩ (.int .i64 e')) fb v l u A t e') := h.failed t e'
  clear h
  go_enter Tryz.func35, Tryz.ntmps35
  go_wp2_with fail
  go_end0
  exact ⟨rfl, HF.out⟩
end Go.Proofs.YtdbkoflejimibaaGreatDoor
/-
  The contracts of the reference's Value, Kind, Name, Int, Ints and Done.
-/
namespace Go.Proofs.YtdbkoflejimibaaGreatDoor
open Go.ChangeShapes Go.WideShapes Go.ChangeAt Go.RowKit Go.Lib

/-- A text of a tag, or none. -/
def textO (l : List Fd) (t : Int) : Option ByteArray := (l.find? (fun f => f.1 == t)).map Prod.snd
theorem find_text (l : List Fd) (t : Int) : (∃ j, ∃ h : j < l.length, findI l t = some j ∧ textO l t = some (l[j]).2) ∨ (findI l t = none ∧ textO l t = none) := by
  unfold findI textO
  cases hf : l.findIdx? (fun f => f.1 == t) with
  | none =>
    refine .inr ⟨rfl, ?_⟩
    rw [List.findIdx?_eq_none_iff] at hf
    rw [List.find?_eq_none.2 (fun x hx => by rw [hf x hx]; simp)]
    rfl
  | some j =>
    rw [List.findIdx?_eq_some_iff_getElem] at hf
    obtain ⟨hj, h1, h2⟩ := hf
    refine .inl ⟨j, hj, rfl, ?_⟩
    have : l.find? (fun f => f.1 == t) = some l[j] := by
      rw [List.find?_eq_some_iff_getElem]
      exact ⟨h1, j, hj, rfl, fun i hi => by have := h2 i hi; simpa using this⟩
    rw [this]
    rfl
theorem look_text (l : List Fd) (t : Int) : (lookF l t).map Prod.fst = textO l t := by
  unfold lookF textO
  cases l.find? (fun f => f.1 == t) with
  | none => rfl
  | some f => rfl
set_option maxHeartbeats 2000000 in
theorem value_err {m : Nat} {S : Nat → Prop} {w0 w : World} {fb : Nat} {v : Value} {l : List Fd} {u : Value} {A : List Int} {tag e0 : Int} (h : RFrm m S w0 w fb v l u A tag e0) (he : e0 ≠ 0) (t : Int) :
    Calls Tryz.prog 33 #[.pointer (some ⟨fb, 0, none⟩), .int .i64 t] w fun e w' => e = .returned (.tuple #[.string ⟨#[]⟩, .bool false]) ∧ w' = w := by
  have c3 := h.c3
  have te : (e0 == 0) = false := beq_false_of_ne he
  clear h he
  go_enter Tryz.func33, Tryz.ntmps33
  go_wp2_with fail
  go_ret2
  exact ⟨rfl, rfl⟩
/-- What Value tells of a form that has no error: the text, whether there is one. -/
def valueV (l : List Fd) (t : Int) : ByteArray × Bool := match textO l t with
  | some s => (s, true)
  | none => (⟨#[]⟩, false)
/-- The error behind it. -/
def valueT (l : List Fd) (t tag : Int) : Int × Int := match textO l t with
  | some _ => (tag, 0)
  | none => (t, 110)
theorem cell_int_new12 (w : World) (x : Value) (t : TypeId) : ∀ j u, ([x] : List Value)[j]? = some u → (w.alloc (.cells #[x] t)).cell? ((⟨w.heap.size, 0, none⟩ : Addr).add j) = some u := by
  intro j u hj
  rw [Addr.add_lit, Nat.zero_add]
  match j, hj with
  | 0, hj => simp at hj; subst hj; simp
  | j + 1, hj => simp at hj
set_option maxRecDepth 1000000 in
set_option maxHeartbeats 4000000 in
theorem value_ok {m : Nat} {S : Nat → Prop} {w0 w : World} {fb : Nat} {v : Value} {l : List Fd} {u : Value} {A : List Int} {tag : Int} (h : RFrm m S w0 w fb v l u A tag 0) (hA : A.length ≤ 1000) (t : Int) :
    Calls Tryz.prog 33 #[.pointer (some ⟨fb, 0, none⟩), .int .i64 t] w fun e w' => e = .returned (.tuple #[.string (valueV l t).1, .bool (valueV l t).2]) ∧ ∃ u', RFrm m S w0 w' fb v l u' (A ++ [t]) (valueT l t tag).1 (valueT l t tag).2 := by
  obtain ⟨i0, hi0, hz0, hzs, hzb⟩ := info_parts infoI
  obtain ⟨a, cap, rfl⟩ := own_shape h.own
  have c1 := h.c1
  have c3 := h.c3
  have lt := h.lt
  have nb : ¬ fb = w.heap.size := by omega
  have nb' : ¬ w.heap.size = fb := by omega
  have BA : Below w.heap.size w (w.alloc (.cells #[.int .i64 t] 3)) := (Below.refl _ w).alloc (Nat.le_refl _) _
  have F1 := h.still BA
  have hown := F1.own
  have hcn := cell_int_new12 w (.int .i64 t) 3
  have hgr := h.grown
  have HF1 : Hid (RFrm m S w0 (w.alloc (.cells #[.int .i64 t] 3)) fb v l (.slice a A.length cap) A tag 0) := F1
  clear h F1 BA
  go_enter Tryz.func33, Tryz.ntmps33
  go_wp2_with (at_builtin; refine wpList_append_own_at _ rfl _ _ 60 rfl m 3 i0 (.int .i64 0) 1 8 Tryz.underlying60 hi0 hz0 hzs hzb rfl (by decide) _ _ _ rfl hown ⟨w.heap.size, 0, none⟩ 1 1 [.int .i64 t] rfl rfl ?hnews ?hone ?h63 ?hbytes ?hbase ?_)
  case hnews => exact hcn
  case hone => simp [Value.oneCell']
  case h63 => unfold maxLen; omega
  case hbytes => omega
  case hbase => first | omega | (simp; omega)
  intro u5 w5 hown5 hg5 _ hat5
  have F5 := HF1.out.more hg5 hown5 (by simpa using hat5)
  obtain ⟨a5, cap5, rfl⟩ := own_shape hown5
  have BG := But.of_grown hg5
  have x1 := (BG.cell (o := 1) HF1.out.lt HF1.out.nf).trans HF1.out.c1
  have y1 := (BG.frozen (o := 1) HF1.out.lt HF1.out.nf).trans (HF1.out.fz 1)
  have FD := find_any F5 t
  have HF5 : Hid (RFrm m S w0 (w5.setCell ⟨fb, 1, none⟩ (.slice a5 (A.length + 1) cap5)) fb v l (.slice a5 (A.length + 1) cap5) (A ++ [t]) tag 0) := F5
  have FL := fail_any F5 t 110
  clear hg5 hown5 hat5 BG F5 hown hcn HF1
  rcases find_text l t with ⟨j, hj, ej, tj⟩ | ⟨ej, tj⟩
  · rw [ej] at FD
    dsimp only at FD
    have g0 : ¬ (j : Int) < 0 := by omega
    obtain ⟨va, vc, rfl, _, v2, v3⟩ := flds_of_own HF5.out.ownv
    unfold maxLen at v2
    obtain ⟨b, off, rfl, y0, y2⟩ := v3 j hj
    have d0 := HF5.out.c0
    have hjl : (j : Int) < (l.length : Int) := by omega
    have HV : Hid (valueV l t = ((l[j]).2, true) ∧ valueT l t tag = (tag, 0)) := by
      show _ ∧ _
      unfold valueV valueT
      rw [tj]
      exact ⟨rfl, rfl⟩
    clear v3 FL tj ej
    generalize (l[j]).2 = S at *
    generalize (l[j]).1 = T at *
    obtain ⟨W, hW⟩ : ∃ W, W = w5.setCell ⟨fb, 1, none⟩ (.slice a5 (A.length + 1) cap5) := ⟨_, rfl⟩
    have FD' : Calls Tryz.prog 59 #[.pointer (some ⟨fb, 0, none⟩), .int .i64 t] (w5.setCell ⟨fb, 1, none⟩ (.slice a5 (A.length + 1) cap5)) fun e w' => e = .returned (.int .i64 (j : Int)) ∧ w' = W := by rw [hW]; exact FD
    rw [← hW] at d0 y0 y2 HF5
    clear FD hW
    go_wp2_with fail
    refine FD'.mono ?_
    rintro e w6 ⟨rfl, rfl⟩
    clear FD'
    go_wp2_with fail
    go_ret2
    exact ⟨by rw [HV.out.1]; rfl, .slice a5 (A.length + 1) cap5, by rw [HV.out.2]; exact HF5.out⟩
  · rw [ej] at FD
    dsimp only at FD
    have HV : Hid (valueV l t = (⟨#[]⟩, false) ∧ valueT l t tag = (t, 110)) := by
      show _ ∧ _
      unfold valueV valueT
      rw [tj]
      exact ⟨rfl, rfl⟩
    have FD' : Calls Tryz.prog 59 #[.pointer (some ⟨fb, 0, none⟩), .int .i64 t] (w5.setCell ⟨fb, 1, none⟩ (.slice a5 (A.length + 1) cap5)) fun e w' => e = .returned (.int .i64 (-1)) ∧ Calls Tryz.prog 35 #[.pointer (some ⟨fb, 0, none⟩), .int .i64 t, .int .i64 110] w' fun e w'' => e = .returned (.tuple #[]) ∧ RFrm m S w0 w'' fb v l (.slice a5 (A.length + 1) cap5) (A ++ [t]) t 110 := FD.mono fun e w' ⟨he, hw⟩ => ⟨he, by rw [hw]; exact FL⟩
    clear FD FL tj ej
    go_wp2_with fail
    refine FD'.mono ?_
    rintro e w6 ⟨rfl, FL⟩
    clear FD'
    go_wp2_with fail
    refine FL.mono ?_
    rintro e w7 ⟨rfl, F7⟩
    clear FL
    go_wp2_with fail
    go_ret2
    exact ⟨by rw [HV.out.1]; rfl, .slice a5 (A.length + 1) cap5, by rw [HV.out.2]; exact F7⟩
end Go.Proofs.YtdbkoflejimibaaGreatDoor
/-
  The contracts of the reference's Name, Kind and Done.
-/
namespace Go.Proofs.YtdbkoflejimibaaGreatDoor
open Go.ChangeShapes Go.WideShapes Go.ChangeAt Go.RowKit Go.Lib

set_option maxRecDepth 1000000 in
set_option maxHeartbeats 4000000 in
theorem refValid_big (s : ByteArray) (w : World) (hs : s.size ≤ 100000) :
    Calls Tryz.prog 36 #[.string s] w fun e w' => e = .returned (.bool (vldB s)) ∧ Below w.heap.size w w' := by
  obtain ⟨L, hL⟩ : ∃ L, runes s = L := ⟨_, rfl⟩
  have hlen : L.length ≤ 100000 := by rw [← hL]; exact Nat.le_trans (runes_le s s.size 0) hs
  have hrs : Conv.runesFrom s s.size 0 #[] = (L.map fun c : Nat => Value.int .i32 (c : Int)).toArray := by rw [runesFrom_eq]; show _ = _; unfold runes at hL; rw [hL]; simp
  obtain ⟨C, hC, hCn⟩ : ∃ C, Hid (C = grownCap w L.length 0 21) ∧ L.length ≤ C := ⟨_, rfl, grownCap_ge w _ _ _⟩
  have hcm : C ≤ maxLen := by rw [hC.out]; exact grownCap_le_maxLen w _ _ _ (by unfold maxLen; omega)
  unfold maxLen at hcm
  obtain ⟨A, hA'⟩ : ∃ A : Array Value, A = (L.map fun c : Nat => Value.int .i32 (c : Int)).toArray ++ Array.replicate (C - L.length) (Value.int .i32 0) := ⟨_, rfl⟩
  have hA : Hid (A = _) := hA'
  clear hA'
  have hconv := run_runes_of_string (P := Tryz.prog) w 9 123 21 s Tryz.underlying9 Tryz.underlying123 Tryz.underlying21 (by rw [hrs]; simp; omega)
  rw [hrs] at hconv
  simp only [List.size_toArray, List.length_map] at hconv
  rw [← hC.out, ← hA.out] at hconv
  have hAl : L.length ≤ A.size := by rw [hA.out]; simp
  have hcell : ∀ k, (h : k < L.length) → A[k]? = some (.int .i32 (L[k] : Int)) := fun k h => by
    rw [hA.out]
    simp [Array.getElem?_append, h]
  have HV : Hid (vldB s = goodB 0 L) := by show vldB s = _; unfold vldB; rw [hL]
  have B : Below w.heap.size w (w.alloc (.cells A 21)).drew := ((Below.refl _ w).alloc (Nat.le_refl _) _).drew
  clear hrs hL hA
  by_cases h1 : L.length < 1
  · have t1 : (L.length : Int) < 1 := by omega
    go_enter Tryz.func36, Tryz.ntmps36
    go_wp2
    go_ret
    refine ⟨?_, B⟩
    rw [HV.out, goodB, decide_eq_false (by omega)]; rfl
  by_cases h2 : 20 < L.length
  · have t1 : ¬ (L.length : Int) < 1 := by omega
    have t2 : (20 : Int) < (L.length : Int) := by omega
    go_enter Tryz.func36, Tryz.ntmps36
    go_wp2
    go_ret
    refine ⟨?_, B⟩
    rw [HV.out, goodB, decide_eq_false (by omega)]; rfl
  have t1 : ¬ (L.length : Int) < 1 := by omega
  have t2 : ¬ (20 : Int) < (L.length : Int) := by omega
  go_enter Tryz.func36, Tryz.ntmps36
  go_wp2
  go_loop [4] (fun i => ∃ k : Nat, i = .int .i64 (k : Int) ∧ k ≤ L.length ∧ ∀ j, (h : j < L.length) → j < k → barB L[j] = false) (fun i => L.length - (RowKit.intOf i).toNat)
  case atStart => exact ⟨0, rfl, by omega, fun j _ h => absurd h (by omega)⟩
  case round =>
    obtain ⟨k, rfl, hk, hg⟩ := hrel
    by_cases hlt : k < L.length
    · have t3 : (k : Int) < (L.length : Int) := by omega
      have hc := hcell k hlt
      have HG : Hid (∀ j, (h : j < L.length) → j < k → barB L[j] = false) := hg
      have HB := goodB_drop L k hlt
      clear hg hcell
      obtain ⟨c, HC'⟩ : ∃ c, L[k] = c := ⟨_, rfl⟩
      have HC : Hid (L[k] = c) := HC'
      clear HC'
      rw [HC.out] at hc HB
      cases hb : barB c
      · have hb' := hb
        unfold barB at hb'
        rw [decide_eq_false_iff_not] at hb'
        have k1 : ¬ (c : Int) < 33 := by omega
        have k2 : ((c : Int) == 127) = false := beq_false_of_ne (by omega)
        have k3 : ((c : Int) == 61) = false := beq_false_of_ne (by omega)
        have k4 : ((c : Int) == 65533) = false := beq_false_of_ne (by omega)
        clear hb'
        go_wp2
        go_round
        case rel => exact ⟨k + 1, by simp, by omega, fun j h hj => if e : j = k then by subst e; rw [HC.out]; exact hb else HG.out j h (by omega)⟩
        case measure => simp [RowKit.intOf]; omega
      · have HB' : Hid (goodB 0 L = false) := HB hb
        clear HB
        rcases bar_cases hb with hx | ⟨k1, rfl⟩ | ⟨k1, k2, rfl⟩ | ⟨k1, k2, k3, rfl⟩
        · go_wp2
          go_ret
          exact ⟨by rw [HV.out, HB'.out]; rfl, B⟩
        · go_wp2
          go_ret
          exact ⟨by rw [HV.out, HB'.out]; rfl, B⟩
        · go_wp2
          go_ret
          exact ⟨by rw [HV.out, HB'.out]; rfl, B⟩
        · go_wp2
          go_ret
          exact ⟨by rw [HV.out, HB'.out]; rfl, B⟩
    · obtain rfl : k = L.length := by omega
      have HG : Hid (goodB 0 L = true) := goodB_all L (by omega) (by omega) (fun j h => hg j h h)
      clear hg hcell
      go_wp2
      go_ret
      exact ⟨by rw [HV.out, HG.out]; rfl, B⟩
/-- What becomes of the reference's form that is asked for a field whose text has that error: the asked tags, the error's tag, the error. -/
def refS (l : List Fd) (y : List Int × Int × Int) (t : Int) (err : ByteArray → Int) : List Int × Int × Int := if y.2.2 = 0 then (match textO l t with
  | none => (y.1 ++ [t], t, 110)
  | some s => if err s = 0 then (y.1 ++ [t], y.2.1, 0) else (y.1 ++ [t], t, err s)) else y
/-- What is told. -/
def refV {α : Type} (l : List Fd) (e t : Int) (err : ByteArray → Int) (val : ByteArray → α) (zero : α) : α := if e = 0 then (match textO l t with
  | none => zero
  | some s => if err s = 0 then val s else zero) else zero
/-- The reference's form by its state. -/
abbrev RSt (m : Nat) (S : Nat → Prop) (w0 w : World) (fb : Nat) (v : Value) (l : List Fd) (y : List Int × Int × Int) : Prop := ∃ u, RFrm m S w0 w fb v l u y.1 y.2.1 y.2.2
theorem refS_err {l : List Fd} {y : List Int × Int × Int} {t : Int} {err : ByteArray → Int} (h : y.2.2 ≠ 0) : refS l y t err = y := if_neg h
theorem refV_err {α : Type} {l : List Fd} {e t : Int} {err : ByteArray → Int} {val : ByteArray → α} {zero : α} (h : e ≠ 0) : refV l e t err val zero = zero := if_neg h
set_option maxHeartbeats 4000000 in
theorem refName_any {m : Nat} {S : Nat → Prop} {w0 w : World} {fb : Nat} {v : Value} {l : List Fd} {y : List Int × Int × Int} (h : RSt m S w0 w fb v l y) (hA : y.1.length ≤ 1000) (t : Int) (hs : ∀ s, textO l t = some s → s.size ≤ 100000) :
    Calls Tryz.prog 20 #[.pointer (some ⟨fb, 0, none⟩), .int .i64 t] w fun e w' => ∃ x, e = .returned (.string x) ∧ x = refV l y.2.2 t nameVE id ⟨#[]⟩ ∧ RSt m S w0 w' fb v l (refS l y t nameVE) := by
  obtain ⟨A, tag, e0⟩ := y
  obtain ⟨u, h⟩ := h
  dsimp only at h hA ⊢
  by_cases he : e0 = 0
  case neg =>
    rw [refS_err (y := (A, tag, e0)) he, refV_err he]
    have V := value_err h he t
    have H : Hid (RFrm m S w0 w fb v l u A tag e0) := h
    clear h
    go_enter Tryz.func20, Tryz.ntmps20
    go_wp2_with fail
    refine V.mono ?_
    rintro e w1 ⟨rfl, rfl⟩
    go_wp2_with fail
    go_ret
    exact ⟨_, rfl, rfl, u, H.out⟩
  subst he
  have V := value_ok h hA t
  clear h
  unfold refS refV valueV valueT at *
  dsimp only at *
  cases hT : textO l t with
  | none =>
    rw [hT] at V
    dsimp only at V ⊢
    simp only [if_true] at *
    go_enter Tryz.func20, Tryz.ntmps20
    go_wp2_with fail
    refine V.mono ?_
    rintro e w1 ⟨rfl, u1, F1⟩
    have H : Hid (RFrm m S w0 w1 fb v l u1 (A ++ [t]) t 110) := F1
    clear V F1
    go_wp2_with fail
    go_ret
    exact ⟨_, rfl, rfl, u1, H.out⟩
  | some s =>
    rw [hT] at V
    dsimp only at V ⊢
    simp only [if_true] at *
    have VA := fun w => refValid_big s w (hs s hT)
    clear hs hT
    cases hv : vldB s with
    | true =>
      rw [show nameVE s = 0 from if_pos hv]
      simp only [if_true]
      rw [hv] at VA
      clear hv
      go_enter Tryz.func20, Tryz.ntmps20
      go_wp2_with fail
      refine V.mono ?_
      rintro e w1 ⟨rfl, u1, F1⟩
      have H : Hid (RFrm m S w0 w1 fb v l u1 (A ++ [t]) tag 0) := F1
      clear V F1
      go_wp2_with fail
      refine (VA _).mono ?_
      rintro e w2 ⟨rfl, b2⟩
      have H2 : Hid (RFrm m S w0 w2 fb v l u1 (A ++ [t]) tag 0) := H.out.still b2
      clear b2 H
      go_wp2_with fail
      go_ret
      exact ⟨_, rfl, rfl, u1, H2.out⟩
    | false =>
      have n43 : nameVE s = 43 := if_neg (by rw [hv]; simp)
      rw [n43]
      rw [if_neg (by omega), if_neg (by omega)]
      rw [hv] at VA
      clear hv n43
      go_enter Tryz.func20, Tryz.ntmps20
      go_wp2_with fail
      refine V.mono ?_
      rintro e w1 ⟨rfl, u1, F1⟩
      have H : Hid (RFrm m S w0 w1 fb v l u1 (A ++ [t]) tag 0) := F1
      clear V F1
      go_wp2_with fail
      refine (VA _).mono ?_
      rintro e w2 ⟨rfl, b2⟩
      have FL := fail_any (H.out.still b2) t 43
      clear b2 H VA
      go_wp2_with fail
      refine FL.mono ?_
      rintro e w3 ⟨rfl, F3⟩
      have H3 : Hid (RFrm m S w0 w3 fb v l u1 (A ++ [t]) t 43) := F3
      clear FL F3
      go_wp2_with fail
      go_ret
      exact ⟨_, rfl, rfl, u1, H3.out⟩
set_option maxRecDepth 1000000 in
set_option maxHeartbeats 4000000 in
theorem refKind_any {m : Nat} {S : Nat → Prop} {w0 w : World} {fb : Nat} {v : Value} {l : List Fd} {A : List Int} {tag : Int} (h : RSt m S w0 w fb v l (A, tag, 0)) (hA : A.length ≤ 1000) (V : ByteArray) (r : List Fd) (hl : l = (35, V) :: r) :
    Calls Tryz.prog 18 #[.pointer (some ⟨fb, 0, none⟩)] w fun e w' => e = .returned (.string V) ∧ RSt m S w0 w' fb v l (A ++ [35], tag, 0) := by
  obtain ⟨u, h⟩ := h
  dsimp only at h
  obtain ⟨i0, hi0, hz0, hzs, hzb⟩ := info_parts infoI
  obtain ⟨a, cap, rfl⟩ := own_shape h.own
  have c1 := h.c1
  have c3 := h.c3
  have lt := h.lt
  have nb : ¬ fb = w.heap.size := by omega
  have nb' : ¬ w.heap.size = fb := by omega
  have BA : Below w.heap.size w (w.alloc (.cells #[.int .i64 35] 3)) := (Below.refl _ w).alloc (Nat.le_refl _) _
  have F1 := h.still BA
  have hown := F1.own
  have hcn := cell_int_new12 w (.int .i64 35) 3
  have hgr := h.grown
  have HF1 : Hid (RFrm m S w0 (w.alloc (.cells #[.int .i64 35] 3)) fb v l (.slice a A.length cap) A tag 0) := F1
  clear h F1 BA
  go_enter Tryz.func18, Tryz.ntmps18
  go_wp2_with (at_builtin; refine wpList_append_own_at _ rfl _ _ 60 rfl m 3 i0 (.int .i64 0) 1 8 Tryz.underlying60 hi0 hz0 hzs hzb rfl (by decide) _ _ _ rfl hown ⟨w.heap.size, 0, none⟩ 1 1 [.int .i64 35] rfl rfl ?hnews ?hone ?h63 ?hbytes ?hbase ?_)
  case hnews => exact hcn
  case hone => simp [Value.oneCell']
  case h63 => unfold maxLen; omega
  case hbytes => omega
  case hbase => first | omega | (simp; omega)
  intro u5 w5 hown5 hg5 _ hat5
  have F5 := HF1.out.more hg5 hown5 (by simpa using hat5)
  obtain ⟨a5, cap5, rfl⟩ := own_shape hown5
  have BG := But.of_grown hg5
  have x1 := (BG.cell (o := 1) HF1.out.lt HF1.out.nf).trans HF1.out.c1
  have y1 := (BG.frozen (o := 1) HF1.out.lt HF1.out.nf).trans (HF1.out.fz 1)
  have x0 := (BG.cell (o := 0) HF1.out.lt HF1.out.nf).trans HF1.out.c0
  have HF5 : Hid (RFrm m S w0 (w5.setCell ⟨fb, 1, none⟩ (.slice a5 (A.length + 1) cap5)) fb v l (.slice a5 (A.length + 1) cap5) (A ++ [35]) tag 0) := F5
  obtain ⟨va, vc, rfl, _, v2, v3⟩ := flds_of_own F5.ownv
  unfold maxLen at v2
  have h0 : 0 < l.length := by rw [hl]; simp
  obtain ⟨b, off, rfl, y0, y2⟩ := v3 0 h0
  have e0 : l[0] = (35, V) := by subst hl; rfl
  rw [e0] at y2
  have hl0 : (0 : Int) < (l.length : Int) := by omega
  simp only [Nat.zero_mul, Nat.add_zero] at y2
  clear hg5 hown5 hat5 BG F5 hown hcn HF1 v3 y0 e0 hl
  go_wp2_with fail
  go_ret
  exact ⟨rfl, _, HF5.out⟩
/-- The first field that is not among the asked ones. -/
def spareR (A : List Int) : List Fd → Int × Int
  | [] => (0, 0)
  | f :: r => if A.contains f.1 = true then spareR A r else (f.1, 113)
end Go.Proofs.YtdbkoflejimibaaGreatDoor
/-
  The contract of the reference's Done.
-/
namespace Go.Proofs.YtdbkoflejimibaaGreatDoor
open Go.ChangeShapes Go.WideShapes Go.ChangeAt Go.RowKit Go.Lib

set_option maxHeartbeats 2000000 in
theorem refDone_err {m : Nat} {S : Nat → Prop} {w0 w : World} {fb : Nat} {v : Value} {l : List Fd} {u : Value} {A : List Int} {tag e0 : Int} (h : RFrm m S w0 w fb v l u A tag e0) (he : e0 ≠ 0) :
    Calls Tryz.prog 21 #[.pointer (some ⟨fb, 0, none⟩)] w fun e w' => e = .returned (.tuple #[.int .i64 tag, .int .i64 e0]) ∧ Below w.heap.size w w' := by
  have c2 := h.c2
  have c3 := h.c3
  have t : (e0 == 0) = false := beq_false_of_ne he
  clear h he
  go_enter Tryz.func21, Tryz.ntmps21
  go_wp2_with fail
  go_quiet (fail)
  go_wp2_with fail
  go_ret2
  exact ⟨rfl, below_drewN _ _ _⟩
theorem take_has (A : List Int) (k : Nat) (hk : k < A.length) (T : Int) : (A.take (k + 1)).contains T = ((A.take k).contains T || (A[k] == T)) := by
  rw [List.take_succ_eq_append_getElem hk]
  simp only [List.contains_append, List.contains_cons, List.contains_nil, Bool.or_false]
  congr 1
  exact Bool.eq_iff_iff.2 ⟨fun h => by simpa using (by simpa using h : T = A[k]).symm, fun h => by simpa using (by simpa using h : A[k] = T).symm⟩
set_option maxRecDepth 1000000 in
set_option maxHeartbeats 8000000 in
theorem refDone_ok {m : Nat} {S : Nat → Prop} {w0 w : World} {fb : Nat} {v : Value} {l : List Fd} {u : Value} {A : List Int} {tag : Int} (h : RFrm m S w0 w fb v l u A tag 0) :
    Calls Tryz.prog 21 #[.pointer (some ⟨fb, 0, none⟩)] w fun e w' => e = .returned (.tuple #[.int .i64 (spareR A l).1, .int .i64 (spareR A l).2]) ∧ Below w.heap.size w w' := by
  obtain ⟨ta, tc, rfl, r1, r2, r3⟩ := its_row h.own
  obtain ⟨va, vc, rfl, v1, v2, v3⟩ := flds_of_own h.ownv
  unfold maxLen at r2 v2
  have HF : Hid (RFrm m S w0 w fb (.slice va l.length vc) l (.slice ta A.length tc) A tag 0) := h
  obtain ⟨P, Q, hD⟩ : ∃ P Q, spareR A l = (P, Q) := ⟨_, _, rfl⟩
  rw [hD]
  dsimp only
  have c0 := h.c0
  have c1 := h.c1
  have c3 := h.c3
  have HD : Hid (spareR A l = (P, Q)) := hD
  have HR : Hid (∀ i, i < A.length → ∃ b off, ta = some ⟨b, off, none⟩ ∧ w.cell? ⟨b, off + i, none⟩ = some (.int .i64 (A.getD i 0))) := r3
  have HV : Hid (∀ i, (h : i < l.length) → ∃ b off, va = some ⟨b, off, none⟩ ∧ w.cell? ⟨b, off + i * 2, none⟩ = some (.int .i64 (l[i]).1) ∧ w.cell? ⟨b, off + i * 2 + 1, none⟩ = some (.string (l[i]).2)) := v3
  clear h hD r3 v3
  go_enter Tryz.func21, Tryz.ntmps21
  go_wp2_with fail
  go_loopw [4] (fun i wr => ∃ (k g : Nat), i = .int .i64 (k : Int) ∧ k ≤ l.length ∧ wr = w.drewN g ∧ Hid (spareR A (l.drop k) = (P, Q))) (fun i _ => l.length - (RowKit.intOf i).toNat)
  case atStart => exact ⟨0, 0, rfl, Nat.zero_le _, rfl, by rw [List.drop_zero]; exact HD.out⟩
  case round =>
    clear HD
    obtain ⟨k, g, rfl, hk, rfl, HG⟩ := hrel
    by_cases hp : k < l.length
    · have t0 : (k : Int) < (l.length : Int) := by omega
      obtain ⟨b, off, rfl, x0, x1⟩ := HV.out k hp
      have HG2 : Hid (if A.contains (l[k]).1 = true then spareR A (l.drop (k + 1)) = (P, Q) else ((l[k]).1, (113 : Int)) = (P, Q)) := by
        have := HG.out
        rw [List.drop_eq_getElem_cons hp, spareR] at this
        show if _ then _ else _
        split
        · rename_i hc; rw [if_pos hc] at this; exact this
        · rename_i hc; rw [if_neg hc] at this; exact this
      clear HG
      generalize hT : (l[k]).1 = T at *
      clear hT
      go_wp2_with fail
      go_loopw [5, 6] (fun th i wr => ∃ (j g' : Nat), i = .int .i64 (j : Int) ∧ j ≤ A.length ∧ wr = w.drewN g' ∧ th = .bool ((A.take j).contains T)) (fun _ i _ => A.length - (RowKit.intOf i).toNat)
      case atStart => exact ⟨0, g, rfl, Nat.zero_le _, rfl, by simp⟩
      case round =>
        obtain ⟨j, g', rfl, hj, rfl, rfl⟩ := hrel
        by_cases hq : j < A.length
        · have t1 : (j : Int) < (A.length : Int) := by omega
          obtain ⟨b2, off2, rfl, z0'⟩ := HR.out j hq
          have z0 : w.cell? ⟨b2, off2 + j, none⟩ = some (.int .i64 A[j]) := by rw [z0']; simp [hq]
          have HM : Hid ((A.take (j + 1)).contains T = ((A.take j).contains T || (A[j] == T))) := take_has A j hq T
          clear z0'
          cases ht : (A.take j).contains T with
          | true =>
            have HM2 : Hid ((A.take (j + 1)).contains T = true) := by show _ = true; rw [HM.out, ht]; rfl
            clear HM ht
            go_wp2_with fail
            go_quiet (fail)
            go_wp2_with fail
            go_roundw
            case rel => exact ⟨j + 1, _, by simp, by omega, rfl, by rw [HM2.out]⟩
            case measure => simp [RowKit.intOf]; omega
          | false =>
            have HM2 : Hid ((A.take (j + 1)).contains T = (A[j] == T)) := by show _ = _; rw [HM.out, ht]; rfl
            clear HM ht
            generalize A[j] = X at *
            go_wp2_with fail
            go_quiet (fail)
            go_wp2_with fail
            go_roundw
            case rel => exact ⟨j + 1, _, by simp, by omega, rfl, by rw [HM2.out]⟩
            case measure => simp [RowKit.intOf]; omega
        · obtain rfl : j = A.length := by omega
          have t1 : ¬ (A.length : Int) < (A.length : Int) := by omega
          rw [List.take_length]
          cases hc : A.contains T with
          | true =>
            have HE : Hid (spareR A (l.drop (k + 1)) = (P, Q)) := by
              have := HG2.out
              rw [if_pos hc] at this
              exact this
            clear HG2 hc
            go_wp2_with fail
            go_roundw
            case rel => exact ⟨k + 1, g', by simp, by omega, by first | trivial | rfl, HE⟩
            case measure => simp [RowKit.intOf]; omega
          | false =>
            have HE : Hid ((T, (113 : Int)) = (P, Q)) := by
              have := HG2.out
              rw [if_neg (by rw [hc]; simp)] at this
              exact this
            clear HG2 hc
            go_wp2_with fail
            go_ret2
            have := HE.out
            simp only [Prod.mk.injEq] at this
            exact ⟨by rw [← this.1, ← this.2]; rfl, below_drewN _ _ _⟩
    · obtain rfl : k = l.length := by omega
      have t0 : ¬ (l.length : Int) < (l.length : Int) := by omega
      have HE : Hid (((0 : Int), (0 : Int)) = (P, Q)) := by
        have := HG.out
        rw [List.drop_length, spareR] at this
        exact this
      clear HG
      go_wp2_with fail
      go_ret2
      have := HE.out
      simp only [Prod.mk.injEq] at this
      exact ⟨by rw [← this.1, ← this.2]; rfl, below_drewN _ _ _⟩
end Go.Proofs.YtdbkoflejimibaaGreatDoor
/-
  The contract of the reference's Read.
-/
namespace Go.Proofs.YtdbkoflejimibaaGreatDoor
open Go.ChangeShapes Go.WideShapes Go.ChangeAt Go.RowKit Go.Lib

theorem nodup_more {l : List Fd} {k : Nat} (hk : k < l.length) (h : ((l.take k).map Prod.fst).Nodup) (h2 : ∀ j, (hj : j < l.length) → j < k → (l[j]).1 ≠ (l[k]).1) : ((l.take (k + 1)).map Prod.fst).Nodup := by
  rw [List.take_succ_eq_append_getElem hk, List.map_append, List.nodup_append]
  refine ⟨h, by simp, ?_⟩
  intro a ha b hb e
  obtain ⟨f, hf, rfl⟩ := List.mem_map.1 ha
  obtain ⟨j, hj, rfl⟩ := List.getElem_of_mem hf
  simp only [List.length_take] at hj
  simp at hb
  subst hb
  rw [List.getElem_take] at e
  exact h2 j (by omega) (by omega) e
theorem not_nodup {l : List Fd} {j k : Nat} (hk : k < l.length) (hj : j < k) (h : (l[j]).1 = (l[k]).1) : ¬ (l.map Prod.fst).Nodup := by
  intro hn
  have := List.pairwise_iff_getElem.1 hn j k (by simp; omega) (by simpa using hk) hj
  apply this
  simp [h]
theorem rform_new {w w1 : World} {v : Value} {l : List Fd} {FT : TypeId} (G : Grows w 85 w1 v l) : RFrm w.heap.size (fun j => w.heap.size ≤ j) w (w1.alloc (.cells #[v, .slice none 0 0, .int .i64 0, .int .i64 0] FT)) w1.heap.size v l (.slice none 0 0) [] 0 0 := by
  have b : Below w1.heap.size w1 (w1.alloc (.cells #[v, .slice none 0 0, .int .i64 0, .int .i64 0] FT)) := (Below.refl _ w1).alloc (Nat.le_refl _) _
  refine ⟨by simp, by simp, by simp, by simp, fun j => by simp, own_below G.own b, World.ownsRow_nil _ _ _ _, G.below.size, by simp [Value.ownBlock], fun e => ?_, fun g hg e => by simp [Value.ownBlock] at e, G.below.size, fun g hg => by simp [Value.ownBlock] at hg, But.of_below (G.below.trans (b.mono G.below.size))⟩
  have := (G.own.lt _ e).2
  omega
/-- What the reference's Read answers. -/
def RRead (l : List UInt8) (w : World) (e : Ending) (w' : World) : Prop := (readE l ≠ 0 ∧ e = .returned (.tuple #[.pointer none, .int .i64 (readE l : Int)]) ∧ Below w.heap.size w w') ∨ (readE l = 0 ∧ ∃ fb v, e = .returned (.tuple #[.pointer (some ⟨fb, 0, none⟩), .int .i64 0]) ∧ RSt w.heap.size (fun j => w.heap.size ≤ j) w w' fb v (fieldsL l).1 ([], 0, 0))
set_option maxRecDepth 1000000 in
set_option maxHeartbeats 8000000 in
theorem refRead_any (s : ByteArray) (w : World) (hs : s.size ≤ 1000000) :
    Calls Tryz.prog 17 #[.string s] w (RRead s.data.toList w) := by
  have FF := refFields_any s w hs
  obtain ⟨l, AT, E, hF⟩ : ∃ l AT E, fieldsL s.data.toList = (l, AT, E) := ⟨_, _, _, rfl⟩
  have hRE : readE s.data.toList = if E ≠ 0 then E else if (l.map Prod.fst).head? = some 35 then (if (l.map Prod.fst).Nodup then 0 else 111) else 110 := by
    unfold readE
    rw [hF]
  have hl64 := (fields_range s.data.toList).2
  rw [hF] at FF hl64
  dsimp only at FF hl64
  obtain ⟨R, hR⟩ : ∃ R, readE s.data.toList = R := ⟨_, rfl⟩
  have HRR : Hid (RRead s.data.toList w = fun e w' => (R ≠ 0 ∧ e = .returned (.tuple #[.pointer none, .int .i64 (R : Int)]) ∧ Below w.heap.size w w') ∨ (R = 0 ∧ ∃ fb v, e = .returned (.tuple #[.pointer (some ⟨fb, 0, none⟩), .int .i64 0]) ∧ RSt w.heap.size (fun j => w.heap.size ≤ j) w w' fb v l ([], 0, 0))) := by
    show RRead s.data.toList w = _
    funext e w'
    unfold RRead
    rw [hR, hF]
  rw [HRR.out]
  rw [hR] at hRE
  have HRE : Hid (R = if E ≠ 0 then E else if (l.map Prod.fst).head? = some 35 then (if (l.map Prod.fst).Nodup then 0 else 111) else 110) := hRE
  clear HRR hR hRE hF
  by_cases hE : E = 0
  case neg =>
    have te : ((E : Int) == 0) = false := beq_false_of_ne (by omega)
    have HE : Hid (R = E ∧ E ≠ 0) := ⟨by have := HRE.out; rw [if_pos hE] at this; exact this, hE⟩
    clear hE HRE
    go_enter Tryz.func17, Tryz.ntmps17
    go_wp2_with fail
    refine FF.mono ?_
    rintro e w1 ⟨v, rfl, G⟩
    obtain ⟨a, c, rfl⟩ := G.shape
    have HB : Hid (Below w.heap.size w w1) := G.below
    clear FF G
    go_wp2_with fail
    go_ret2
    exact .inl ⟨by rw [HE.out.1]; exact HE.out.2, by rw [HE.out.1]; rfl, HB.out⟩
  subst hE
  have HRE2 : Hid (R = if (l.map Prod.fst).head? = some 35 then (if (l.map Prod.fst).Nodup then 0 else 111) else 110) := by have := HRE.out; rw [if_neg (by simp)] at this; exact this
  clear HRE
  cases hl : l with
  | nil =>
    have HE : Hid (R = 110) := by show R = 110; have := HRE2.out; rw [hl] at this; simpa using this
    rw [hl] at FF
    clear HRE2 hl
    go_enter Tryz.func17, Tryz.ntmps17
    go_wp2_with fail
    refine FF.mono ?_
    rintro e w1 ⟨v, rfl, G⟩
    obtain ⟨a, c, rfl⟩ := G.shape
    have HB : Hid (Below w.heap.size w w1) := G.below
    clear FF G
    go_wp2_with fail
    go_ret2
    exact .inl ⟨by rw [HE.out]; omega, by rw [HE.out]; rfl, HB.out⟩
  | cons f r =>
    rw [← hl]
    have h0 : 0 < l.length := by rw [hl]; simp
    have e0 : l[0] = f := by simp [hl]
    by_cases h35 : f.1 = 35
    case neg =>
      have HE : Hid (R = 110) := by show R = 110; have := HRE2.out; rw [hl] at this; simpa [h35] using this
      have t35 : (f.1 == 35) = false := beq_false_of_ne h35
      have tl : ((l.length : Int) == 0) = false := beq_false_of_ne (by omega)
      have hl0 : (0 : Int) < (l.length : Int) := by omega
      clear HRE2 h35 hl
      go_enter Tryz.func17, Tryz.ntmps17
      go_wp2_with fail
      refine FF.mono ?_
      rintro e w1 ⟨v, rfl, G⟩
      obtain ⟨a, c, rfl, v1, v2, v3⟩ := flds_of_own G.own
      obtain ⟨b, off, rfl, x0, x1⟩ := v3 0 h0
      rw [e0] at x0
      simp only [Nat.zero_mul, Nat.add_zero] at x0
      have HB : Hid (Below w.heap.size w w1) := G.below
      clear FF G v3 x1 e0
      generalize f.1 = T at *
      go_wp2_with fail
      go_ret2
      exact .inl ⟨by rw [HE.out]; omega, by rw [HE.out]; rfl, HB.out⟩
    have HE : Hid (R = if (l.map Prod.fst).Nodup then 0 else 111) := by have := HRE2.out; rw [if_pos (by rw [hl]; simp [h35])] at this; exact this
    have t35 : (f.1 == 35) = true := beq_iff_eq.2 h35
    have tl : ((l.length : Int) == 0) = false := beq_false_of_ne (by omega)
    have hl0 : (0 : Int) < (l.length : Int) := by omega
    clear HRE2 h35 hl
    go_enter Tryz.func17, Tryz.ntmps17
    go_wp2_with fail
    refine FF.mono ?_
    rintro e w1 ⟨v, rfl, G⟩
    obtain ⟨a, c, rfl, v1, v2, v3⟩ := flds_of_own G.own
    unfold maxLen at v2
    obtain ⟨b, off, rfl, x0, x1⟩ := v3 0 h0
    rw [e0] at x0
    simp only [Nat.zero_mul, Nat.add_zero] at x0
    have HG : Hid (Grows w 85 w1 (.slice (some ⟨b, off, none⟩) l.length c) l) := G
    have HV : Hid (∀ i, (h : i < l.length) → w1.cell? ⟨b, off + i * 2, none⟩ = some (.int .i64 (l[i]).1)) := fun i h => by
      obtain ⟨b', off', e', y0, _⟩ := v3 i h
      simp only [Option.some.injEq, Addr.mk.injEq, and_true] at e'
      obtain ⟨rfl, rfl⟩ := e'
      exact y0
    clear FF G v3 x1 e0
    generalize f.1 = T0 at *
    go_wp2_with fail
    clear x0
    go_loopw [7] (fun i wr => ∃ (k g : Nat), i = .int .i64 (k : Int) ∧ k ≤ l.length ∧ wr = w1.drewN g ∧ Hid (((l.take k).map Prod.fst).Nodup)) (fun i _ => l.length - (RowKit.intOf i).toNat)
    case atStart => exact ⟨0, 0, rfl, Nat.zero_le _, rfl, by show List.Nodup _; simp⟩
    case round =>
      obtain ⟨k, g, rfl, hk, rfl, HN⟩ := hrel
      by_cases hp : k < l.length
      · have t0 : (k : Int) < (l.length : Int) := by omega
        have xk := HV.out k hp
        go_wp2_with fail
        go_loopw [8] (fun i wr => ∃ (j g' : Nat), i = .int .i64 (j : Int) ∧ j ≤ k ∧ wr = w1.drewN g' ∧ Hid (∀ j', (h : j' < l.length) → j' < j → (l[j']).1 ≠ (l[k]).1)) (fun i _ => k - (RowKit.intOf i).toNat)
        case atStart => exact ⟨0, g, rfl, Nat.zero_le _, rfl, fun j' _ h => absurd h (by omega)⟩
        case round =>
          obtain ⟨j, g', rfl, hj, rfl, HJ⟩ := hrel
          by_cases hq : j < k
          · have t1 : (j : Int) < (k : Int) := by omega
            have t2 : (j : Int) < (l.length : Int) := by omega
            have hjl : j < l.length := by omega
            have xj := HV.out j hjl
            by_cases hx : (l[j]).1 = (l[k]).1
            · have HR1 : Hid (R = 111) := by have := HE.out; rw [if_neg (not_nodup hp hq hx)] at this; exact this
              have tx : ((l[j]).1 == (l[k]).1) = true := beq_iff_eq.2 hx
              clear HJ hx
              generalize (l[j]).1 = X at *
              generalize (l[k]).1 = Y at *
              go_wp2_with fail
              go_quiet (fail)
              go_wp2_with fail
              go_ret2
              exact .inl ⟨by rw [HR1.out]; omega, by rw [HR1.out]; rfl, below_more (below_more HG.out.below _) _⟩
            · have tx : ((l[j]).1 == (l[k]).1) = false := beq_false_of_ne hx
              have HJ2 : Hid (∀ j', (h : j' < l.length) → j' < j + 1 → (l[j']).1 ≠ (l[k]).1) := fun j' h h2 => by
                by_cases e : j' = j
                · subst e; exact hx
                · exact HJ.out j' h (by omega)
              clear HJ hx
              generalize (l[j]).1 = X at *
              generalize hY : (l[k]).1 = Y at *
              go_wp2_with fail
              go_quiet (fail)
              go_wp2_with fail
              go_roundw
              case rel => exact ⟨j + 1, _, by simp, by omega, rfl, HJ2⟩
              case measure => simp [RowKit.intOf]; omega
          · obtain rfl : j = k := by omega
            have t1 : ¬ (j : Int) < (j : Int) := by omega
            have HN2 : Hid (((l.take (j + 1)).map Prod.fst).Nodup) := nodup_more hp HN.out (fun j' h h2 => HJ.out j' h h2)
            clear HJ HN xk
            go_wp2_with fail
            go_roundw
            case rel => exact ⟨j + 1, g', by simp, by omega, by first | trivial | rfl, HN2⟩
            case measure => simp [RowKit.intOf]; omega
      · obtain rfl : k = l.length := by omega
        have t0 : ¬ (l.length : Int) < (l.length : Int) := by omega
        have HR0 : Hid (R = 0) := by
          have h1 := HN.out
          rw [List.take_length] at h1
          have := HE.out
          rw [if_pos h1] at this
          exact this
        clear HN
        go_wp2_with fail
        go_ret2
        exact .inr ⟨HR0.out, w1.heap.size, rfl, _, _, rform_new (HG.out.still (below_drewN _ g w1))⟩
end Go.Proofs.YtdbkoflejimibaaGreatDoor
/-
  The contracts of the reference's Int and Ints.
-/
namespace Go.Proofs.YtdbkoflejimibaaGreatDoor
open Go.ChangeShapes Go.WideShapes Go.ChangeAt Go.RowKit Go.Lib

theorem refS_none {l : List Fd} {A : List Int} {tag t : Int} {err : ByteArray → Int} (h : textO l t = none) : refS l (A, tag, 0) t err = (A ++ [t], t, 110) := by unfold refS; dsimp only; rw [if_pos rfl, h]
theorem refS_good {l : List Fd} {A : List Int} {tag t : Int} {err : ByteArray → Int} {s : ByteArray} (h : textO l t = some s) (hs : err s = 0) : refS l (A, tag, 0) t err = (A ++ [t], tag, 0) := by unfold refS; dsimp only; rw [if_pos rfl, h]; dsimp only; rw [if_pos hs]
theorem refS_bad {l : List Fd} {A : List Int} {tag t : Int} {err : ByteArray → Int} {s : ByteArray} {E : Int} (h : textO l t = some s) (hs : err s = E) (hE : E ≠ 0) : refS l (A, tag, 0) t err = (A ++ [t], t, E) := by unfold refS; dsimp only; rw [if_pos rfl, h]; dsimp only; rw [if_neg (by rw [hs]; exact hE), hs]
theorem refV_none {α : Type} {l : List Fd} {t : Int} {err : ByteArray → Int} {val : ByteArray → α} {zero : α} (h : textO l t = none) : refV l 0 t err val zero = zero := by unfold refV; rw [if_pos rfl, h]
theorem refV_good {α : Type} {l : List Fd} {t : Int} {err : ByteArray → Int} {val : ByteArray → α} {zero : α} {s : ByteArray} (h : textO l t = some s) (hs : err s = 0) : refV l 0 t err val zero = val s := by unfold refV; rw [if_pos rfl, h]; dsimp only; rw [if_pos hs]
theorem refV_bad {α : Type} {l : List Fd} {t : Int} {err : ByteArray → Int} {val : ByteArray → α} {zero : α} {s : ByteArray} {E : Int} (h : textO l t = some s) (hs : err s = E) (hE : E ≠ 0) : refV l 0 t err val zero = zero := by unfold refV; rw [if_pos rfl, h]; dsimp only; rw [if_neg (by rw [hs]; exact hE)]
set_option maxHeartbeats 4000000 in
theorem refInt_any {m : Nat} {S : Nat → Prop} {w0 w : World} {fb : Nat} {v : Value} {l : List Fd} {y : List Int × Int × Int} (h : RSt m S w0 w fb v l y) (hA : y.1.length ≤ 1000) (t low high : Int) (hs : ∀ s, textO l t = some s → s.size ≤ 100000) :
    Calls Tryz.prog 19 #[.pointer (some ⟨fb, 0, none⟩), .int .i64 t, .int .i64 low, .int .i64 high] w fun e w' => ∃ x, e = .returned (.int .i64 x) ∧ x = refV l y.2.2 t (fun s => (intVE s low high).2) (fun s => ((intVE s low high).1 : Int)) 0 ∧ RSt m S w0 w' fb v l (refS l y t (fun s => (intVE s low high).2)) := by
  obtain ⟨A, tag, e0⟩ := y
  obtain ⟨u, h⟩ := h
  dsimp only at h hA ⊢
  by_cases he : e0 = 0
  case neg =>
    rw [refS_err (y := (A, tag, e0)) he, refV_err he]
    have V := value_err h he t
    have H : Hid (RFrm m S w0 w fb v l u A tag e0) := h
    clear h
    go_enter Tryz.func19, Tryz.ntmps19
    go_wp2_with fail
    refine V.mono ?_
    rintro e w1 ⟨rfl, rfl⟩
    go_wp2_with fail
    go_ret
    exact ⟨_, rfl, rfl, u, H.out⟩
  subst he
  have V := value_ok h hA t
  clear h
  unfold valueV valueT at V
  cases hT : textO l t with
  | none =>
    rw [hT] at V
    dsimp only at V ⊢
    rw [refS_none hT, refV_none hT]
    go_enter Tryz.func19, Tryz.ntmps19
    go_wp2_with fail
    refine V.mono ?_
    rintro e w1 ⟨rfl, u1, F1⟩
    have H : Hid (RFrm m S w0 w1 fb v l u1 (A ++ [t]) t 110) := F1
    clear V F1
    go_wp2_with fail
    go_ret
    exact ⟨_, rfl, rfl, u1, H.out⟩
  | some s =>
    rw [hT] at V
    dsimp only at V ⊢
    have NA := fun w => refNumber_any s w (by have := hs s hT; unfold maxLen; omega)
    clear hs
    by_cases h0 : (numE s.data.toList).2 = 0
    case neg =>
      have eN : numZ s.data.toList = -1 := if_neg h0
      have eI : intVE s low high = (0, 112) := by unfold intVE; rw [if_neg h0]
      rw [refS_bad (E := 112) hT (by show (intVE s low high).2 = 112; rw [eI]) (by omega), refV_bad (E := 112) hT (by show (intVE s low high).2 = 112; rw [eI]) (by omega)]
      rw [eN] at NA
      clear h0 eN eI hT
      go_enter Tryz.func19, Tryz.ntmps19
      go_wp2_with fail
      refine V.mono ?_
      rintro e w1 ⟨rfl, u1, F1⟩
      have H : Hid (RFrm m S w0 w1 fb v l u1 (A ++ [t]) tag 0) := F1
      clear V F1
      go_wp2_with fail
      refine (NA _).mono ?_
      rintro e w2 ⟨rfl, b2⟩
      have FL := fail_any (H.out.still b2) t 112
      clear b2 H NA
      go_wp2_with fail
      refine FL.mono ?_
      rintro e w3 ⟨rfl, F3⟩
      have H3 : Hid (RFrm m S w0 w3 fb v l u1 (A ++ [t]) t 112) := F3
      clear FL F3
      go_wp2_with fail
      go_ret
      exact ⟨_, rfl, rfl, u1, H3.out⟩
    have eN : numZ s.data.toList = ((numE s.data.toList).1 : Int) := if_pos h0
    rw [eN] at NA
    obtain ⟨N, hN⟩ : ∃ N, (numE s.data.toList).1 = N := ⟨_, rfl⟩
    rw [hN] at NA
    by_cases hr : low ≤ (N : Int) ∧ (N : Int) ≤ high
    · have eI : intVE s low high = (N, 0) := by unfold intVE; rw [if_pos h0, hN, if_pos hr]
      rw [refS_good hT (by show (intVE s low high).2 = 0; rw [eI]), refV_good hT (by show (intVE s low high).2 = 0; rw [eI]), eI]
      dsimp only
      clear hT
      have g0 : ¬ (N : Int) < 0 := by omega
      have g1 : ¬ (N : Int) < low := by omega
      have g2 : ¬ high < (N : Int) := by omega
      clear h0 eN eI hN hr
      go_enter Tryz.func19, Tryz.ntmps19
      go_wp2_with fail
      refine V.mono ?_
      rintro e w1 ⟨rfl, u1, F1⟩
      have H : Hid (RFrm m S w0 w1 fb v l u1 (A ++ [t]) tag 0) := F1
      clear V F1
      go_wp2_with fail
      refine (NA _).mono ?_
      rintro e w2 ⟨rfl, b2⟩
      have H2 : Hid (RFrm m S w0 w2 fb v l u1 (A ++ [t]) tag 0) := H.out.still b2
      clear b2 H NA
      go_wp2_with fail
      go_ret
      exact ⟨_, rfl, rfl, u1, H2.out⟩
    · have eI : intVE s low high = (0, 2) := by unfold intVE; rw [if_pos h0, hN, if_neg hr]
      rw [refS_bad (E := 2) hT (by show (intVE s low high).2 = 2; rw [eI]) (by omega), refV_bad (E := 2) hT (by show (intVE s low high).2 = 2; rw [eI]) (by omega)]
      clear hT
      have g0 : ¬ (N : Int) < 0 := by omega
      clear h0 eN eI hN
      by_cases g1 : (N : Int) < low
      · clear hr
        go_enter Tryz.func19, Tryz.ntmps19
        go_wp2_with fail
        refine V.mono ?_
        rintro e w1 ⟨rfl, u1, F1⟩
        have H : Hid (RFrm m S w0 w1 fb v l u1 (A ++ [t]) tag 0) := F1
        clear V F1
        go_wp2_with fail
        refine (NA _).mono ?_
        rintro e w2 ⟨rfl, b2⟩
        have FL := fail_any (H.out.still b2) t 2
        clear b2 H NA
        go_wp2_with fail
        refine FL.mono ?_
        rintro e w3 ⟨rfl, F3⟩
        have H3 : Hid (RFrm m S w0 w3 fb v l u1 (A ++ [t]) t 2) := F3
        clear FL F3
        go_wp2_with fail
        go_ret
        exact ⟨_, rfl, rfl, u1, H3.out⟩
      · have g2 : high < (N : Int) := by omega
        clear hr
        go_enter Tryz.func19, Tryz.ntmps19
        go_wp2_with fail
        refine V.mono ?_
        rintro e w1 ⟨rfl, u1, F1⟩
        have H : Hid (RFrm m S w0 w1 fb v l u1 (A ++ [t]) tag 0) := F1
        clear V F1
        go_wp2_with fail
        refine (NA _).mono ?_
        rintro e w2 ⟨rfl, b2⟩
        have FL := fail_any (H.out.still b2) t 2
        clear b2 H NA
        go_wp2_with fail
        refine FL.mono ?_
        rintro e w3 ⟨rfl, F3⟩
        have H3 : Hid (RFrm m S w0 w3 fb v l u1 (A ++ [t]) t 2) := F3
        clear FL F3
        go_wp2_with fail
        go_ret
        exact ⟨_, rfl, rfl, u1, H3.out⟩
end Go.Proofs.YtdbkoflejimibaaGreatDoor
/-
  The reference's form asked for one field after another tells what the program's does (plain); what was told of an ask, as one.
-/
namespace Go.Proofs.YtdbkoflejimibaaGreatDoor
open Go.Lib

/-- The reference's form behind many asks. -/
def runR (l : List Fd) (y : List Int × Int × Int) (ws : List (Int × Want)) : List Int × Int × Int := ws.foldl (fun y p => refS l y p.1 p.2.err) y
/-- Both forms say the same. -/
structure Sim (l : List Fd) (x : StP) (y : List Int × Int × Int) (ts : List Int) : Prop where
  err : y.2 = x.2
  ok : x.2.2 = 0 → x.1 = markAll (lookF l) ts ∧ y.1 = 35 :: ts
theorem look_some {l : List Fd} {t : Int} {s : ByteArray} (h : textO l t = some s) : ∃ b, lookF l t = some (s, b) := by
  have := look_text l t
  rw [h] at this
  cases hL : lookF l t with
  | none => rw [hL] at this; simp at this
  | some p =>
    rw [hL] at this
    simp at this
    exact ⟨p.2, by rw [← this]⟩
theorem look_none {l : List Fd} {t : Int} (h : textO l t = none) : lookF l t = none := by
  have := look_text l t
  rw [h] at this
  simpa using this
theorem Sim.step {l : List Fd} {x : StP} {y : List Int × Int × Int} {ts : List Int} (h : Sim l x y ts) (p : Int × Want) : Sim l (stepW x p) (refS l y p.1 p.2.err) (ts ++ [p.1]) := by
  obtain ⟨A, tag, e⟩ := y
  obtain ⟨Lx, at_, ex⟩ := x
  have he := h.err
  dsimp only at he
  simp only [Prod.mk.injEq] at he
  obtain ⟨rfl, rfl⟩ := he
  by_cases h0 : e = 0
  · subst h0
    obtain ⟨hx, hy⟩ := h.ok rfl
    dsimp only at hx hy
    subst hx hy
    unfold stepW
    dsimp only
    cases hT : textO l p.1 with
    | none =>
      rw [refS_none hT, askS_miss _ (markAll_none (look_none hT))]
      exact ⟨rfl, fun e => by simp at e⟩
    | some s =>
      obtain ⟨b, hL⟩ := look_some hT
      by_cases hs : p.2.err s = 0
      · rw [refS_good hT hs, askS_good (markAll_at hL) hs, markAll_more hL]
        exact ⟨rfl, fun _ => ⟨rfl, by simp⟩⟩
      · rw [refS_bad hT rfl hs, askS_bad (markAll_at hL) hs]
        exact ⟨rfl, fun e => absurd e hs⟩
  · rw [refS_err (y := (A, tag, e)) h0, step_err (st := (Lx, tag, e)) h0]
    exact ⟨rfl, fun e0 => absurd e0 h0⟩
theorem sim_run {l : List Fd} : ∀ (ws : List (Int × Want)) (x : StP) (y : List Int × Int × Int) (ts : List Int), Sim l x y ts → Sim l (runS x ws) (runR l y ws) (ts ++ ws.map Prod.fst)
  | [], x, y, ts, h => by simpa [runS, runR] using h
  | p :: ws, x, y, ts, h => by
    have := sim_run ws _ _ _ (h.step p)
    rw [List.append_assoc] at this
    exact this
theorem sim_new (l : List Fd) : Sim l (x0F l) ([35], 0, 0) [] := ⟨rfl, fun _ => ⟨(markAll_nil _).symm, rfl⟩⟩
/-- What the reference tells is what the program's form tells. -/
theorem sim_told {α : Type} {l : List Fd} {x : StP} {y : List Int × Int × Int} {ts : List Int} (h : Sim l x y ts) (t : Int) (err : ByteArray → Int) (val : ByteArray → α) (zero : α) : refV l y.2.2 t err val zero = askV x.1 x.2.2 t err val zero := by
  rw [show y.2.2 = x.2.2 by rw [h.err]]
  by_cases h0 : x.2.2 = 0
  · obtain ⟨hx, _⟩ := h.ok h0
    rw [h0, hx]
    cases hT : textO l t with
    | none => rw [refV_none hT, askV_miss _ _ _ (markAll_none (look_none hT))]
    | some s =>
      obtain ⟨b, hL⟩ := look_some hT
      by_cases hs : err s = 0
      · rw [refV_good hT hs, askV_good (markAll_at hL) hs]
      · rw [refV_bad hT rfl hs, askV_bad (markAll_at hL) hs]
  · rw [refV_err h0, askV_err _ _ _ h0]
theorem ref_told {α : Type} (l : List Fd) (ws : List (Int × Want)) (t : Int) (err : ByteArray → Int) (val : ByteArray → α) (zero : α) : refV l (runR l ([35], 0, 0) ws).2.2 t err val zero = askV (runS (x0F l) ws).1 (runS (x0F l) ws).2.2 t err val zero := sim_told (sim_run ws _ _ _ (sim_new l)) t err val zero
/-- What the reference's Done tells. -/
def doneR (y : List Int × Int × Int) (l : List Fd) : Int × Int := if y.2.2 = 0 then spareR y.1 l else y.2
theorem spare_same {l : List Fd} (hn : (l.map Prod.fst).Nodup) (ts : List Int) : ∀ r, (∀ f ∈ r, f ∈ l) → spareR (35 :: ts) r = spareE (markAll (lookF l) ts) (r.map Prod.fst)
  | [], _ => rfl
  | f :: r, h => by
    rw [spareR, List.map_cons, spareE, asked_all hn (List.mem_map.2 ⟨f, h f (by simp), rfl⟩), spare_same hn ts r (fun g hg => h g (by simp [hg]))]
    have : (35 :: ts).contains f.1 = ((f.1 == 35) || ts.contains f.1) := by rw [List.contains_cons]
    rw [this]
theorem done_same {l : List Fd} (hn : (l.map Prod.fst).Nodup) (ws : List (Int × Want)) : doneR (runR l ([35], 0, 0) ws) l = doneE (runS (x0F l) ws) (l.map Prod.fst) := by
  have h := sim_run ws _ _ _ (sim_new l)
  unfold doneR doneE
  rw [show (runR l ([35], 0, 0) ws).2.2 = (runS (x0F l) ws).2.2 by rw [h.err]]
  by_cases h0 : (runS (x0F l) ws).2.2 = 0
  · obtain ⟨hx, hy⟩ := h.ok h0
    rw [if_pos h0, if_pos h0, hx, hy]
    exact spare_same hn _ l (fun f hf => hf)
  · rw [if_neg h0, if_neg h0, h.err]
theorem runR_len (l : List Fd) : ∀ (ws : List (Int × Want)) (y : List Int × Int × Int), (runR l y ws).1.length ≤ y.1.length + ws.length
  | [], y => Nat.le_refl _
  | p :: ws, y => by
    have h1 := runR_len l ws (refS l y p.1 p.2.err)
    have h2 : (refS l y p.1 p.2.err).1.length ≤ y.1.length + 1 := by
      unfold refS
      split
      · split
        · simp
        · split <;> simp
      · omega
    show (runR l (refS l y p.1 p.2.err) ws).1.length ≤ _
    simp only [List.length_cons]
    omega
end Go.Proofs.YtdbkoflejimibaaGreatDoor
