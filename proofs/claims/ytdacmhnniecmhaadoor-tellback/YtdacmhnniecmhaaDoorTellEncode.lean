/-
  The contract of tell's Encode, for every tell.
-/
import Derived.Test.YtdacmhnniecmhaaDoorTellRight
import Derived.Test.YtdacmhnniecmhaaDoorTellPut
import Derived.Test.YtdacmhnniecmhaaDoorTellKind
import Derived.Test.YtdacmhnniecmhaaDoorTagForms
namespace Go.Proofs.YtdacmhnniecmhaaDoor
open Go.ChangeShapes Go.WideShapes Go.ChangeAt Go.RowKit Go.Lib

/-- A field of a tell, with its text. -/
def Pl.fld (p : Pl) (t : TellP) : Fd := (p.tag, p.text t)
/-- Where Encode stands behind some fields; sb: the list of places. -/
def EJ (W : World) (sb b lb : Nat) (F0 : List Fd) (t : TellP) (L : List Pl) (i : Nat) (w : World) : Prop := ∃ v, LstB w lb W.heap.size v (F0 ++ (L.take i).map fun p => p.fld t) ∧ TellAt w b t ∧ ¬ v.ownBlock = some b ∧ ¬ v.ownBlock = some sb ∧ Below W.heap.size W w
theorem EJ.next {W wa wb : World} {sb b lb : Nat} {F0 : List Fd} {t : TellP} {L : List Pl} {i : Nat} (hi : i < L.length) {v : Value} (h : LstB wa lb W.heap.size v (F0 ++ (L.take i).map fun p => p.fld t)) (hb : TellAt wa b t) (nb : ¬ v.ownBlock = some b) (ns : ¬ v.ownBlock = some sb) (B : Below W.heap.size W wa) (ls : sb < wa.heap.size) (nlb : b ≠ lb) (llb : W.heap.size ≤ lb) (P : PutOk lb W.heap.size v ((F0 ++ (L.take i).map fun p => p.fld t) ++ [(L[i].tag, L[i].text t)]) wa wb) : EJ W sb b lb F0 t L (i + 1) wb := by
  obtain ⟨v', L', B', hv⟩ := P
  have nS : ¬ LstS lb v b := fun e => e.elim nlb nb
  have away : ∀ j, j < wa.heap.size → ¬ v.ownBlock = some j → ¬ v'.ownBlock = some j := fun j hj hn e => by
    rcases hv with k | ⟨g, k, hg⟩
    · rw [k] at e
      exact hn e
    · rw [k] at e
      simp only [Option.some.injEq] at e
      omega
  refine ⟨v', ?_, hb.but B' nS, away b hb.lt nb, away sb ls ns, B.trans (B'.below B.size (fun j e => ?_))⟩
  · rw [List.take_succ_eq_append_getElem hi, List.map_append, ← List.append_assoc]
    exact L'
  · rcases e with rfl | e
    · exact llb
    · exact (h.own.lt j e).1
set_option maxHeartbeats 4000000 in
theorem encode_each {W w : World} {b lb : Nat} {v : Value} {F0 : List Fd} {t : TellP} (R : RightP t) (P : Pow W) (h : LstB w lb W.heap.size v F0) (hF : F0.length ≤ 100) (hb : TellAt w b t) (nb : ¬ v.ownBlock = some b) (B : Below W.heap.size W w) (nlb : b ≠ lb) (llb : W.heap.size ≤ lb) :
    Calls Tryd.prog 15 #[.pointer (some ⟨b, 0, none⟩), .func (.func 16) #[] #[.pointer (some ⟨lb, 0, none⟩)], .func (.func 17) #[] #[.pointer (some ⟨lb, 0, none⟩)]] w fun e w' => e = .returned (.tuple #[]) ∧ (∃ v', LstB w' lb W.heap.size v' (F0 ++ (listK (t.2 0)).map fun p => (p.tag, p.text t))) ∧ Below W.heap.size W w' := by
  have nl : w.heap.size ≠ lb := by have := h.lt; omega
  have ns : ¬ v.ownBlock = some w.heap.size := fun e => by have := (h.own.lt _ e).2; omega
  have l8 := list_len (t.2 0)
  refine (eachEncode R.kind.1 R.kind.2 hb.kind (EJ W w.heap.size b lb F0 t (listK (t.2 0))) (fun w' k => ⟨v, by rw [List.take_zero, List.map_nil, List.append_nil]; exact h.still k, hb.still k, nb, ns, B.trans (k.mono B.size)⟩) ?_ ?_ ?_).mono ?_
  · rintro i wa wb ⟨v1, L1, T1, n1, s1, B1⟩ k
    exact ⟨v1, L1.still k, T1.still k, n1, s1, B1.trans (k.mono B1.size)⟩
  · rintro i hi hn wa ⟨v1, L1, T1, n1, s1, B1⟩ lw
    obtain ⟨_, _, _, _, e5, e6, e7⟩ := list_ends _ _ (List.getElem_mem hi)
    have tx : ((listK (t.2 0))[i]).text t = t.1 ((listK (t.2 0))[i]).off := by unfold Pl.text; rw [if_pos hn]
    refine (put1_at L1 (by simp; omega) _ _ (T1.text e5 e7 hn)).mono ?_
    rintro e wb ⟨rfl, P2⟩
    refine ⟨rfl, EJ.next hi L1 T1 n1 s1 B1 lw nlb llb (by rw [tx]; exact P2), fun o => ?_⟩
    obtain ⟨_, _, B2, _⟩ := P2
    exact B2.cell lw (fun e => e.elim nl s1)
  · rintro i hi hn wa ⟨v1, L1, T1, n1, s1, B1⟩ lw
    obtain ⟨_, _, e3, e4, e5, e6, e7⟩ := list_ends _ _ (List.getElem_mem hi)
    have hn' : ¬ ((listK (t.2 0))[i]).isName = true := by rw [hn]; decide
    have tx : ((listK (t.2 0))[i]).text t = numT (t.2 ((listK (t.2 0))[i]).off) := by unfold Pl.text; rw [if_neg hn']
    have ok := R.all _ (List.getElem_mem hi)
    unfold Pl.okB at ok
    rw [if_neg hn'] at ok
    have ok := of_decide_eq_true ok
    have TX := itoa13 (t.2 ((listK (t.2 0))[i]).off).toNat (by omega) (P.still (below_more B1 1))
    rw [show (((t.2 ((listK (t.2 0))[i]).off).toNat : Nat) : Int) = t.2 ((listK (t.2 0))[i]).off by omega] at TX
    refine (put2_at L1 (by simp; omega) _ _ _ _ (numT (t.2 ((listK (t.2 0))[i]).off)) (T1.num e5 e7 hn) (TX.mono fun e w' ⟨he, hb⟩ => ⟨he, below_of_drew hb⟩)).mono ?_
    rintro e wb ⟨rfl, P2⟩
    refine ⟨rfl, EJ.next hi L1 T1 n1 s1 B1 lw nlb llb (by rw [tx]; exact P2), fun o => ?_⟩
    obtain ⟨_, _, B2, _⟩ := P2
    exact B2.cell lw (fun e => e.elim nl s1)
  · rintro e w' ⟨rfl, v1, L1, T1, n1, s1, B1⟩
    rw [List.take_length] at L1
    exact ⟨rfl, ⟨v1, L1⟩, B1⟩
theorem lst_one (w : World) (t : Int) (s : ByteArray) : LstB ((w.alloc (.cells #[.int .i64 t, .string s] 42)).alloc (.cells #[.slice (some ⟨w.heap.size, 0, none⟩) 1 1] 43)) (w.heap.size + 1) w.heap.size (.slice (some ⟨w.heap.size, 0, none⟩) 1 1) [(t, s)] := by
  have hz : (w.alloc (.cells #[.int .i64 t, .string s] 42)).heap.size = w.heap.size + 1 := by simp
  have own : (w.alloc (.cells #[.int .i64 t, .string s] 42)).ownsRow w.heap.size 42 2 (.slice (some ⟨w.heap.size, 0, none⟩) 1 1) 1 (fd2 (t, s)) := World.ownsRow_lit (e := 42) (size := 2) (base := w.heap.size) w #[.int .i64 t, .string s] 1 (Nat.le_refl _) (by unfold maxLen; omega) rfl
  refine ⟨?_, ?_, ?_, ?_, ?_⟩
  · rw [← hz]; simp
  · rw [← hz]; simp
  · exact own.alloc _
  · simp [Value.ownBlock]
  · simp; omega
/-- The letter of a kind in the table. -/
theorem Let.at {w : World} (h : Let w) {K : Nat} (h1 : 1 ≤ K) (h4 : K ≤ 4) : w.cell? ⟨0, K, none⟩ = some (.string (wordT (K : Int))) := by
  obtain ⟨_, l1, l2, l3, l4⟩ := h
  rcases (show K = 1 ∨ K = 2 ∨ K = 3 ∨ K = 4 by omega) with rfl | rfl | rfl | rfl
  · exact l1
  · exact l2
  · exact l3
  · exact l4
set_option maxHeartbeats 4000000 in
theorem encode_yes (t : TellP) (w : World) (R : RightP t) (hl : Let w) (hp : Pow w) :
    Calls Tryd.prog 8 #[.agg #[.int .i64 (t.2 0), .string (t.1 1), .string (t.1 2), .int .i64 (t.2 3), .int .i64 (t.2 4), .int .i64 (t.2 5), .int .i64 (t.2 6), .int .i64 (t.2 7), .int .i64 (t.2 8), .int .i64 (t.2 9)]] w fun e w' => e = .returned (.tuple #[.string (mk (cat (fieldsT t))), .int .i64 0]) ∧ Below w.heap.size w w' := by
  obtain ⟨ok, l64⟩ := right_allOk R
  have fe : formsE (fieldsT t) = (cat (fieldsT t), 0) := by
    unfold formsE
    rw [if_neg (by omega), formsA_all _ _ ok]
    rfl
  have RT0 := right_any t (boxT w t)
  rw [(right_iff t).2 R] at RT0
  have HB0 : Hid (Below w.heap.size w (boxT w t)) := boxT_below w t
  have HA0 : Hid (TellAt (boxT w t) w.heap.size t) := TellAt.box w t
  obtain ⟨K, hK⟩ : ∃ K : Nat, t.2 0 = (K : Int) := ⟨(t.2 0).toNat, by have := R.kind; omega⟩
  have k1 : 1 ≤ K := by have := R.kind; omega
  have k4 : K ≤ 4 := by have := R.kind; omega
  have HF : Hid (fieldsT t = [(35, wordT (K : Int))] ++ (listK (t.2 0)).map fun p => (p.tag, p.text t)) := by
    show fieldsT t = _
    unfold fieldsT
    rw [hK]
    rfl
  have HR : Hid (RightP t) := R
  have HL : Hid (Let w) := hl
  have HP : Hid (Pow w) := hp
  have HFE : Hid (formsE (fieldsT t) = (cat (fieldsT t), 0)) := fe
  have H64 : Hid ((fieldsT t).length ≤ 64) := l64
  unfold boxT at RT0 HB0 HA0
  rw [hK] at RT0 HB0 HA0 ⊢
  have kb : (K : Int) < 5 := by omega
  have HK : Hid (1 ≤ K ∧ K ≤ 4) := ⟨k1, k4⟩
  clear R hl hp ok l64 fe hK k1 k4
  go_enter Tryd.func8, Tryd.ntmps8
  go_wp2_with fail
  refine RT0.mono ?_
  rintro e w1 ⟨rfl, b1⟩
  have HB1 : Hid (Below w.heap.size w w1) := HB0.out.trans (b1.mono HB0.out.size)
  have HA1 : Hid (TellAt w1 w.heap.size t) := HA0.out.still b1
  have cl := (HL.out.still HB1.out).at HK.out.1 HK.out.2
  have cK := (b1.cell (p := ⟨w.heap.size, 0, none⟩) (by simp)).trans (show _ = some (Value.int .i64 (K : Int)) by simp)
  have BB : Below w1.heap.size w1 ((w1.alloc (.cells #[.int .i64 35, .string (wordT (K : Int))] 42)).alloc (.cells #[.slice (some ⟨w1.heap.size, 0, none⟩) 1 1] 43)) := ((Below.refl _ w1).alloc (Nat.le_refl _) _).alloc (by simp) _
  have E := encode_each (W := w1) HR.out (HP.out.still HB1.out) (lst_one w1 35 (wordT (K : Int))) (by simp) (HA1.out.still BB) (by have := HA1.out.lt; simp [Value.ownBlock]; omega) BB (by have := HA1.out.lt; omega) (by omega)
  rw [← HF.out] at E
  clear RT0 b1 HA1 BB
  generalize wordT (K : Int) = wd at *
  go_wp2_with fail
  refine E.mono ?_
  rintro e w2 ⟨rfl, ⟨v2, L2⟩, b2⟩
  have c2 := L2.cell
  have HB2 : Hid (Below w.heap.size w w2) := HB1.out.trans (b2.mono HB1.out.size)
  have FO := forms_all v2 (fieldsT t) w2 (flds_of_own L2.own) (by have := H64.out; omega) (HP.out.still HB2.out)
  rw [HFE.out] at FO
  clear E L2 b2
  go_wp2_with fail
  refine FO.mono ?_
  rintro e w3 ⟨rfl, b3⟩
  go_wp2_with fail
  go_ret2
  exact ⟨rfl, HB2.out.trans (b3.mono HB2.out.size)⟩
set_option maxHeartbeats 4000000 in
theorem encode_no (t : TellP) (w : World) (R : rightB t = false) :
    Calls Tryd.prog 8 #[.agg #[.int .i64 (t.2 0), .string (t.1 1), .string (t.1 2), .int .i64 (t.2 3), .int .i64 (t.2 4), .int .i64 (t.2 5), .int .i64 (t.2 6), .int .i64 (t.2 7), .int .i64 (t.2 8), .int .i64 (t.2 9)]] w fun e w' => e = .returned (.tuple #[.string ⟨#[]⟩, .int .i64 2]) ∧ Below w.heap.size w w' := by
  have RT0 := right_any t (boxT w t)
  rw [R] at RT0
  have HB0 : Hid (Below w.heap.size w (boxT w t)) := boxT_below w t
  clear R
  go_enter Tryd.func8, Tryd.ntmps8
  go_wp2_with fail
  refine RT0.mono ?_
  rintro e w1 ⟨rfl, b1⟩
  go_wp2_with fail
  go_ret2
  exact ⟨rfl, HB0.out.trans (b1.mono HB0.out.size)⟩
/-- What Encode answers of a tell. -/
def encE (t : TellP) : List UInt8 × Int := if rightB t = true then (cat (fieldsT t), 0) else ([], 2)
theorem encode_any (t : TellP) (w : World) (hl : Let w) (hp : Pow w) :
    Calls Tryd.prog 8 #[.agg #[.int .i64 (t.2 0), .string (t.1 1), .string (t.1 2), .int .i64 (t.2 3), .int .i64 (t.2 4), .int .i64 (t.2 5), .int .i64 (t.2 6), .int .i64 (t.2 7), .int .i64 (t.2 8), .int .i64 (t.2 9)]] w fun e w' => e = .returned (.tuple #[.string (mk (encE t).1), .int .i64 (encE t).2]) ∧ Below w.heap.size w w' := by
  unfold encE
  by_cases R : rightB t = true
  · rw [if_pos R]
    exact encode_yes t w ((right_iff t).1 R) hl hp
  · rw [if_neg R]
    exact encode_no t w (by simpa using R)
end Go.Proofs.YtdacmhnniecmhaaDoor
