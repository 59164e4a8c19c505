/-
  The reference's Same of a list of numbers and none; what two asks that are the same have; what a right ask has, kind by kind (plain).
-/
import Derived.Test.YtepkmbpadhfbmaaGreatDoorGT
import Derived.Test.YtepkmbpadhfbmaaGreatDoorIF
import Derived.Test.YtepkmbpadhfbmaaGreatDoorGJ
import Derived.Test.YtepkmbpadhfbmaaGreatDoorIG
import Derived.Test.YtepkmbpadhfbmaaGreatDoorID
import Derived.Test.YtepkmbpadhfbmaaGreatDoorIE
import Derived.Test.YtepkmbpadhfbmaaGreatDoorGS
import Derived.Test.YtepkmbpadhfbmaaGreatDoorGK
import Derived.Test.YtepkmbpadhfbmaaGreatDoorGL
import Derived.Test.YtepkmbpadhfbmaaGreatDoorGM
namespace Go.Proofs.YtepkmbpadhfbmaaGreatDoor
open Go.ChangeShapes Go.WideShapes Go.ChangeAt Go.RowKit Go.Lib

set_option maxHeartbeats 1000000 in
theorem sameI_nil (a : Option Addr) (n cap : Nat) (w : World) :
    Calls Tryz.prog 43 #[.slice a n cap, .slice none 0 0] w fun e w' => e = .returned (.bool (decide (n = 0))) ∧ Below w.heap.size w w' := by
  by_cases h : n = 0
  · rw [decide_eq_true h]
    subst h
    go_enter Tryz.func43, Tryz.ntmps43
    go_wp2_with fail
    go_loopw [5] (fun c wr => ∃ k : Nat, c = .int .i64 (k : Int) ∧ k = 0 ∧ Below w.heap.size w wr) (fun c _ => (RowKit.intOf c).toNat)
    case atStart => exact ⟨0, rfl, rfl, Below.refl _ _⟩
    case round =>
      obtain ⟨k, rfl, hk, hB⟩ := hrel
      have t : ¬ (k : Int) < 0 := by omega
      go_wp2_with fail
      go_ret
      exact ⟨rfl, hB⟩
  · rw [decide_eq_false h]
    have t : ((n : Int) == 0) = false := beq_false_of_ne (by omega)
    go_enter Tryz.func43, Tryz.ntmps43
    go_wp2_with fail
    go_ret
    exact ⟨rfl, Below.refl _ _⟩
theorem bytes_eq12 (a b : ByteArray) : a.toList = b.toList ↔ a = b := by
  rw [← beq_iff_eq, beq_bytes, decide_eq_true_eq]
theorem sameB_iff {k k' : Int} {i i' t t' c c' s s' : ByteArray} {sd sd' q q' p p' al al' st st' en en' ra ra' sh sh' : Int} {cb : Bool} : sameB k k' i i' t t' c c' s s' sd sd' q q' p p' al al' st st' en en' ra ra' sh sh' cb = true ↔ k = k' ∧ i = i' ∧ t = t' ∧ c = c' ∧ s = s' ∧ sd = sd' ∧ q = q' ∧ p = p' ∧ al = al' ∧ st = st' ∧ en = en' ∧ ra = ra' ∧ sh = sh' ∧ cb = true := by
  unfold sameB
  simp only [Bool.and_eq_true, beq_iff_eq, bytes_eq12]
theorem noOrd_iff {c s : ByteArray} {sd al st : Int} {n : Nat} {ra sh : Int} : noOrdB c s sd al st n ra sh = true ↔ c = ⟨#[]⟩ ∧ s = ⟨#[]⟩ ∧ sd = 0 ∧ al = 0 ∧ st = 0 ∧ n = 0 ∧ ra = 0 ∧ sh = 0 := by
  unfold noOrdB
  simp only [Bool.and_eq_true, beq_iff_eq, empty_is]
  constructor
  · rintro ⟨h1, h2, h3, h4, h5, h6, h7, h8⟩; exact ⟨h1, h2, h3, h4, h5, by omega, h7, h8⟩
  · rintro ⟨h1, h2, h3, h4, h5, h6, h7, h8⟩; exact ⟨h1, h2, h3, h4, h5, by omega, h7, h8⟩
theorem noChg_iff {q p en : Int} : noChgB q p en = true ↔ q = 0 ∧ p = 0 ∧ en = 0 := by
  unfold noChgB
  simp only [Bool.and_eq_true, beq_iff_eq]
theorem right_plain {k : Int} (k1 : k ≠ 1) (k3 : k ≠ 3) (h : 1 ≤ k ∧ k ≤ 5) (i t c s : ByteArray) (sd q p al st en ra sh : Int) (n : Nat) (cb : Bool) :
    rightB k i t c s sd q p al st en ra sh n cb = (vldB i && (vldB t && sameB k k i i t t c ⟨#[]⟩ s ⟨#[]⟩ sd 0 q 0 p 0 al 0 st 0 en 0 ra 0 sh 0 (decide (n = 0)))) := by
  unfold rightB
  rw [if_neg k1, if_neg k3, if_pos (by omega), Bool.eq_iff_iff]
  simp only [Bool.and_eq_true, sameB_iff, noOrd_iff, noChg_iff, decide_eq_true_eq]
  constructor
  · rintro ⟨a1, a2, ⟨a3, a4, a5⟩, a6, a7, a8, a9, a10, a11, a12, a13⟩
    exact ⟨a1, a2, trivial, trivial, trivial, a6, a7, a8, a3, a4, a9, a10, a5, a12, a13, a11⟩
  · rintro ⟨a1, a2, _, _, _, a6, a7, a8, a3, a4, a9, a10, a5, a12, a13, a11⟩
    exact ⟨a1, a2, ⟨a3, a4, a5⟩, a6, a7, a8, a9, a10, a11, a12, a13⟩
theorem right_amend {k : Int} (k3 : k = 3) (i t c s : ByteArray) (sd q p al st en ra sh : Int) (n : Nat) (cb : Bool) :
    rightB k i t c s sd q p al st en ra sh n cb = (vldB i && ((vldB t && (inB q 1 1099511627776 && (inB p 1 1099511627776 && inB en 0 1099511627776))) && sameB k k i i t t c ⟨#[]⟩ s ⟨#[]⟩ sd 0 q q p p al 0 st 0 en en ra 0 sh 0 (decide (n = 0)))) := by
  unfold rightB chgB
  rw [if_neg (by omega), if_pos k3, Bool.eq_iff_iff]
  simp only [Bool.and_eq_true, sameB_iff, noOrd_iff, decide_eq_true_eq]
  constructor
  · rintro ⟨a1, a2, ⟨⟨a3, a4⟩, a5⟩, a6, a7, a8, a9, a10, a11, a12, a13⟩
    exact ⟨a1, ⟨a2, a3, a4, a5⟩, trivial, trivial, trivial, a6, a7, a8, trivial, trivial, a9, a10, trivial, a12, a13, a11⟩
  · rintro ⟨a1, ⟨a2, a3, a4, a5⟩, _, _, _, a6, a7, a8, _, _, a9, a10, _, a12, a13, a11⟩
    exact ⟨a1, a2, ⟨⟨a3, a4⟩, a5⟩, a6, a7, a8, a9, a10, a11, a12, a13⟩
/-- What is kept of a new order's own numbers. -/
def keptR (al ra : Int) : Int := if al = 3 then ra else 0
def keptS (al sh : Int) : Int := if al = 4 then sh else 0
def keptC (al : Int) (n : Nat) : Bool := if al = 2 then true else decide (n = 0)
theorem whole_zero12 {al st en : Int} {cb : Bool} : ((wholeB 1 al st en cb).2 == 0) = true ↔ inB (en - st) 1 1073741824 = true ∧ (al = 2 → cb = true) := by
  unfold wholeB
  rw [beq_iff_eq]
  by_cases h1 : inB (en - st) 1 1073741824 = true
  · rw [if_neg (by simp [h1])]
    by_cases h2 : al = 2
    · cases cb <;> simp [h1, h2]
    · rw [if_neg (fun e => h2 e.2.1)]
      simp [h1, h2]
  · rw [if_pos ⟨rfl, by simpa using h1⟩]
    simp [h1]
theorem right_new {k : Int} (k1 : k = 1) (i t c s : ByteArray) (sd q p al st en ra sh : Int) (n : Nat) (cb : Bool) :
    rightB k i t c s sd q p al st en ra sh n cb = (vldB i && ((inB q 1 1099511627776 && (inB p 1 1099511627776 && (inB en 0 1099511627776 && (vldB c && (vldB s && (inB sd 1 2 && (inB al 1 4 && (inB st 0 1099511627776 && (extraB al ra sh && ((wholeB 1 al st en cb).2 == 0)))))))))) && sameB k k i i t ⟨#[]⟩ c c s s sd sd q q p p al al st st en en ra (keptR al ra) sh (keptS al sh) (keptC al n))) := by
  unfold rightB ordB chgB
  rw [if_pos k1, Bool.eq_iff_iff]
  simp only [Bool.and_eq_true, sameB_iff, whole_zero12, empty_is]
  have AG : algB al ra sh n cb = true ↔ inB al 1 4 = true ∧ extraB al ra sh = true ∧ (al = 2 → cb = true) ∧ ra = keptR al ra ∧ sh = keptS al sh ∧ keptC al n = true := by
    unfold algB extraB keptR keptS keptC
    by_cases a1 : al = 1
    · subst a1
      simp [inB]
      constructor
      · rintro ⟨h1, h2, h3⟩; exact ⟨h2, h3, by omega⟩
      · rintro ⟨h2, h3, h1⟩; exact ⟨by omega, h2, h3⟩
    by_cases a2 : al = 2
    · subst a2
      simp [inB]
    by_cases a3 : al = 3
    · subst a3
      simp [inB]
      constructor
      · rintro ⟨h1, h2, h3⟩; exact ⟨h2, h3, by omega⟩
      · rintro ⟨h2, h3, h1⟩; exact ⟨by omega, h2, h3⟩
    by_cases a4 : al = 4
    · subst a4
      simp [inB]
      constructor
      · rintro ⟨h1, h2, h3⟩; exact ⟨h3, h2, by omega⟩
      · rintro ⟨h2, h3, h1⟩; exact ⟨by omega, h3, h2⟩
    · rw [if_neg a1, if_neg a2, if_neg a3, if_neg a4]
      constructor
      · intro h; simp at h
      · rintro ⟨h, _⟩
        rw [inB_true] at h
        omega
  rw [AG]
  constructor
  · rintro ⟨a1, a2, ⟨a3, a4, a5, ⟨⟨a6, a7⟩, a8⟩, a9, a10⟩, b1, b2, b3, b4, b5, b6⟩
    exact ⟨a1, ⟨a6, a7, a8, a3, a4, a5, b1, a9, b2, a10, b3⟩, trivial, trivial, a2, trivial, trivial, trivial, trivial, trivial, trivial, trivial, trivial, b4, b5, b6⟩
  · rintro ⟨a1, ⟨a6, a7, a8, a3, a4, a5, b1, a9, b2, a10, b3⟩, _, _, a2, _, _, _, _, _, _, _, _, b4, b5, b6⟩
    exact ⟨a1, a2, ⟨a3, a4, a5, ⟨⟨a6, a7⟩, a8⟩, a9, a10⟩, b1, b2, b3, b4, b5, b6⟩
end Go.Proofs.YtepkmbpadhfbmaaGreatDoor
/-
  The contract of the reference's Form of asks: orders by a curve.
-/
namespace Go.Proofs.YtepkmbpadhfbmaaGreatDoor
open Go.ChangeShapes Go.WideShapes Go.ChangeAt Go.RowKit Go.Lib

theorem listT_small : ∀ l : List Nat, (∀ x ∈ l, x ≤ 1048576) → (listT l).length ≤ 9 * l.length
  | [], _ => by simp [listT]
  | [x], h => by
    have := digits_short 6 x (by have := h x (by simp); omega)
    simp [listT]
    omega
  | x :: y :: r, h => by
    have := digits_short 6 x (by have := h x (by simp); omega)
    have ih := listT_small (y :: r) (fun z hz => h z (List.mem_cons_of_mem _ hz))
    rw [listT]
    simp at ih ⊢
    omega
set_option maxRecDepth 1000000 in
set_option maxHeartbeats 16000000 in
theorem refForm_new2 (k : Int) (i t c s : ByteArray) (sd q p al st en ra sh : Int) (a : Option Addr) (n cap : Nat) (L : List Nat) (hn : n = L.length) (w : World) (k1 : 1 ≤ k) (k5 : k ≤ 5) (e1 : k = 1) (h0 : al = 2) (HR : Row w (.slice a n cap) n fun i => .int .i64 ((L.getD i 0 : Nat) : Int)) (h64 : n ≤ 64) (hnum : ∀ x ∈ L, x ≤ 1048576) (zi : i.size ≤ 600) (zc : c.size ≤ 600) (zs : s.size ≤ 600) (zsd : 0 ≤ sd ∧ sd ≤ 1099511627776) (zq : 0 ≤ q ∧ q ≤ 1099511627776) (zp : 0 ≤ p ∧ p ≤ 1099511627776) (zal : 0 ≤ al ∧ al ≤ 1099511627776) (zst : 0 ≤ st ∧ st ≤ 1099511627776) (zen : 0 ≤ en ∧ en ≤ 1099511627776) :
    Calls Tryz.prog 17 #[.agg #[.int .i64 k, .string i, .string t, .string c, .string s, .int .i64 sd, .int .i64 q, .int .i64 p, .int .i64 al, .int .i64 st, .int .i64 en, .int .i64 ra, .int .i64 sh, .slice a n cap]] w fun e' w' => e' = .returned (.string (mk ((((((([51, 53] ++ 61 :: ((wordT k).data.toList ++ [1])) ++ ([49, 49] ++ 61 :: ((i).data.toList ++ [1]))) ++ ((([49] ++ 61 :: ((c).data.toList ++ [1])) ++ ([53, 53] ++ 61 :: ((s).data.toList ++ [1]))) ++ ([53, 52] ++ 61 :: ((numT sd).data.toList ++ [1])))) ++ (([51, 56] ++ 61 :: ((numT q).data.toList ++ [1])) ++ ([52, 52] ++ 61 :: ((numT p).data.toList ++ [1])))) ++ (([53, 48, 48, 49] ++ 61 :: ((numT al).data.toList ++ [1])) ++ ([53, 48, 48, 50] ++ 61 :: ((numT st).data.toList ++ [1])))) ++ ([53, 48, 48, 51] ++ 61 :: ((numT en).data.toList ++ [1]))) ++ ([53, 48, 48, 54] ++ 61 :: (listT L ++ [1]))))) ∧ Below w.heap.size w w' := by
  have HB0 : Hid (Below w.heap.size w (boxR w k i t c s sd q p al st en ra sh (.slice a n cap))) := boxR_below w k i t c s sd q p al st en ra sh (.slice a n cap)
  have HT : Hid (AskAt (boxR w k i t c s sd q p al st en ra sh (.slice a n cap)) w.heap.size k i t c s sd q p al st en ra sh (.slice a n cap)) := AskAt.boxR w k i t c s sd q p al st en ra sh (.slice a n cap)
  have HN : Hid (n = L.length) := hn
  have HN64 : Hid (n ≤ 64) := h64
  have HNUM : Hid (∀ m, m < L.length → L.getD m 0 ≤ 1048576) := fun m hm => by
    have e : L.getD m 0 = L[m] := by simp [hm]
    rw [e]
    exact hnum _ (List.getElem_mem hm)
  have HSZ : Hid (∀ m, (mk (listT (L.take m))).size ≤ 9 * n) := fun m => by
    rw [mk_size]
    have := listT_small (L.take m) (fun x hx => hnum x (List.mem_of_mem_take hx))
    have l2 : (L.take m).length ≤ L.length := by simp; omega
    omega
  have HROW : Hid (∀ m, m < n → ∃ b off, a = some ⟨b, off, none⟩ ∧ w.cell? ⟨b, off + m, none⟩ = some (.int .i64 ((L.getD m 0 : Nat) : Int))) := by
    obtain ⟨a', c', re, _, _, r3⟩ := HR
    simp only [Value.slice.injEq] at re
    obtain ⟨rfl, _, rfl⟩ := re
    exact r3
  have zPL : (mk (listT L)).size ≤ 9 * n := by
    rw [mk_size]
    have := listT_small L hnum
    omega
  have CP0 := fun w => (refPut_any [53, 48, 48, 54] (mk (listT L)) (by decide) (by omega) w).mono fun e w' h => (⟨h.1, h.2.symm⟩ : _ ∧ w = w')
  have SCv := putL_size [53, 48, 48, 54] (mk (listT L))
  simp only [List.length_cons, List.length_nil] at SCv
  clear hn hnum HR
  have WD := fun w => refWord_any k k1 k5 w
  have hwd := word_small k
  have C0 : ∀ w, Calls Tryz.prog 50 #[.string ⟨#[51, 53]⟩, .string (wordT k)] w fun e' w' => e' = .returned (.string (putL [51, 53] (wordT k))) ∧ w = w' := fun w => (refPut_any [51, 53] (wordT k) (by decide) (by omega) w).mono fun e w' ⟨h1, h2⟩ => ⟨h1, h2.symm⟩
  have S0 := putL_size [51, 53] (wordT k)
  simp only [List.length_cons, List.length_nil] at S0
  have C1 : ∀ w, Calls Tryz.prog 50 #[.string ⟨#[49, 49]⟩, .string i] w fun e' w' => e' = .returned (.string (putL [49, 49] i)) ∧ w = w' := fun w => (refPut_any [49, 49] i (by decide) (by omega) w).mono fun e w' ⟨h1, h2⟩ => ⟨h1, h2.symm⟩
  have S1 := putL_size [49, 49] (i)
  simp only [List.length_cons, List.length_nil] at S1
  have C2 : ∀ w, Calls Tryz.prog 50 #[.string ⟨#[49]⟩, .string c] w fun e' w' => e' = .returned (.string (putL [49] c)) ∧ w = w' := fun w => (refPut_any [49] c (by decide) (by omega) w).mono fun e w' ⟨h1, h2⟩ => ⟨h1, h2.symm⟩
  have S2 := putL_size [49] (c)
  simp only [List.length_cons, List.length_nil] at S2
  have C3 : ∀ w, Calls Tryz.prog 50 #[.string ⟨#[53, 53]⟩, .string s] w fun e' w' => e' = .returned (.string (putL [53, 53] s)) ∧ w = w' := fun w => (refPut_any [53, 53] s (by decide) (by omega) w).mono fun e w' ⟨h1, h2⟩ => ⟨h1, h2.symm⟩
  have S3 := putL_size [53, 53] (s)
  simp only [List.length_cons, List.length_nil] at S3
  have C4 : ∀ w, Calls Tryz.prog 51 #[.string ⟨#[53, 52]⟩, .int .i64 sd] w fun e' w' => e' = .returned (.string (putL [53, 52] (numT sd))) ∧ Below w.heap.size w w' := fun w => numberP_any [53, 52] sd (by decide) zsd.1 zsd.2 w
  have S4 := putL_size [53, 52] (numT sd)
  have N4 := num_small sd zsd.2
  simp only [List.length_cons, List.length_nil] at S4
  have C5 : ∀ w, Calls Tryz.prog 51 #[.string ⟨#[51, 56]⟩, .int .i64 q] w fun e' w' => e' = .returned (.string (putL [51, 56] (numT q))) ∧ Below w.heap.size w w' := fun w => numberP_any [51, 56] q (by decide) zq.1 zq.2 w
  have S5 := putL_size [51, 56] (numT q)
  have N5 := num_small q zq.2
  simp only [List.length_cons, List.length_nil] at S5
  have C6 : ∀ w, Calls Tryz.prog 51 #[.string ⟨#[52, 52]⟩, .int .i64 p] w fun e' w' => e' = .returned (.string (putL [52, 52] (numT p))) ∧ Below w.heap.size w w' := fun w => numberP_any [52, 52] p (by decide) zp.1 zp.2 w
  have S6 := putL_size [52, 52] (numT p)
  have N6 := num_small p zp.2
  simp only [List.length_cons, List.length_nil] at S6
  have C7 : ∀ w, Calls Tryz.prog 51 #[.string ⟨#[53, 48, 48, 49]⟩, .int .i64 al] w fun e' w' => e' = .returned (.string (putL [53, 48, 48, 49] (numT al))) ∧ Below w.heap.size w w' := fun w => numberP_any [53, 48, 48, 49] al (by decide) zal.1 zal.2 w
  have S7 := putL_size [53, 48, 48, 49] (numT al)
  have N7 := num_small al zal.2
  simp only [List.length_cons, List.length_nil] at S7
  have C8 : ∀ w, Calls Tryz.prog 51 #[.string ⟨#[53, 48, 48, 50]⟩, .int .i64 st] w fun e' w' => e' = .returned (.string (putL [53, 48, 48, 50] (numT st))) ∧ Below w.heap.size w w' := fun w => numberP_any [53, 48, 48, 50] st (by decide) zst.1 zst.2 w
  have S8 := putL_size [53, 48, 48, 50] (numT st)
  have N8 := num_small st zst.2
  simp only [List.length_cons, List.length_nil] at S8
  have C9 : ∀ w, Calls Tryz.prog 51 #[.string ⟨#[53, 48, 48, 51]⟩, .int .i64 en] w fun e' w' => e' = .returned (.string (putL [53, 48, 48, 51] (numT en))) ∧ Below w.heap.size w w' := fun w => numberP_any [53, 48, 48, 51] en (by decide) zen.1 zen.2 w
  have S9 := putL_size [53, 48, 48, 51] (numT en)
  have N9 := num_small en zen.2
  simp only [List.length_cons, List.length_nil] at S9
  have HOUT : Hid ((((((putL [51, 53] (wordT k) ++ putL [49, 49] i) ++ ((putL [49] c ++ putL [53, 53] s) ++ putL [53, 52] (numT sd))) ++ (putL [51, 56] (numT q) ++ putL [52, 52] (numT p))) ++ (putL [53, 48, 48, 49] (numT al) ++ putL [53, 48, 48, 50] (numT st))) ++ putL [53, 48, 48, 51] (numT en)) ++ putL [53, 48, 48, 54] (mk (listT L)) = mk ((((((([51, 53] ++ 61 :: ((wordT k).data.toList ++ [1])) ++ ([49, 49] ++ 61 :: ((i).data.toList ++ [1]))) ++ ((([49] ++ 61 :: ((c).data.toList ++ [1])) ++ ([53, 53] ++ 61 :: ((s).data.toList ++ [1]))) ++ ([53, 52] ++ 61 :: ((numT sd).data.toList ++ [1])))) ++ (([51, 56] ++ 61 :: ((numT q).data.toList ++ [1])) ++ ([52, 52] ++ 61 :: ((numT p).data.toList ++ [1])))) ++ (([53, 48, 48, 49] ++ 61 :: ((numT al).data.toList ++ [1])) ++ ([53, 48, 48, 50] ++ 61 :: ((numT st).data.toList ++ [1])))) ++ ([53, 48, 48, 51] ++ 61 :: ((numT en).data.toList ++ [1]))) ++ ([53, 48, 48, 54] ++ 61 :: (listT L ++ [1])))) := by
    show _ = _
    apply bytes_ext8
    simp [mk, putL]
  obtain ⟨p0, hp0⟩ : ∃ pp, putL [51, 53] (wordT k) = pp := ⟨_, rfl⟩
  rw [hp0] at C0 HOUT S0
  obtain ⟨p1, hp1⟩ : ∃ pp, putL [49, 49] i = pp := ⟨_, rfl⟩
  rw [hp1] at C1 HOUT S1
  obtain ⟨p2, hp2⟩ : ∃ pp, putL [49] c = pp := ⟨_, rfl⟩
  rw [hp2] at C2 HOUT S2
  obtain ⟨p3, hp3⟩ : ∃ pp, putL [53, 53] s = pp := ⟨_, rfl⟩
  rw [hp3] at C3 HOUT S3
  obtain ⟨p4, hp4⟩ : ∃ pp, putL [53, 52] (numT sd) = pp := ⟨_, rfl⟩
  rw [hp4] at C4 HOUT S4
  obtain ⟨p5, hp5⟩ : ∃ pp, putL [51, 56] (numT q) = pp := ⟨_, rfl⟩
  rw [hp5] at C5 HOUT S5
  obtain ⟨p6, hp6⟩ : ∃ pp, putL [52, 52] (numT p) = pp := ⟨_, rfl⟩
  rw [hp6] at C6 HOUT S6
  obtain ⟨p7, hp7⟩ : ∃ pp, putL [53, 48, 48, 49] (numT al) = pp := ⟨_, rfl⟩
  rw [hp7] at C7 HOUT S7
  obtain ⟨p8, hp8⟩ : ∃ pp, putL [53, 48, 48, 50] (numT st) = pp := ⟨_, rfl⟩
  rw [hp8] at C8 HOUT S8
  obtain ⟨p9, hp9⟩ : ∃ pp, putL [53, 48, 48, 51] (numT en) = pp := ⟨_, rfl⟩
  rw [hp9] at C9 HOUT S9
  rw [← HOUT.out]
  clear HOUT hp0 hp1 hp2 hp3 hp4 hp5 hp6 hp7 hp8 hp9
  have Jq0 := fun w => join_run p0 p1 (by omega) w
  have Zq0 : (p0 ++ p1).size = p0.size + p1.size := ByteArray.size_append
  obtain ⟨q0, hq0⟩ : ∃ qq, p0 ++ p1 = qq := ⟨_, rfl⟩
  rw [hq0] at Jq0 Zq0 ⊢
  have Jq1 := fun w => join_run p2 p3 (by omega) w
  have Zq1 : (p2 ++ p3).size = p2.size + p3.size := ByteArray.size_append
  obtain ⟨q1, hq1⟩ : ∃ qq, p2 ++ p3 = qq := ⟨_, rfl⟩
  rw [hq1] at Jq1 Zq1 ⊢
  have Jq2 := fun w => join_run q1 p4 (by omega) w
  have Zq2 : (q1 ++ p4).size = q1.size + p4.size := ByteArray.size_append
  obtain ⟨q2, hq2⟩ : ∃ qq, q1 ++ p4 = qq := ⟨_, rfl⟩
  rw [hq2] at Jq2 Zq2 ⊢
  have Jq3 := fun w => join_run q0 q2 (by omega) w
  have Zq3 : (q0 ++ q2).size = q0.size + q2.size := ByteArray.size_append
  obtain ⟨q3, hq3⟩ : ∃ qq, q0 ++ q2 = qq := ⟨_, rfl⟩
  rw [hq3] at Jq3 Zq3 ⊢
  have Jq4 := fun w => join_run p5 p6 (by omega) w
  have Zq4 : (p5 ++ p6).size = p5.size + p6.size := ByteArray.size_append
  obtain ⟨q4, hq4⟩ : ∃ qq, p5 ++ p6 = qq := ⟨_, rfl⟩
  rw [hq4] at Jq4 Zq4 ⊢
  have Jq5 := fun w => join_run q3 q4 (by omega) w
  have Zq5 : (q3 ++ q4).size = q3.size + q4.size := ByteArray.size_append
  obtain ⟨q5, hq5⟩ : ∃ qq, q3 ++ q4 = qq := ⟨_, rfl⟩
  rw [hq5] at Jq5 Zq5 ⊢
  have Jq6 := fun w => join_run p7 p8 (by omega) w
  have Zq6 : (p7 ++ p8).size = p7.size + p8.size := ByteArray.size_append
  obtain ⟨q6, hq6⟩ : ∃ qq, p7 ++ p8 = qq := ⟨_, rfl⟩
  rw [hq6] at Jq6 Zq6 ⊢
  have Jq7 := fun w => join_run q5 q6 (by omega) w
  have Zq7 : (q5 ++ q6).size = q5.size + q6.size := ByteArray.size_append
  obtain ⟨q7, hq7⟩ : ∃ qq, q5 ++ q6 = qq := ⟨_, rfl⟩
  rw [hq7] at Jq7 Zq7 ⊢
  have Jq8 := fun w => join_run q7 p9 (by omega) w
  have Zq8 : (q7 ++ p9).size = q7.size + p9.size := ByteArray.size_append
  obtain ⟨q8, hq8⟩ : ∃ qq, q7 ++ p9 = qq := ⟨_, rfl⟩
  rw [hq8] at Jq8 Zq8 ⊢
  obtain ⟨PCv, hPCv⟩ : ∃ pp, putL [53, 48, 48, 54] (mk (listT L)) = pp := ⟨_, rfl⟩
  rw [hPCv] at CP0 SCv ⊢
  have JF := fun w => join_run q8 PCv (by omega) w
  obtain ⟨qF, hqF⟩ : ∃ qq, q8 ++ PCv = qq := ⟨_, rfl⟩
  rw [hqF] at JF ⊢
  obtain ⟨PLv, hPL⟩ : ∃ pp, mk (listT L) = pp := ⟨_, rfl⟩
  have HPL : Hid (mk (listT L) = PLv) := hPL
  have CP : ∀ w, Calls Tryz.prog 50 #[.string ⟨#[53, 48, 48, 54]⟩, .string PLv] w fun e' w' => e' = .returned (.string PCv) ∧ w = w' := fun w => by rw [← hPL]; exact CP0 w
  clear CP0 SCv hPCv hqF hPL zPL h64
  have gk1 : (k == 1) = true := beq_iff_eq.2 e1
  have gk3 : (k == 3) = false := beq_false_of_ne (by omega)
  have ga2 : (al == 2) = true := beq_iff_eq.2 h0
  have ga3 : (al == 3) = false := beq_false_of_ne (by omega)
  have ga4 : (al == 4) = false := beq_false_of_ne (by omega)
  clear e1 h0
  clear hq0 Zq0 hq1 Zq1 hq2 Zq2 hq3 Zq3 hq4 Zq4 hq5 Zq5 hq6 Zq6 hq7 Zq7 hq8 Zq8 S0 S1 S2 S3 S4 N4 S5 N5 S6 N6 S7 N7 S8 N8 S9 N9 hwd k1 k5
  clear zi zc zs zsd zq zp zal zst zen
  generalize wordT k = wd at *
  obtain ⟨d0, d1, d2, d3, d4, d5, d6, d7, d8, d9, d10, d11, d12, d13⟩ := HT.out
  go_enter Tryz.func17, Tryz.ntmps17
  go_wp2_with fail
  go_region_held3 (fun w' => w'.cell? ⟨w.heap.size, 0, none⟩ = some (.int .i64 k) ∧ w'.cell? ⟨w.heap.size, 1, none⟩ = some (.string i) ∧ w'.cell? ⟨w.heap.size, 2, none⟩ = some (.string t) ∧ w'.cell? ⟨w.heap.size, 3, none⟩ = some (.string c) ∧ w'.cell? ⟨w.heap.size, 4, none⟩ = some (.string s) ∧ w'.cell? ⟨w.heap.size, 5, none⟩ = some (.int .i64 sd) ∧ w'.cell? ⟨w.heap.size, 6, none⟩ = some (.int .i64 q) ∧ w'.cell? ⟨w.heap.size, 7, none⟩ = some (.int .i64 p) ∧ w'.cell? ⟨w.heap.size, 8, none⟩ = some (.int .i64 al) ∧ w'.cell? ⟨w.heap.size, 9, none⟩ = some (.int .i64 st) ∧ w'.cell? ⟨w.heap.size, 10, none⟩ = some (.int .i64 en) ∧ w'.cell? ⟨w.heap.size, 11, none⟩ = some (.int .i64 ra) ∧ w'.cell? ⟨w.heap.size, 12, none⟩ = some (.int .i64 sh) ∧ w'.cell? ⟨w.heap.size, 13, none⟩ = some (.slice a n cap)) (go_keep) (first
    | (go_at_call 38; refine (WD _).mono ?_; rintro e' yw ⟨rfl, bw⟩; have Bw := below_of_drew bw; have Xw : Hid (AskAt yw w.heap.size k i t c s sd q p al st en ra sh (.slice a n cap)) := HT.out.still Bw HT.out.lt; obtain ⟨uw_0, uw_1, uw_2, uw_3, uw_4, uw_5, uw_6, uw_7, uw_8, uw_9, uw_10, uw_11, uw_12, uw_13⟩ := Xw.out; have HBw' : Hid (Below w.heap.size w yw) := HB0.out.trans (Bw.mono HB0.out.size))
    | (go_at_call_of 50 (Value.string ⟨#[51, 53]⟩); refine (C0 _).mono ?_; rintro e' y0 ⟨rfl, rfl⟩)
    | (go_at_call_of 50 (Value.string ⟨#[49, 49]⟩); refine (C1 _).mono ?_; rintro e' y1 ⟨rfl, rfl⟩))
  go_wp2_with fail
  go_region_held3 (fun w' => w'.cell? ⟨w.heap.size, 0, none⟩ = some (.int .i64 k) ∧ w'.cell? ⟨w.heap.size, 1, none⟩ = some (.string i) ∧ w'.cell? ⟨w.heap.size, 2, none⟩ = some (.string t) ∧ w'.cell? ⟨w.heap.size, 3, none⟩ = some (.string c) ∧ w'.cell? ⟨w.heap.size, 4, none⟩ = some (.string s) ∧ w'.cell? ⟨w.heap.size, 5, none⟩ = some (.int .i64 sd) ∧ w'.cell? ⟨w.heap.size, 6, none⟩ = some (.int .i64 q) ∧ w'.cell? ⟨w.heap.size, 7, none⟩ = some (.int .i64 p) ∧ w'.cell? ⟨w.heap.size, 8, none⟩ = some (.int .i64 al) ∧ w'.cell? ⟨w.heap.size, 9, none⟩ = some (.int .i64 st) ∧ w'.cell? ⟨w.heap.size, 10, none⟩ = some (.int .i64 en) ∧ w'.cell? ⟨w.heap.size, 11, none⟩ = some (.int .i64 ra) ∧ w'.cell? ⟨w.heap.size, 12, none⟩ = some (.int .i64 sh) ∧ w'.cell? ⟨w.heap.size, 13, none⟩ = some (.slice a n cap)) (go_keep) (first
    | (go_at_call_of 50 (Value.string ⟨#[49]⟩); refine (C2 _).mono ?_; rintro e' y2 ⟨rfl, rfl⟩)
    | (go_at_call_of 50 (Value.string ⟨#[53, 53]⟩); refine (C3 _).mono ?_; rintro e' y3 ⟨rfl, rfl⟩)
    | (go_at_call_of 51 (Value.string ⟨#[53, 52]⟩); refine (C4 _).mono ?_; rintro e' y4 ⟨rfl, b4⟩; have B4 := below_of_drew b4; have X4 : Hid (AskAt y4 w.heap.size k i t c s sd q p al st en ra sh (.slice a n cap)) := Xw.out.still B4 Xw.out.lt; obtain ⟨u4_0, u4_1, u4_2, u4_3, u4_4, u4_5, u4_6, u4_7, u4_8, u4_9, u4_10, u4_11, u4_12, u4_13⟩ := X4.out; have HB4' : Hid (Below w.heap.size w y4) := HBw'.out.trans (B4.mono HBw'.out.size)))
  go_wp2_with fail
  go_region_held3 (fun w' => w'.cell? ⟨w.heap.size, 0, none⟩ = some (.int .i64 k) ∧ w'.cell? ⟨w.heap.size, 1, none⟩ = some (.string i) ∧ w'.cell? ⟨w.heap.size, 2, none⟩ = some (.string t) ∧ w'.cell? ⟨w.heap.size, 3, none⟩ = some (.string c) ∧ w'.cell? ⟨w.heap.size, 4, none⟩ = some (.string s) ∧ w'.cell? ⟨w.heap.size, 5, none⟩ = some (.int .i64 sd) ∧ w'.cell? ⟨w.heap.size, 6, none⟩ = some (.int .i64 q) ∧ w'.cell? ⟨w.heap.size, 7, none⟩ = some (.int .i64 p) ∧ w'.cell? ⟨w.heap.size, 8, none⟩ = some (.int .i64 al) ∧ w'.cell? ⟨w.heap.size, 9, none⟩ = some (.int .i64 st) ∧ w'.cell? ⟨w.heap.size, 10, none⟩ = some (.int .i64 en) ∧ w'.cell? ⟨w.heap.size, 11, none⟩ = some (.int .i64 ra) ∧ w'.cell? ⟨w.heap.size, 12, none⟩ = some (.int .i64 sh) ∧ w'.cell? ⟨w.heap.size, 13, none⟩ = some (.slice a n cap)) (go_keep) (first
    | (go_at_call_of 51 (Value.string ⟨#[51, 56]⟩); refine (C5 _).mono ?_; rintro e' y5 ⟨rfl, b5⟩; have B5 := below_of_drew b5; have X5 : Hid (AskAt y5 w.heap.size k i t c s sd q p al st en ra sh (.slice a n cap)) := X4.out.still B5 X4.out.lt; obtain ⟨u5_0, u5_1, u5_2, u5_3, u5_4, u5_5, u5_6, u5_7, u5_8, u5_9, u5_10, u5_11, u5_12, u5_13⟩ := X5.out; have HB5' : Hid (Below w.heap.size w y5) := HB4'.out.trans (B5.mono HB4'.out.size))
    | (go_at_call_of 51 (Value.string ⟨#[52, 52]⟩); refine (C6 _).mono ?_; rintro e' y6 ⟨rfl, b6⟩; have B6 := b6; have X6 : Hid (AskAt y6 w.heap.size k i t c s sd q p al st en ra sh (.slice a n cap)) := X5.out.still B6 X5.out.lt; obtain ⟨u6_0, u6_1, u6_2, u6_3, u6_4, u6_5, u6_6, u6_7, u6_8, u6_9, u6_10, u6_11, u6_12, u6_13⟩ := X6.out; have HB6' : Hid (Below w.heap.size w y6) := HB5'.out.trans (B6.mono HB5'.out.size)))
  go_wp2_with fail
  go_region_held3 (fun w' => w'.cell? ⟨w.heap.size, 0, none⟩ = some (.int .i64 k) ∧ w'.cell? ⟨w.heap.size, 1, none⟩ = some (.string i) ∧ w'.cell? ⟨w.heap.size, 2, none⟩ = some (.string t) ∧ w'.cell? ⟨w.heap.size, 3, none⟩ = some (.string c) ∧ w'.cell? ⟨w.heap.size, 4, none⟩ = some (.string s) ∧ w'.cell? ⟨w.heap.size, 5, none⟩ = some (.int .i64 sd) ∧ w'.cell? ⟨w.heap.size, 6, none⟩ = some (.int .i64 q) ∧ w'.cell? ⟨w.heap.size, 7, none⟩ = some (.int .i64 p) ∧ w'.cell? ⟨w.heap.size, 8, none⟩ = some (.int .i64 al) ∧ w'.cell? ⟨w.heap.size, 9, none⟩ = some (.int .i64 st) ∧ w'.cell? ⟨w.heap.size, 10, none⟩ = some (.int .i64 en) ∧ w'.cell? ⟨w.heap.size, 11, none⟩ = some (.int .i64 ra) ∧ w'.cell? ⟨w.heap.size, 12, none⟩ = some (.int .i64 sh) ∧ w'.cell? ⟨w.heap.size, 13, none⟩ = some (.slice a n cap)) (go_keep) (first
    | (go_at_call_of 51 (Value.string ⟨#[53, 48, 48, 49]⟩); refine (C7 _).mono ?_; rintro e' y7 ⟨rfl, b7⟩; have B7 := below_of_drew b7; have X7 : Hid (AskAt y7 w.heap.size k i t c s sd q p al st en ra sh (.slice a n cap)) := X6.out.still B7 X6.out.lt; obtain ⟨u7_0, u7_1, u7_2, u7_3, u7_4, u7_5, u7_6, u7_7, u7_8, u7_9, u7_10, u7_11, u7_12, u7_13⟩ := X7.out; have HB7' : Hid (Below w.heap.size w y7) := HB6'.out.trans (B7.mono HB6'.out.size))
    | (go_at_call_of 51 (Value.string ⟨#[53, 48, 48, 50]⟩); refine (C8 _).mono ?_; rintro e' y8 ⟨rfl, b8⟩; have B8 := b8; have X8 : Hid (AskAt y8 w.heap.size k i t c s sd q p al st en ra sh (.slice a n cap)) := X7.out.still B8 X7.out.lt; obtain ⟨u8_0, u8_1, u8_2, u8_3, u8_4, u8_5, u8_6, u8_7, u8_8, u8_9, u8_10, u8_11, u8_12, u8_13⟩ := X8.out; have HB8' : Hid (Below w.heap.size w y8) := HB7'.out.trans (B8.mono HB7'.out.size)))
  go_wp2_with fail
  refine (C9 _).mono ?_
  rintro e' y9 ⟨rfl, b9⟩
  have B9 := b9
  have X9 : Hid (AskAt y9 w.heap.size k i t c s sd q p al st en ra sh (.slice a n cap)) := X8.out.still B9 X8.out.lt
  obtain ⟨u9_0, u9_1, u9_2, u9_3, u9_4, u9_5, u9_6, u9_7, u9_8, u9_9, u9_10, u9_11, u9_12, u9_13⟩ := X9.out
  have HB9' : Hid (Below w.heap.size w y9) := HB8'.out.trans (B9.mono HB8'.out.size)
  go_wp2_with fail
  have HBL : Hid (Below w.heap.size w y9) := HB9'.out
  have HXL : Hid (AskAt y9 w.heap.size k i t c s sd q p al st en ra sh (.slice a n cap)) := X9.out
  clear uw_0 uw_1 uw_2 uw_3 uw_4 uw_5 uw_6 uw_7 uw_8 uw_9 uw_10 uw_11 uw_12 uw_13 u4_0 u4_1 u4_2 u4_3 u4_4 u4_5 u4_6 u4_7 u4_8 u4_9 u4_10 u4_11 u4_12 u4_13 u5_0 u5_1 u5_2 u5_3 u5_4 u5_5 u5_6 u5_7 u5_8 u5_9 u5_10 u5_11 u5_12 u5_13 u6_0 u6_1 u6_2 u6_3 u6_4 u6_5 u6_6 u6_7 u6_8 u6_9 u6_10 u6_11 u6_12 u6_13 u7_0 u7_1 u7_2 u7_3 u7_4 u7_5 u7_6 u7_7 u7_8 u7_9 u7_10 u7_11 u7_12 u7_13 u8_0 u8_1 u8_2 u8_3 u8_4 u8_5 u8_6 u8_7 u8_8 u8_9 u8_10 u8_11 u8_12 u8_13 u9_0 u9_1 u9_2 u9_3 u9_4 u9_5 u9_6 u9_7 u9_8 u9_9 u9_10 u9_11 u9_12 u9_13 Xw X4 X5 X6 X7 X8 X9 HBw' HB4' HB5' HB6' HB7' HB8' HB9' Jq0 Jq1 Jq2 Jq3 Jq4 Jq5 Jq6 Jq7 Jq8 C0 C1 C2 C3 C4 C5 C6 C7 C8 C9 WD HT HB0 d0 d1 d2 d3 d4 d5 d6 d7 d8 d9 d10 d11 d12 d13
  go_loopw [4, 5] (fun cc ii wr => ∃ m : Nat, ii = .int .i64 (m : Int) ∧ cc = .string (mk (listT (L.take m))) ∧ m ≤ n ∧ AskAt wr w.heap.size k i t c s sd q p al st en ra sh (.slice a n cap) ∧ Below w.heap.size w wr) (fun _ ii _ => n - (RowKit.intOf ii).toNat)
  case atStart => exact ⟨0, rfl, by simp [listT, mk], by omega, HXL.out, HBL.out⟩
  case round =>
    obtain ⟨m, rfl, rfl, hm, XM, BM⟩ := hrel
    have HXM : Hid (AskAt wr w.heap.size k i t c s sd q p al st en ra sh (.slice a n cap)) := XM
    have HBM : Hid (Below w.heap.size w wr) := BM
    obtain ⟨g0, g1, g2, g3, g4, g5, g6, g7, g8, g9, g10, g11, g12, g13⟩ := XM
    clear BM HXL HBL
    by_cases hlt : m < n
    · as_aux_lemma =>
      have t0 : (m : Int) < (n : Int) := by omega
      have m63 : (m : Int) ≤ 63 := by have := HN64.out; omega
      have hml : m < L.length := by have := HN.out; omega
      obtain ⟨rb, ro, rfl, rc⟩ := HROW.out m hlt
      have rd := (HBM.out.cell (World.block_lt_of_cell? _ _ rc)).trans rc
      have DG := fun w => refDigits_all (L.getD m 0) (by have := HNUM.out m hml; omega) w
      have hz : (mk (listT (L.take m))).size ≤ 10000 := by have := HSZ.out m; have := HN64.out; omega
      have hd : (mk (decDigits (L.getD m 0))).size ≤ 30 := by rw [mk_size]; have := digits_short 6 (L.getD m 0) (by have := HNUM.out m hml; omega); omega
      have hT : L.take (m + 1) = L.take m ++ [L.getD m 0] := by
        rw [List.take_succ_eq_append_getElem hml]
        simp [hml]
      by_cases h0 : m = 0
      · as_aux_lemma =>
        have t1 : ¬ (0 : Int) < (m : Int) := by omega
        have JJ := fun w => join_run (mk (listT (L.take m))) (mk (decDigits (L.getD m 0))) (by omega) w
        have HC1 : Hid (mk (listT (L.take m)) ++ mk (decDigits (L.getD m 0)) = mk (listT (L.take (m + 1)))) := by
          show _ = _
          rw [hT, h0]
          apply bytes_ext8
          simp [mk, listT]
        generalize mk (listT (L.take m)) ++ mk (decDigits (L.getD m 0)) = C1 at *
        generalize mk (listT (L.take m)) = C0 at *
        generalize mk (decDigits (L.getD m 0)) = dg at *
        generalize L.getD m 0 = x at *
        clear hz hd rc hT h0 hml
        go_wp2_with fail
        refine (DG _).mono ?_
        rintro e' z1 ⟨rfl, bz⟩
        have HXZ : Hid (AskAt z1 w.heap.size k i t c s sd q p al st en ra sh (.slice _ n cap)) := HXM.out.still bz HXM.out.lt
        have HBZ : Hid (Below w.heap.size w z1) := HBM.out.trans (bz.mono HBM.out.size)
        clear DG bz
        go_wp2_with fail
        go_roundw
        case rel => exact ⟨m + 1, by simp, by rw [HC1.out], by omega, HXZ.out, HBZ.out⟩
        case measure => simp [RowKit.intOf]; omega
      · as_aux_lemma =>
        have t1 : (0 : Int) < (m : Int) := by omega
        have J1 := fun w => join_run (mk (listT (L.take m))) ⟨#[44]⟩ (by have : (⟨#[44]⟩ : ByteArray).size = 1 := rfl; omega) w
        have hz2 : (mk (listT (L.take m)) ++ (⟨#[44]⟩ : ByteArray)).size ≤ 10001 := by rw [ByteArray.size_append]; have : (⟨#[44]⟩ : ByteArray).size = 1 := rfl; omega
        have JJ := fun w => join_run (mk (listT (L.take m)) ++ (⟨#[44]⟩ : ByteArray)) (mk (decDigits (L.getD m 0))) (by omega) w
        have HC1 : Hid (mk (listT (L.take m)) ++ (⟨#[44]⟩ : ByteArray) ++ mk (decDigits (L.getD m 0)) = mk (listT (L.take (m + 1)))) := by
          show _ = _
          have ne : L.take m ≠ [] := by
            intro e
            have := congrArg List.length e
            rw [List.length_take, List.length_nil] at this
            omega
          rw [hT, listT_snoc _ _ ne]
          apply bytes_ext8
          simp [mk]
        generalize mk (listT (L.take m)) ++ (⟨#[44]⟩ : ByteArray) ++ mk (decDigits (L.getD m 0)) = C1 at *
        generalize mk (listT (L.take m)) ++ (⟨#[44]⟩ : ByteArray) = C2 at *
        generalize mk (listT (L.take m)) = C0 at *
        generalize mk (decDigits (L.getD m 0)) = dg at *
        generalize L.getD m 0 = x at *
        clear hz hz2 hd rc hT h0 hml
        go_wp2_with fail
        refine (DG _).mono ?_
        rintro e' z1 ⟨rfl, bz⟩
        have HXZ : Hid (AskAt z1 w.heap.size k i t c s sd q p al st en ra sh (.slice _ n cap)) := HXM.out.still bz HXM.out.lt
        have HBZ : Hid (Below w.heap.size w z1) := HBM.out.trans (bz.mono HBM.out.size)
        clear DG bz
        go_wp2_with fail
        go_roundw
        case rel => exact ⟨m + 1, by simp, by rw [HC1.out], by omega, HXZ.out, HBZ.out⟩
        case measure => simp [RowKit.intOf]; omega
    · as_aux_lemma =>
      obtain rfl : m = n := by omega
      have t0 : ¬ (m : Int) < (m : Int) := by omega
      have eL : mk (listT (L.take m)) = PLv := by rw [← HPL.out, HN.out, List.take_length]
      rw [eL]
      clear eL
      go_wp2_with fail
      refine (CP _).mono ?_
      rintro e' z2 ⟨rfl, rfl⟩
      go_wp2_with fail
      go_ret
      exact ⟨rfl, HBM.out⟩
end Go.Proofs.YtepkmbpadhfbmaaGreatDoor
/-
  Contracts of the reference's Right, Form and Encode, for every ask.
-/
namespace Go.Proofs.YtepkmbpadhfbmaaGreatDoor
open Go.ChangeShapes Go.WideShapes Go.ChangeAt Go.RowKit Go.Lib

theorem refRight_newc (k : Int) (i t c s : ByteArray) (sd q p al st en ra sh : Int) (a : Option Addr) (cap : Nat) (cz : List Int) (w : World) (hr : Row w (.slice a cz.length cap) cz.length fun i => .int .i64 (cz.getD i 0)) (zi : i.size ≤ 100000) (zc : c.size ≤ 100000) (zs : s.size ≤ 100000) (k1 : k = 1) (cv : Value)
    (KP : ∀ w1, Calls Tryz.prog 26 #[.agg #[.int .i64 k, .string i, .string t, .string c, .string s, .int .i64 sd, .int .i64 q, .int .i64 p, .int .i64 al, .int .i64 st, .int .i64 en, .int .i64 ra, .int .i64 sh, .slice a cz.length cap]] w1 fun e' w' => e' = .returned (.agg #[.int .i64 k, .string i, .string ⟨#[]⟩, .string c, .string s, .int .i64 sd, .int .i64 q, .int .i64 p, .int .i64 al, .int .i64 st, .int .i64 en, .int .i64 (keptR al ra), .int .i64 (keptS al sh), cv]) ∧ Below w1.heap.size w1 w')
    (SI : ∀ w1, Below w.heap.size w w1 → Calls Tryz.prog 43 #[.slice a cz.length cap, cv] w1 fun e w' => e = .returned (.bool (keptC al cz.length)) ∧ Below w1.heap.size w1 w') :
    Calls Tryz.prog 11 #[.agg #[.int .i64 k, .string i, .string t, .string c, .string s, .int .i64 sd, .int .i64 q, .int .i64 p, .int .i64 al, .int .i64 st, .int .i64 en, .int .i64 ra, .int .i64 sh, .slice a cz.length cap]] w fun e w' => e = .returned (.bool (rightB k i t c s sd q p al st en ra sh cz.length (curB cz))) ∧ Below w.heap.size w w' := by
  have hk : inB k 1 5 = true := inB_true.2 (by omega)
  have SM : ∀ w1, Below w.heap.size w w1 → _ := fun w1 b => same_any12 k i t c s sd q p al st en ra sh (.slice a cz.length cap) k i ⟨#[]⟩ c s sd q p al st en (keptR al ra) (keptS al sh) cv (keptC al cz.length) w1 (fun w2 b2 => SI w2 (b.trans (b2.mono b.size)))
  rw [right_new k1]
  cases hS : sameB k k i i t ⟨#[]⟩ c c s s sd sd q q p p al al st st en en ra (keptR al ra) sh (keptS al sh) (keptC al cz.length)
  · rw [hS] at SM
    rw [Bool.and_false, Bool.and_false]
    exact refRight_nosame k i t c s sd q p al st en ra sh a cz.length cap k i ⟨#[]⟩ c s sd q p al st en (keptR al ra) (keptS al sh) cv w hk KP SM
  rw [hS] at SM
  cases hv : vldB i
  · rw [Bool.false_and]
    exact refRight_noid k i t c s sd q p al st en ra sh a cz.length cap k i ⟨#[]⟩ c s sd q p al st en (keptR al ra) (keptS al sh) cv w hk KP SM hv zi
  rw [Bool.true_and, Bool.and_true]
  subst k1
  exact refRight_new 1 i t c s sd q p al st en ra sh a cz.length cap 1 i ⟨#[]⟩ c s sd q p al st en (keptR al ra) (keptS al sh) cv w hk KP SM hv zi rfl zc zs _ _ (fun h1 h2 w1 b => by
    rw [inB_true] at h1 h2
    exact refWhole_at 1 i t c s sd q p al st en ra sh a cz.length cap (curB cz) w1 (fun _ => by omega) (fun w2 b2 => ref3Right_any cz _ w2 (hr.below (b.trans (b2.mono b.size)))))
theorem refRight_plainc (k : Int) (i t c s : ByteArray) (sd q p al st en ra sh : Int) (a : Option Addr) (cap : Nat) (cz : List Int) (w : World) (zi : i.size ≤ 100000) (zt : t.size ≤ 100000) (k1 : k ≠ 1) (k3 : k ≠ 3) (h15 : 1 ≤ k ∧ k ≤ 5) :
    Calls Tryz.prog 11 #[.agg #[.int .i64 k, .string i, .string t, .string c, .string s, .int .i64 sd, .int .i64 q, .int .i64 p, .int .i64 al, .int .i64 st, .int .i64 en, .int .i64 ra, .int .i64 sh, .slice a cz.length cap]] w fun e w' => e = .returned (.bool (rightB k i t c s sd q p al st en ra sh cz.length (curB cz))) ∧ Below w.heap.size w w' := by
  have hk : inB k 1 5 = true := inB_true.2 (by omega)
  have KP := fun w1 => kept_plain k i t c s sd q p al st en ra sh a cz.length cap w1 k1 k3
  have SM : ∀ w1, Below w.heap.size w w1 → _ := fun w1 _ => same_any12 k i t c s sd q p al st en ra sh (.slice a cz.length cap) k i t ⟨#[]⟩ ⟨#[]⟩ 0 0 0 0 0 0 0 0 (.slice none 0 0) (decide (cz.length = 0)) w1 (fun w2 _ => sameI_nil a cz.length cap w2)
  rw [right_plain k1 k3 h15]
  cases hS : sameB k k i i t t c ⟨#[]⟩ s ⟨#[]⟩ sd 0 q 0 p 0 al 0 st 0 en 0 ra 0 sh 0 (decide (cz.length = 0))
  · rw [hS] at SM
    rw [Bool.and_false, Bool.and_false]
    exact refRight_nosame k i t c s sd q p al st en ra sh a cz.length cap k i t ⟨#[]⟩ ⟨#[]⟩ 0 0 0 0 0 0 0 0 (.slice none 0 0) w hk KP SM
  rw [hS] at SM
  cases hv : vldB i
  · rw [Bool.false_and]
    exact refRight_noid k i t c s sd q p al st en ra sh a cz.length cap k i t ⟨#[]⟩ ⟨#[]⟩ 0 0 0 0 0 0 0 0 (.slice none 0 0) w hk KP SM hv zi
  rw [Bool.true_and, Bool.and_true]
  exact refRight_plain k i t c s sd q p al st en ra sh a cz.length cap k i t ⟨#[]⟩ ⟨#[]⟩ 0 0 0 0 0 0 0 0 (.slice none 0 0) w hk KP SM hv zi k1 k3 zt
theorem refRight_amendc (k : Int) (i t c s : ByteArray) (sd q p al st en ra sh : Int) (a : Option Addr) (cap : Nat) (cz : List Int) (w : World) (zi : i.size ≤ 100000) (zt : t.size ≤ 100000) (k3 : k = 3) :
    Calls Tryz.prog 11 #[.agg #[.int .i64 k, .string i, .string t, .string c, .string s, .int .i64 sd, .int .i64 q, .int .i64 p, .int .i64 al, .int .i64 st, .int .i64 en, .int .i64 ra, .int .i64 sh, .slice a cz.length cap]] w fun e w' => e = .returned (.bool (rightB k i t c s sd q p al st en ra sh cz.length (curB cz))) ∧ Below w.heap.size w w' := by
  have hk : inB k 1 5 = true := inB_true.2 (by omega)
  have KP := fun w1 => kept_amend k i t c s sd q p al st en ra sh a cz.length cap w1 k3
  have SM : ∀ w1, Below w.heap.size w w1 → _ := fun w1 _ => same_any12 k i t c s sd q p al st en ra sh (.slice a cz.length cap) k i t ⟨#[]⟩ ⟨#[]⟩ 0 q p 0 0 en 0 0 (.slice none 0 0) (decide (cz.length = 0)) w1 (fun w2 _ => sameI_nil a cz.length cap w2)
  rw [right_amend k3]
  cases hS : sameB k k i i t t c ⟨#[]⟩ s ⟨#[]⟩ sd 0 q q p p al 0 st 0 en en ra 0 sh 0 (decide (cz.length = 0))
  · rw [hS] at SM
    rw [Bool.and_false, Bool.and_false]
    exact refRight_nosame k i t c s sd q p al st en ra sh a cz.length cap k i t ⟨#[]⟩ ⟨#[]⟩ 0 q p 0 0 en 0 0 (.slice none 0 0) w hk KP SM
  rw [hS] at SM
  cases hv : vldB i
  · rw [Bool.false_and]
    exact refRight_noid k i t c s sd q p al st en ra sh a cz.length cap k i t ⟨#[]⟩ ⟨#[]⟩ 0 q p 0 0 en 0 0 (.slice none 0 0) w hk KP SM hv zi
  rw [Bool.true_and, Bool.and_true]
  exact refRight_amend k i t c s sd q p al st en ra sh a cz.length cap k i t ⟨#[]⟩ ⟨#[]⟩ 0 q p 0 0 en 0 0 (.slice none 0 0) w hk KP SM hv zi k3 zt
theorem refRight_any (k : Int) (i t c s : ByteArray) (sd q p al st en ra sh : Int) (a : Option Addr) (cap : Nat) (cz : List Int) (w : World) (hr : Row w (.slice a cz.length cap) cz.length fun i => .int .i64 (cz.getD i 0)) (hz : cz.length ≤ 1000000) (zi : i.size ≤ 100000) (zt : t.size ≤ 100000) (zc : c.size ≤ 100000) (zs : s.size ≤ 100000) :
    Calls Tryz.prog 11 #[.agg #[.int .i64 k, .string i, .string t, .string c, .string s, .int .i64 sd, .int .i64 q, .int .i64 p, .int .i64 al, .int .i64 st, .int .i64 en, .int .i64 ra, .int .i64 sh, .slice a cz.length cap]] w fun e w' => e = .returned (.bool (rightB k i t c s sd q p al st en ra sh cz.length (curB cz))) ∧ Below w.heap.size w w' := by
  by_cases k1 : k = 1
  · by_cases a2 : al = 2
    · refine refRight_newc k i t c s sd q p al st en ra sh a cap cz w hr zi zc zs k1 (.slice a cz.length cap) (fun w1 => ?_) (fun w1 b => ?_)
      · rw [show keptR al ra = 0 by unfold keptR; rw [if_neg (by omega)], show keptS al sh = 0 by unfold keptS; rw [if_neg (by omega)]]
        exact kept_new2 k i t c s sd q p al st en ra sh a cz.length cap w1 k1 a2
      · rw [show keptC al cz.length = true by unfold keptC; rw [if_pos a2]]
        exact sameI_yes (fun i => cz.getD i 0) cz.length _ _ w1 hz (hr.below b) (hr.below b)
    by_cases a3 : al = 3
    · refine refRight_newc k i t c s sd q p al st en ra sh a cap cz w hr zi zc zs k1 (.slice none 0 0) (fun w1 => ?_) (fun w1 b => ?_)
      · rw [show keptR al ra = ra by unfold keptR; rw [if_pos a3], show keptS al sh = 0 by unfold keptS; rw [if_neg (by omega)]]
        exact kept_new3 k i t c s sd q p al st en ra sh a cz.length cap w1 k1 a3
      · rw [show keptC al cz.length = decide (cz.length = 0) by unfold keptC; rw [if_neg a2]]
        exact sameI_nil a cz.length cap w1
    by_cases a4 : al = 4
    · refine refRight_newc k i t c s sd q p al st en ra sh a cap cz w hr zi zc zs k1 (.slice none 0 0) (fun w1 => ?_) (fun w1 b => ?_)
      · rw [show keptR al ra = 0 by unfold keptR; rw [if_neg a3], show keptS al sh = sh by unfold keptS; rw [if_pos a4]]
        exact kept_new4 k i t c s sd q p al st en ra sh a cz.length cap w1 k1 a4
      · rw [show keptC al cz.length = decide (cz.length = 0) by unfold keptC; rw [if_neg a2]]
        exact sameI_nil a cz.length cap w1
    · refine refRight_newc k i t c s sd q p al st en ra sh a cap cz w hr zi zc zs k1 (.slice none 0 0) (fun w1 => ?_) (fun w1 b => ?_)
      · rw [show keptR al ra = 0 by unfold keptR; rw [if_neg a3], show keptS al sh = 0 by unfold keptS; rw [if_neg a4]]
        exact kept_new1 k i t c s sd q p al st en ra sh (.slice a cz.length cap) w1 k1 a2 a3 a4
      · rw [show keptC al cz.length = decide (cz.length = 0) by unfold keptC; rw [if_neg a2]]
        exact sameI_nil a cz.length cap w1
  by_cases k3 : k = 3
  · exact refRight_amendc k i t c s sd q p al st en ra sh a cap cz w zi zt k3
  by_cases h15 : 1 ≤ k ∧ k ≤ 5
  · exact refRight_plainc k i t c s sd q p al st en ra sh a cap cz w zi zt k1 k3 h15
  · rw [show rightB k i t c s sd q p al st en ra sh cz.length (curB cz) = false by unfold rightB; rw [if_neg k1, if_neg k3, if_neg (by omega), Bool.and_false]]
    exact refRight_none k i t c s sd q p al st en ra sh a cz.length cap w (inB_false.2 (by omega))
theorem dg35 : decDigits 35 = [51, 53] := by rw [decDigits_two (by omega) (by omega)]; rfl
theorem dg11 : decDigits 11 = [49, 49] := by rw [decDigits_two (by omega) (by omega)]; rfl
theorem dg41 : decDigits 41 = [52, 49] := by rw [decDigits_two (by omega) (by omega)]; rfl
theorem dg55 : decDigits 55 = [53, 53] := by rw [decDigits_two (by omega) (by omega)]; rfl
theorem dg54 : decDigits 54 = [53, 52] := by rw [decDigits_two (by omega) (by omega)]; rfl
theorem dg38 : decDigits 38 = [51, 56] := by rw [decDigits_two (by omega) (by omega)]; rfl
theorem dg44 : decDigits 44 = [52, 52] := by rw [decDigits_two (by omega) (by omega)]; rfl
theorem dg50 : decDigits 50 = [53, 48] := by rw [decDigits_two (by omega) (by omega)]; rfl
theorem dg1 : decDigits 1 = [49] := by rw [decDigits, dif_pos (by omega)]; rfl
theorem dg500 : decDigits 500 = [53, 48, 48] := by rw [decDigits, dif_neg (by omega), show 500 / 10 = 50 from rfl, dg50]; rfl
theorem dg5001 : decDigits 5001 = [53, 48, 48, 49] := by rw [decDigits, dif_neg (by omega), show 5001 / 10 = 500 from rfl, dg500]; rfl
theorem dg5002 : decDigits 5002 = [53, 48, 48, 50] := by rw [decDigits, dif_neg (by omega), show 5002 / 10 = 500 from rfl, dg500]; rfl
theorem dg5003 : decDigits 5003 = [53, 48, 48, 51] := by rw [decDigits, dif_neg (by omega), show 5003 / 10 = 500 from rfl, dg500]; rfl
theorem dg5004 : decDigits 5004 = [53, 48, 48, 52] := by rw [decDigits, dif_neg (by omega), show 5004 / 10 = 500 from rfl, dg500]; rfl
theorem dg5005 : decDigits 5005 = [53, 48, 48, 53] := by rw [decDigits, dif_neg (by omega), show 5005 / 10 = 500 from rfl, dg500]; rfl
theorem dg5006 : decDigits 5006 = [53, 48, 48, 54] := by rw [decDigits, dif_neg (by omega), show 5006 / 10 = 500 from rfl, dg500]; rfl
theorem refForm_any (k : Int) (i t c s : ByteArray) (sd q p al st en ra sh : Int) (a : Option Addr) (cap : Nat) (L : List Nat) (w : World) (R : RightP ⟨k, i, t, c, s, sd, q, p, al, st, en, ra, sh, L⟩) (hr : Row w (.slice a L.length cap) L.length fun i => .int .i64 ((L.getD i 0 : Nat) : Int)) :
    Calls Tryz.prog 17 #[.agg #[.int .i64 k, .string i, .string t, .string c, .string s, .int .i64 sd, .int .i64 q, .int .i64 p, .int .i64 al, .int .i64 st, .int .i64 en, .int .i64 ra, .int .i64 sh, .slice a L.length cap]] w fun e w' => e = .returned (.string (mk (cat (fieldsP ⟨k, i, t, c, s, sd, q, p, al, st, en, ra, sh, L⟩)))) ∧ Below w.heap.size w w' := by
  obtain ⟨ok, _⟩ := right_allOk R
  rw [cat_flat ok]
  have SZ : ∀ s : ByteArray, vldB s = true → s.size ≤ 600 := fun s h => by
    have := (name_val h).2.1
    rw [size_eq]
    omega
  obtain ⟨r1, r2, r3, r4, r5, r6, r7, r8, r9⟩ := R
  dsimp only at r1 r2 r3 r4 r5 r6 r7 r8 r9
  unfold fieldsP tailF
  dsimp only
  by_cases k1 : k = 1
  · obtain ⟨_, n2, n3, n4, n5, n6, n7⟩ := r6 k1
    obtain ⟨m1, m2, m3⟩ := r5 (.inl k1)
    rw [if_pos k1]
    rcases (show al = 1 ∨ al = 2 ∨ al = 3 ∨ al = 4 by omega) with e | e | e | e
    · rw [if_neg (by omega), if_neg (by omega), if_neg (by omega)]
      refine (refForm_new1 k i t c s sd q p al st en ra sh a L.length cap w r1.1 r1.2 k1 e (SZ _ r2) (SZ _ n2) (SZ _ n3) (by omega) (by omega) (by omega) (by omega) (by omega) (by omega)).mono ?_
      rintro e' w' ⟨rfl, b⟩
      refine ⟨?_, b⟩
      congr 3
      simp [flat, dg35, dg11, dg1, dg55, dg54, dg38, dg44, dg5001, dg5002, dg5003]
    · rw [if_pos e]
      obtain ⟨c1, c2, c3, _⟩ := r7.1 e
      refine (refForm_new2 k i t c s sd q p al st en ra sh a L.length cap L rfl w r1.1 r1.2 k1 e hr c2 c3 (SZ _ r2) (SZ _ n2) (SZ _ n3) (by omega) (by omega) (by omega) (by omega) (by omega) (by omega)).mono ?_
      rintro e' w' ⟨rfl, b⟩
      refine ⟨?_, b⟩
      congr 3
      simp [flat, mk_list, dg35, dg11, dg1, dg55, dg54, dg38, dg44, dg5001, dg5002, dg5003, dg5006]
    · rw [if_neg (by omega), if_pos e]
      have f1 := r8.1 e
      refine (refForm_new3 k i t c s sd q p al st en ra sh a L.length cap w r1.1 r1.2 k1 e (SZ _ r2) (SZ _ n2) (SZ _ n3) (by omega) (by omega) (by omega) (by omega) (by omega) (by omega) (by omega)).mono ?_
      rintro e' w' ⟨rfl, b⟩
      refine ⟨?_, b⟩
      congr 3
      simp [flat, dg35, dg11, dg1, dg55, dg54, dg38, dg44, dg5001, dg5002, dg5003, dg5004]
    · rw [if_neg (by omega), if_neg (by omega), if_pos e]
      have f1 := r9.1 e
      refine (refForm_new4 k i t c s sd q p al st en ra sh a L.length cap w r1.1 r1.2 k1 e (SZ _ r2) (SZ _ n2) (SZ _ n3) (by omega) (by omega) (by omega) (by omega) (by omega) (by omega) (by omega)).mono ?_
      rintro e' w' ⟨rfl, b⟩
      refine ⟨?_, b⟩
      congr 3
      simp [flat, dg35, dg11, dg1, dg55, dg54, dg38, dg44, dg5001, dg5002, dg5003, dg5005]
  obtain ⟨o1, _, _, _, o5, _⟩ := r3 k1
  rw [if_neg k1]
  by_cases k3 : k = 3
  · obtain ⟨m1, m2, m3⟩ := r5 (.inr k3)
    rw [if_pos k3]
    refine (refForm_amend k i t c s sd q p al st en ra sh a L.length cap w r1.1 r1.2 k3 o5 (SZ _ r2) (SZ _ o1) (by omega) (by omega) (by omega)).mono ?_
    rintro e' w' ⟨rfl, b⟩
    refine ⟨?_, b⟩
    congr 3
    simp [flat, dg35, dg11, dg41, dg38, dg44, dg5003]
  · rw [if_neg k3]
    refine (refForm_plain k i t c s sd q p al st en ra sh a L.length cap w r1.1 r1.2 k1 k3 o5 (SZ _ r2) (SZ _ o1)).mono ?_
    rintro e' w' ⟨rfl, b⟩
    refine ⟨?_, b⟩
    congr 3
    simp [flat, dg35, dg11, dg41]
set_option maxHeartbeats 4000000 in
theorem refEncode_yes (k : Int) (i t c s : ByteArray) (sd q p al st en ra sh : Int) (a : Option Addr) (cap : Nat) (L : List Nat) (w : World) (R : RightP ⟨k, i, t, c, s, sd, q, p, al, st, en, ra, sh, L⟩) (hR : rightB k i t c s sd q p al st en ra sh (intsOf L).length (curB (intsOf L)) = true) (hr : Row w (.slice a (intsOf L).length cap) (intsOf L).length fun i => .int .i64 ((intsOf L).getD i 0)) (hz : L.length ≤ 1000000) (zi : i.size ≤ 100000) (zt : t.size ≤ 100000) (zc : c.size ≤ 100000) (zs : s.size ≤ 100000) :
    Calls Tryz.prog 8 #[.agg #[.int .i64 k, .string i, .string t, .string c, .string s, .int .i64 sd, .int .i64 q, .int .i64 p, .int .i64 al, .int .i64 st, .int .i64 en, .int .i64 ra, .int .i64 sh, .slice a (intsOf L).length cap]] w fun e w' => e = .returned (.tuple #[.string (mk (cat (fieldsP ⟨k, i, t, c, s, sd, q, p, al, st, en, ra, sh, L⟩))), .int .i64 0]) ∧ Below w.heap.size w w' := by
  have HB0 : Hid (Below w.heap.size w (boxR w k i t c s sd q p al st en ra sh (.slice a (intsOf L).length cap))) := boxR_below w k i t c s sd q p al st en ra sh (.slice a (intsOf L).length cap)
  have HT0 : Hid (AskAt (boxR w k i t c s sd q p al st en ra sh (.slice a (intsOf L).length cap)) w.heap.size k i t c s sd q p al st en ra sh (.slice a (intsOf L).length cap)) := AskAt.boxR w k i t c s sd q p al st en ra sh (.slice a (intsOf L).length cap)
  have RR := refRight_any k i t c s sd q p al st en ra sh a cap (intsOf L) _ (hr.below HB0.out) (by rw [ints_len]; exact hz) zi zt zc zs
  rw [hR] at RR
  have HFF : Hid (∀ w1, Below w.heap.size w w1 → Calls Tryz.prog 17 #[.agg #[.int .i64 k, .string i, .string t, .string c, .string s, .int .i64 sd, .int .i64 q, .int .i64 p, .int .i64 al, .int .i64 st, .int .i64 en, .int .i64 ra, .int .i64 sh, .slice a (intsOf L).length cap]] w1 fun e w' => e = .returned (.string (mk (cat (fieldsP ⟨k, i, t, c, s, sd, q, p, al, st, en, ra, sh, L⟩)))) ∧ Below w1.heap.size w1 w') := fun w1 b => by
    have h0 := row_ints (hr.below b)
    rw [ints_len] at h0
    have h := refForm_any k i t c s sd q p al st en ra sh a cap L w1 R h0
    rw [← ints_len L] at h
    exact h
  obtain ⟨ok, l64⟩ := right_allOk R
  have hz1 : (mk (cat (fieldsP ⟨k, i, t, c, s, sd, q, p, al, st, en, ra, sh, L⟩))).size ≤ 1000000 := by
    have := cat_len ok
    rw [mk_size]
    omega
  have FD := fun w => refFields_any (mk (cat (fieldsP ⟨k, i, t, c, s, sd, q, p, al, st, en, ra, sh, L⟩))) w hz1
  have fe : ((fieldsL (mk (cat (fieldsP ⟨k, i, t, c, s, sd, q, p, al, st, en, ra, sh, L⟩))).data.toList).2.2 : Int) = 0 := by rw [mk_list, fields_cat12 ok l64]; rfl
  obtain ⟨N, hN⟩ : ∃ N : Int, ((fieldsL (mk (cat (fieldsP ⟨k, i, t, c, s, sd, q, p, al, st, en, ra, sh, L⟩))).data.toList).2.1 : Int) = N := ⟨_, rfl⟩
  have FD' : ∀ w, Calls Tryz.prog 18 #[.string (mk (cat (fieldsP ⟨k, i, t, c, s, sd, q, p, al, st, en, ra, sh, L⟩)))] w fun e w' => ∃ v, e = .returned (.tuple #[v, .int .i64 N, .int .i64 0]) ∧ Below w.heap.size w w' := fun w => (FD w).mono fun e w' ⟨v, h, G⟩ => ⟨v, by rw [h, fe, hN], G.below⟩
  generalize mk (cat (fieldsP ⟨k, i, t, c, s, sd, q, p, al, st, en, ra, sh, L⟩)) = X at *
  clear R hR ok l64 hz1 FD fe hN hr hz zi zt zc zs
  generalize (intsOf L).length = n at *
  go_enter Tryz.func8, Tryz.ntmps8
  go_wp2_with fail
  refine RR.mono ?_
  rintro e w1 ⟨rfl, b1⟩
  have HT1 : Hid (AskAt w1 w.heap.size k i t c s sd q p al st en ra sh (.slice a n cap)) := HT0.out.still b1 HT0.out.lt
  have HB1 : Hid (Below w.heap.size w w1) := HB0.out.trans (b1.mono HB0.out.size)
  obtain ⟨d0, d1, d2, d3, d4, d5, d6, d7, d8, d9, d10, d11, d12, d13⟩ := HT1.out
  have FF := HFF.out w1 HB1.out
  clear RR b1 HFF
  go_wp2_with fail
  refine FF.mono ?_
  rintro e w2 ⟨rfl, b2⟩
  have HB2 : Hid (Below w.heap.size w w2) := HB1.out.trans (b2.mono HB1.out.size)
  clear FF b2 d0 d1 d2 d3 d4 d5 d6 d7 d8 d9 d10 d11 d12 d13
  go_wp2_with fail
  refine (FD' _).mono ?_
  rintro e w3 ⟨v, rfl, b3⟩
  have HB3 : Hid (Below w.heap.size w w3) := HB2.out.trans (b3.mono HB2.out.size)
  clear FD' b3
  go_wp2_with fail
  go_ret2
  exact ⟨rfl, HB3.out⟩
set_option maxHeartbeats 4000000 in
theorem refEncode_no (k : Int) (i t c s : ByteArray) (sd q p al st en ra sh : Int) (a : Option Addr) (cap : Nat) (cz : List Int) (w : World) (hr : Row w (.slice a cz.length cap) cz.length fun i => .int .i64 (cz.getD i 0)) (hR : rightB k i t c s sd q p al st en ra sh cz.length (curB cz) = false) (hz : cz.length ≤ 1000000) (zi : i.size ≤ 100000) (zt : t.size ≤ 100000) (zc : c.size ≤ 100000) (zs : s.size ≤ 100000) :
    Calls Tryz.prog 8 #[.agg #[.int .i64 k, .string i, .string t, .string c, .string s, .int .i64 sd, .int .i64 q, .int .i64 p, .int .i64 al, .int .i64 st, .int .i64 en, .int .i64 ra, .int .i64 sh, .slice a cz.length cap]] w fun e w' => e = .returned (.tuple #[.string ⟨#[]⟩, .int .i64 2]) ∧ Below w.heap.size w w' := by
  have HB0 : Hid (Below w.heap.size w (boxR w k i t c s sd q p al st en ra sh (.slice a cz.length cap))) := boxR_below w k i t c s sd q p al st en ra sh (.slice a cz.length cap)
  have RR := refRight_any k i t c s sd q p al st en ra sh a cap cz _ (hr.below HB0.out) hz zi zt zc zs
  rw [hR] at RR
  clear hR hr hz zi zt zc zs
  generalize cz.length = n at *
  go_enter Tryz.func8, Tryz.ntmps8
  go_wp2_with fail
  refine RR.mono ?_
  rintro e w1 ⟨rfl, b1⟩
  go_wp2_with fail
  go_ret2
  exact ⟨rfl, HB0.out.trans (b1.mono HB0.out.size)⟩
end Go.Proofs.YtepkmbpadhfbmaaGreatDoor
