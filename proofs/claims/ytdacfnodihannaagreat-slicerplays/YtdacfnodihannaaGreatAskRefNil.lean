/-
  The reference's Same of a list of numbers and none; what two asks that are the same have; what a right ask has, kind by kind (plain).
-/
import Derived.Test.YtdacfnodihannaaGreatAskRefSame
import Derived.Test.YtdacfnodihannaaGreatAskRRn
import Derived.Test.YtdacfnodihannaaGreatRefName
import Derived.Test.YtdacfnodihannaaGreatAskRight3
namespace Go.Proofs.YtdacfnodihannaaGreat
open Go.ChangeShapes Go.WideShapes Go.ChangeAt Go.RowKit Go.Lib

set_option maxHeartbeats 1000000 in
theorem sameI_nil (a : Option Addr) (n cap : Nat) (w : World) :
    Calls Tryz.prog 32 #[.slice a n cap, .slice none 0 0] w fun e w' => e = .returned (.bool (decide (n = 0))) ∧ Below w.heap.size w w' := by
  by_cases h : n = 0
  · rw [decide_eq_true h]
    subst h
    go_enter Tryz.func32, Tryz.ntmps32
    go_wp2_with fail
    go_loopw [5] (fun c wr => ∃ k : Nat, c = .int .i64 (k : Int) ∧ k = 0 ∧ Below w.heap.size w wr) (fun c _ => (RowKit.intOf c).toNat)
    case atStart => exact ⟨0, rfl, rfl, Below.refl _ _⟩
    case round =>
      obtain ⟨k, rfl, hk, hB⟩ := hrel
      have t : ¬ (k : Int) < 0 := by omega
      go_wp2_with fail
      go_ret
      exact ⟨rfl, hB⟩
  · rw [decide_eq_false h]
    have t : ((n : Int) == 0) = false := beq_false_of_ne (by omega)
    go_enter Tryz.func32, Tryz.ntmps32
    go_wp2_with fail
    go_ret
    exact ⟨rfl, Below.refl _ _⟩
theorem bytes_eq12 (a b : ByteArray) : a.toList = b.toList ↔ a = b := by
  rw [← beq_iff_eq, beq_bytes, decide_eq_true_eq]
theorem sameB_iff {k k' : Int} {i i' t t' c c' s s' : ByteArray} {sd sd' q q' p p' al al' st st' en en' ra ra' sh sh' : Int} {cb : Bool} : sameB k k' i i' t t' c c' s s' sd sd' q q' p p' al al' st st' en en' ra ra' sh sh' cb = true ↔ k = k' ∧ i = i' ∧ t = t' ∧ c = c' ∧ s = s' ∧ sd = sd' ∧ q = q' ∧ p = p' ∧ al = al' ∧ st = st' ∧ en = en' ∧ ra = ra' ∧ sh = sh' ∧ cb = true := by
  unfold sameB
  simp only [Bool.and_eq_true, beq_iff_eq, bytes_eq12]
theorem noOrd_iff {c s : ByteArray} {sd al st : Int} {n : Nat} {ra sh : Int} : noOrdB c s sd al st n ra sh = true ↔ c = ⟨#[]⟩ ∧ s = ⟨#[]⟩ ∧ sd = 0 ∧ al = 0 ∧ st = 0 ∧ n = 0 ∧ ra = 0 ∧ sh = 0 := by
  unfold noOrdB
  simp only [Bool.and_eq_true, beq_iff_eq, empty_is]
  constructor
  · rintro ⟨h1, h2, h3, h4, h5, h6, h7, h8⟩; exact ⟨h1, h2, h3, h4, h5, by omega, h7, h8⟩
  · rintro ⟨h1, h2, h3, h4, h5, h6, h7, h8⟩; exact ⟨h1, h2, h3, h4, h5, by omega, h7, h8⟩
theorem noChg_iff {q p en : Int} : noChgB q p en = true ↔ q = 0 ∧ p = 0 ∧ en = 0 := by
  unfold noChgB
  simp only [Bool.and_eq_true, beq_iff_eq]
theorem right_plain {k : Int} (k1 : k ≠ 1) (k3 : k ≠ 3) (h : 1 ≤ k ∧ k ≤ 5) (i t c s : ByteArray) (sd q p al st en ra sh : Int) (n : Nat) (cb : Bool) :
    rightB k i t c s sd q p al st en ra sh n cb = (vldB i && (vldB t && sameB k k i i t t c ⟨#[]⟩ s ⟨#[]⟩ sd 0 q 0 p 0 al 0 st 0 en 0 ra 0 sh 0 (decide (n = 0)))) := by
  unfold rightB
  rw [if_neg k1, if_neg k3, if_pos (by omega), Bool.eq_iff_iff]
  simp only [Bool.and_eq_true, sameB_iff, noOrd_iff, noChg_iff, decide_eq_true_eq]
  constructor
  · rintro ⟨a1, a2, ⟨a3, a4, a5⟩, a6, a7, a8, a9, a10, a11, a12, a13⟩
    exact ⟨a1, a2, trivial, trivial, trivial, a6, a7, a8, a3, a4, a9, a10, a5, a12, a13, a11⟩
  · rintro ⟨a1, a2, _, _, _, a6, a7, a8, a3, a4, a9, a10, a5, a12, a13, a11⟩
    exact ⟨a1, a2, ⟨a3, a4, a5⟩, a6, a7, a8, a9, a10, a11, a12, a13⟩
theorem right_amend {k : Int} (k3 : k = 3) (i t c s : ByteArray) (sd q p al st en ra sh : Int) (n : Nat) (cb : Bool) :
    rightB k i t c s sd q p al st en ra sh n cb = (vldB i && ((vldB t && (inB q 1 1099511627776 && (inB p 1 1099511627776 && inB en 0 1099511627776))) && sameB k k i i t t c ⟨#[]⟩ s ⟨#[]⟩ sd 0 q q p p al 0 st 0 en en ra 0 sh 0 (decide (n = 0)))) := by
  unfold rightB chgB
  rw [if_neg (by omega), if_pos k3, Bool.eq_iff_iff]
  simp only [Bool.and_eq_true, sameB_iff, noOrd_iff, decide_eq_true_eq]
  constructor
  · rintro ⟨a1, a2, ⟨⟨a3, a4⟩, a5⟩, a6, a7, a8, a9, a10, a11, a12, a13⟩
    exact ⟨a1, ⟨a2, a3, a4, a5⟩, trivial, trivial, trivial, a6, a7, a8, trivial, trivial, a9, a10, trivial, a12, a13, a11⟩
  · rintro ⟨a1, ⟨a2, a3, a4, a5⟩, _, _, _, a6, a7, a8, _, _, a9, a10, _, a12, a13, a11⟩
    exact ⟨a1, a2, ⟨⟨a3, a4⟩, a5⟩, a6, a7, a8, a9, a10, a11, a12, a13⟩
/-- What is kept of a new order's own numbers. -/
def keptR (al ra : Int) : Int := if al = 3 then ra else 0
def keptS (al sh : Int) : Int := if al = 4 then sh else 0
def keptC (al : Int) (n : Nat) : Bool := if al = 2 then true else decide (n = 0)
theorem whole_zero12 {al st en : Int} {cb : Bool} : ((wholeB 1 al st en cb).2 == 0) = true ↔ inB (en - st) 1 1073741824 = true ∧ (al = 2 → cb = true) := by
  unfold wholeB
  rw [beq_iff_eq]
  by_cases h1 : inB (en - st) 1 1073741824 = true
  · rw [if_neg (by simp [h1])]
    by_cases h2 : al = 2
    · cases cb <;> simp [h1, h2]
    · rw [if_neg (fun e => h2 e.2.1)]
      simp [h1, h2]
  · rw [if_pos ⟨rfl, by simpa using h1⟩]
    simp [h1]
theorem right_new {k : Int} (k1 : k = 1) (i t c s : ByteArray) (sd q p al st en ra sh : Int) (n : Nat) (cb : Bool) :
    rightB k i t c s sd q p al st en ra sh n cb = (vldB i && ((inB q 1 1099511627776 && (inB p 1 1099511627776 && (inB en 0 1099511627776 && (vldB c && (vldB s && (inB sd 1 2 && (inB al 1 4 && (inB st 0 1099511627776 && (extraB al ra sh && ((wholeB 1 al st en cb).2 == 0)))))))))) && sameB k k i i t ⟨#[]⟩ c c s s sd sd q q p p al al st st en en ra (keptR al ra) sh (keptS al sh) (keptC al n))) := by
  unfold rightB ordB chgB
  rw [if_pos k1, Bool.eq_iff_iff]
  simp only [Bool.and_eq_true, sameB_iff, whole_zero12, empty_is]
  have AG : algB al ra sh n cb = true ↔ inB al 1 4 = true ∧ extraB al ra sh = true ∧ (al = 2 → cb = true) ∧ ra = keptR al ra ∧ sh = keptS al sh ∧ keptC al n = true := by
    unfold algB extraB keptR keptS keptC
    by_cases a1 : al = 1
    · subst a1
      simp [inB]
      constructor
      · rintro ⟨h1, h2, h3⟩; exact ⟨h2, h3, by omega⟩
      · rintro ⟨h2, h3, h1⟩; exact ⟨by omega, h2, h3⟩
    by_cases a2 : al = 2
    · subst a2
      simp [inB]
    by_cases a3 : al = 3
    · subst a3
      simp [inB]
      constructor
      · rintro ⟨h1, h2, h3⟩; exact ⟨h2, h3, by omega⟩
      · rintro ⟨h2, h3, h1⟩; exact ⟨by omega, h2, h3⟩
    by_cases a4 : al = 4
    · subst a4
      simp [inB]
      constructor
      · rintro ⟨h1, h2, h3⟩; exact ⟨h3, h2, by omega⟩
      · rintro ⟨h2, h3, h1⟩; exact ⟨by omega, h3, h2⟩
    · rw [if_neg a1, if_neg a2, if_neg a3, if_neg a4]
      constructor
      · intro h; simp at h
      · rintro ⟨h, _⟩
        rw [inB_true] at h
        omega
  rw [AG]
  constructor
  · rintro ⟨a1, a2, ⟨a3, a4, a5, ⟨⟨a6, a7⟩, a8⟩, a9, a10⟩, b1, b2, b3, b4, b5, b6⟩
    exact ⟨a1, ⟨a6, a7, a8, a3, a4, a5, b1, a9, b2, a10, b3⟩, trivial, trivial, a2, trivial, trivial, trivial, trivial, trivial, trivial, trivial, trivial, b4, b5, b6⟩
  · rintro ⟨a1, ⟨a6, a7, a8, a3, a4, a5, b1, a9, b2, a10, b3⟩, _, _, a2, _, _, _, _, _, _, _, _, b4, b5, b6⟩
    exact ⟨a1, a2, ⟨a3, a4, a5, ⟨⟨a6, a7⟩, a8⟩, a9, a10⟩, b1, b2, b3, b4, b5, b6⟩
end Go.Proofs.YtdacfnodihannaaGreat
