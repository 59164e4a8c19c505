/-
  Contracts of the reference's Add and Neg: sums, and numbers turned about 0, of whole numbers of any length.
-/
import Derived.Test.YtbmmokdccfajmaaRefMinus
namespace Go.Proofs.Ytbmmokdccfajmaa
open Go.ChangeShapes Go.WideShapes Go.ChangeAt Go.RowKit

/-- The sign and the slice are those of the whole number z, of at most n bits, in blocks from B on. -/
def IsNum (B : Nat) (w : World) (s : Bool) (sl : Value) (z : Int) (n : Nat) : Prop := s = decide (z < 0) ∧ ∃ l, Reads B w sl l ∧ Canon l ∧ val l = z.natAbs ∧ l.length ≤ n
theorem IsNum.below {B : Nat} {w w' : World} {s : Bool} {sl : Value} {z : Int} {n : Nat} (h : IsNum B w s sl z n) (hb : Below w.heap.size w w') : IsNum B w' s sl z n := by
  obtain ⟨h0, l, h1, h2⟩ := h
  exact ⟨h0, l, h1.below hb, h2⟩
theorem IsNum.wide {B : Nat} {w : World} {s : Bool} {sl : Value} {z : Int} {n m : Nat} (h : IsNum B w s sl z n) (hm : n ≤ m) : IsNum B w s sl z m := by
  obtain ⟨h0, l, h1, h2, h3, h4⟩ := h
  exact ⟨h0, l, h1, h2, h3, Nat.le_trans h4 hm⟩
theorem bcell2 {W w1 : World} (hb : Below W.heap.size W w1) : (∀ b o, b < W.heap.size → w1.cell? ⟨b, o, none⟩ = W.cell? ⟨b, o, none⟩) ∧ (∀ b o, b < W.heap.size → w1.frozen? ⟨b, o, none⟩ = W.frozen? ⟨b, o, none⟩) :=
  ⟨fun b o h => hb.cell (p := ⟨b, o, none⟩) h, fun b o h => hb.frozen (p := ⟨b, o, none⟩) h⟩

theorem three_new (w : World) (o1 o2 o3 : Obj) : Below w.heap.size w (((w.alloc o1).alloc o2).alloc o3) :=
  (((Below.refl _ _).alloc (Nat.le_refl _) _).alloc (by simp) _).alloc (by simp; omega) _
set_option maxHeartbeats 1000000 in
theorem addR_same {B C : Nat} (s : Bool) (va vb : Value) (x y : List Bool) (w : World) (hv : Reads B w va x) (hu : Reads C w vb y) (hx : x.length ≤ 100000) (hy : y.length ≤ 100000) :
    Calls Try.prog 26 #[.agg #[.bool s, va], .agg #[.bool s, vb]] w fun e w' => ∃ v', e = .returned (.agg #[.bool s, v']) ∧ Below w.heap.size w w' ∧ ∃ l, Reads w.heap.size w' v' l ∧ Canon l ∧ val l = val x + val y ∧ l.length ≤ max x.length y.length + 1 := by
  obtain ⟨a, ca, rfl, _⟩ := id hv
  obtain ⟨b, cb, rfl, _⟩ := id hu
  go_enter Try.func26, Try.ntmps26
  have hne : ¬ w.heap.size = w.heap.size + 1 + 1 := by omega
  have hne' : ¬ w.heap.size + 1 + 1 = w.heap.size := by omega
  go_wp2_with fail
  go_region_held3 (fun w' => w'.cell? ⟨w.heap.size, 0, none⟩ = some (.bool s) ∧ w'.cell? ⟨w.heap.size, 1, none⟩ = some (.slice a x.length ca) ∧ w'.cell? ⟨w.heap.size + 1, 1, none⟩ = some (.slice b y.length cb)) (go_keep) (first
   | (go_at_call 27; refine (plusR_any x y _ _ _ (hv.below ?_) (hu.below ?_) (by omega) (by omega)).mono ?_; exact (three_new _ _ _ _).drew; exact (three_new _ _ _ _).drew; rintro e w1 ⟨v', rfl, hb1, l, r1, r2, r3, r4⟩; obtain ⟨hc, hf⟩ := bcell2 hb1; have q0 := hc w.heap.size 0 (by simp; omega); have q1 := hc w.heap.size 1 (by simp; omega); have q2 := hc (w.heap.size + 1) 1 (by simp); have q3 := hc (w.heap.size + 1 + 1) 0 (by simp); have q4 := hc (w.heap.size + 1 + 1) 1 (by simp); have q5 := hf (w.heap.size + 1 + 1) 0 (by simp); have q6 := hf (w.heap.size + 1 + 1) 1 (by simp); have hz := hb1.size; obtain ⟨a', ca', rfl, _⟩ := id r1; simp at q0 q1 q2 q3 q4 q5 q6 hz r1))
  go_wp2_with fail
  refine bodyPost_ret (v := .agg #[.bool s, .slice a' l.length ca']) (by simp [results, Try.results26, go_sem, q3, q4]) rfl ⟨_, rfl, ?_, l, ?_, r2, r3, r4⟩
  · exact ((((three_new _ _ _ _).drew).trans (hb1.mono (B' := w.heap.size) (by simp; omega))).setCell (by simp; omega) _).setCell (by simp; omega) _
  · exact ((r1.setCell (by simp) _).setCell (by simp) _).mono (by omega)

set_option maxHeartbeats 1000000 in
theorem addR_less {B C : Nat} (s : Bool) (va vb : Value) (x y : List Bool) (w : World) (hv : Reads B w va x) (hu : Reads C w vb y) (hy : y.length ≤ 100000) (hlt : val x < val y) :
    Calls Try.prog 26 #[.agg #[.bool s, va], .agg #[.bool (!s), vb]] w fun e w' => ∃ v', e = .returned (.agg #[.bool (!s), v']) ∧ Below w.heap.size w w' ∧ ∃ l, Reads w.heap.size w' v' l ∧ Canon l ∧ val l = val y - val x ∧ l.length ≤ y.length := by
  obtain ⟨a, ca, rfl, _⟩ := id hv
  obtain ⟨b, cb, rfl, _⟩ := id hu
  have hcm : Hid (cmpI (val x) (val y) = -1) := by show cmpI _ _ = _; unfold cmpI; rw [if_pos hlt]
  have HL : Hid (val x ≤ val y) := Nat.le_of_lt hlt
  clear hlt
  have hsb : (s == !s) = false := by cases s <;> rfl
  go_enter Try.func26, Try.ntmps26
  have hne : ¬ w.heap.size = w.heap.size + 1 + 1 := by omega
  have hne' : ¬ w.heap.size + 1 + 1 = w.heap.size := by omega
  go_wp2_with fail
  refine (cmp_any x y _ _ _ (hv.below (three_new _ _ _ _)) (hu.below (three_new _ _ _ _))).mono ?_
  rintro e w1 ⟨rfl, rfl⟩
  rw [hcm.out]
  go_wp2_with fail
  go_region_held3 (fun w' => w'.cell? ⟨w.heap.size + 1, 0, none⟩ = some (.bool (!s)) ∧ w'.cell? ⟨w.heap.size, 1, none⟩ = some (.slice a x.length ca) ∧ w'.cell? ⟨w.heap.size + 1, 1, none⟩ = some (.slice b y.length cb)) (go_keep) (first
   | (go_at_call 36; refine (minusR_any y x _ _ _ (hu.below ?_) (hv.below ?_) (by omega) HL.out).mono ?_; exact (three_new _ _ _ _).drew; exact (three_new _ _ _ _).drew; rintro e w1 ⟨v', rfl, hb1, l, r1, r2, r3, r4⟩; obtain ⟨hc, hf⟩ := bcell2 hb1; have q0 := hc (w.heap.size + 1) 0 (by simp); have q1 := hc w.heap.size 1 (by simp; omega); have q2 := hc (w.heap.size + 1) 1 (by simp); have q3 := hc (w.heap.size + 1 + 1) 0 (by simp); have q4 := hc (w.heap.size + 1 + 1) 1 (by simp); have q5 := hf (w.heap.size + 1 + 1) 0 (by simp); have q6 := hf (w.heap.size + 1 + 1) 1 (by simp); have hz := hb1.size; obtain ⟨a', ca', rfl, _⟩ := id r1; simp at q0 q1 q2 q3 q4 q5 q6 hz r1))
  go_wp2_with fail
  refine bodyPost_ret (v := .agg #[.bool (!s), .slice a' l.length ca']) (by simp [results, Try.results26, go_sem, q3, q4]) rfl ⟨_, rfl, ?_, l, ?_, r2, r3, r4⟩
  · exact ((((three_new _ _ _ _).drew).trans (hb1.mono (B' := w.heap.size) (by simp; omega))).setCell (by simp; omega) _).setCell (by simp; omega) _
  · exact ((r1.setCell (by simp) _).setCell (by simp) _).mono (by omega)

set_option maxHeartbeats 1000000 in
theorem addR_more {B C : Nat} (s : Bool) (va vb : Value) (x y : List Bool) (w : World) (hv : Reads B w va x) (hu : Reads C w vb y) (hx : x.length ≤ 100000) (hge : val y ≤ val x) :
    Calls Try.prog 26 #[.agg #[.bool s, va], .agg #[.bool (!s), vb]] w fun e w' => ∃ v', e = .returned (.agg #[.bool (s && decide (val y < val x)), v']) ∧ Below w.heap.size w w' ∧ ∃ l, Reads w.heap.size w' v' l ∧ Canon l ∧ val l = val x - val y ∧ l.length ≤ x.length := by
  obtain ⟨a, ca, rfl, _⟩ := id hv
  obtain ⟨b, cb, rfl, _⟩ := id hu
  have hcm : Hid (cmpI (val x) (val y) = 0 ∨ cmpI (val x) (val y) = 1) := by
    show _ ∨ _
    unfold cmpI
    rw [if_neg (by omega)]
    by_cases h : val x = val y <;> simp [h]
  have HL : Hid (val y ≤ val x) := hge
  clear hge
  have hsb : (s == !s) = false := by cases s <;> rfl
  go_enter Try.func26, Try.ntmps26
  go_wp2_with fail
  refine (cmp_any x y _ _ _ (hv.below (three_new _ _ _ _)) (hu.below (three_new _ _ _ _))).mono ?_
  rintro e w1 ⟨rfl, rfl⟩
  have hcz : decide (cmpI (val x) (val y) < 0) = false := by rcases hcm.out with h | h <;> rw [h] <;> rfl
  generalize cmpI (val x) (val y) = cm at *
  go_wp2_with fail
  refine (minusR_any x y _ _ _ (hv.below (three_new _ _ _ _)) (hu.below (three_new _ _ _ _)) (by omega) HL.out).mono ?_
  rintro e w2 ⟨v', rfl, hb1, l, r1, r2, r3, r4⟩
  obtain ⟨a', ca', rfl, _⟩ := id r1
  obtain ⟨hc, hf⟩ := bcell2 hb1
  have q0 := hc w.heap.size 0 (by simp; omega)
  have q3 := hc (w.heap.size + 1 + 1) 0 (by simp)
  have q4 := hc (w.heap.size + 1 + 1) 1 (by simp)
  have q5 := hf (w.heap.size + 1 + 1) 0 (by simp)
  have q6 := hf (w.heap.size + 1 + 1) 1 (by simp)
  have hz := hb1.size
  simp at q0 q3 q4 q5 q6 hz r1
  have hd : Hid (decide (val y < val x) = decide ((0 : Int) < (l.length : Int))) := by
    show _ = _
    have := canon_zero l r2
    have hl := HL.out
    rcases Nat.eq_zero_or_pos l.length with h | h
    · have e := List.eq_nil_of_length_eq_zero h
      have := (canon_zero l r2).1 e
      rw [h]; simp; omega
    · have : ¬ val l = 0 := fun e => by have := (canon_zero l r2).2 e; rw [this] at h; simp at h
      simp [h]; omega
  cases s
  · go_wp2_with fail
    refine bodyPost_ret (v := .agg #[.bool false, .slice a' l.length ca']) (by simp [results, Try.results26, go_sem, q3, q4]) rfl ⟨_, by rw [Bool.false_and], ?_, l, ?_, r2, r3, r4⟩
    · exact (((three_new _ _ _ _).trans (hb1.mono (B' := w.heap.size) (by simp; omega))).setCell (by simp; omega) _).setCell (by simp; omega) _
    · exact ((r1.setCell (by simp) _).setCell (by simp) _).mono (by omega)
  · obtain ⟨ld, hld⟩ : ∃ ld, Hid (decide ((0 : Int) < (l.length : Int)) = ld) := ⟨_, rfl⟩
    have HD : Hid (decide (val y < val x) = ld) := hd.out.trans hld.out
    have hld' : decide ((0 : Int) < (l.length : Int)) = ld := hld.out
    clear hd hld
    cases ld
    · have hnil : Hid (l = []) := List.eq_nil_of_length_eq_zero (by simpa using hld')
      go_wp2_with fail
      refine bodyPost_ret (v := .agg #[.bool false, .slice a' l.length ca']) (by simp [results, Try.results26, go_sem, q3, q4]; exact hnil.out) rfl ⟨_, by rw [Bool.true_and, HD.out], ?_, l, ?_, r2, r3, r4⟩
      · exact (((three_new _ _ _ _).trans (hb1.mono (B' := w.heap.size) (by simp; omega))).setCell (by simp; omega) _).setCell (by simp; omega) _
      · exact ((r1.setCell (by simp) _).setCell (by simp) _).mono (by omega)
    · have hnil : Hid (0 < l.length) := by show 0 < l.length; simpa using hld'
      go_wp2_with fail
      refine bodyPost_ret (v := .agg #[.bool true, .slice a' l.length ca']) (by simp [results, Try.results26, go_sem, q3, q4]; exact hnil.out) rfl ⟨_, by rw [Bool.true_and, HD.out], ?_, l, ?_, r2, r3, r4⟩
      · exact (((three_new _ _ _ _).trans (hb1.mono (B' := w.heap.size) (by simp; omega))).setCell (by simp; omega) _).setCell (by simp; omega) _
      · exact ((r1.setCell (by simp) _).setCell (by simp) _).mono (by omega)

theorem addR_any {B C : Nat} (s t : Bool) (va vb : Value) (x y : Int) (n m : Nat) (w : World) (hv : IsNum B w s va x n) (hu : IsNum C w t vb y m) (hn : n ≤ 100000) (hm : m ≤ 100000) :
    Calls Try.prog 26 #[.agg #[.bool s, va], .agg #[.bool t, vb]] w fun e w' => ∃ r v', e = .returned (.agg #[.bool r, v']) ∧ Below w.heap.size w w' ∧ IsNum w.heap.size w' r v' (x + y) (max n m + 1) := by
  obtain ⟨hs, l, h1, h2, h3, h4⟩ := hv
  obtain ⟨ht, k, k1, k2, k3, k4⟩ := hu
  by_cases e : s = t
  · subst e
    refine (addR_same s va vb l k w h1 k1 (by omega) (by omega)).mono ?_
    rintro e w' ⟨v', rfl, hb, q, q1, q2, q3, q4⟩
    have hxy : decide (x < 0) = decide (y < 0) := hs.symm.trans ht
    refine ⟨_, _, rfl, hb, ?_, q, q1, q2, ?_, by omega⟩
    · rw [hs]
      by_cases c : x < 0
      · have c2 : y < 0 := by simpa [c] using hxy
        simp [c]; omega
      · have c2 : ¬ y < 0 := by simpa [c] using hxy
        simp [c]; omega
    · by_cases c : x < 0
      · have c2 : y < 0 := by simpa [c] using hxy
        omega
      · have c2 : ¬ y < 0 := by simpa [c] using hxy
        omega
  · have et : t = !s := by cases s <;> cases t <;> simp_all
    have hxy : decide (y < 0) = !decide (x < 0) := by rw [← hs, ← ht, et]
    rw [et]
    by_cases hlt : val l < val k
    · refine (addR_less s va vb l k w h1 k1 (by omega) hlt).mono ?_
      rintro e w' ⟨v', rfl, hb, q, q1, q2, q3, q4⟩
      refine ⟨_, _, rfl, hb, ?_, q, q1, q2, ?_, by omega⟩
      · rw [← et, ht]
        by_cases c : x < 0
        · have c2 : ¬ y < 0 := by simpa [c] using hxy
          simp [c2]; omega
        · have c2 : y < 0 := by simpa [c] using hxy
          simp [c2]; omega
      · by_cases c : x < 0
        · have c2 : ¬ y < 0 := by simpa [c] using hxy
          omega
        · have c2 : y < 0 := by simpa [c] using hxy
          omega
    · refine (addR_more s va vb l k w h1 k1 (by omega) (by omega)).mono ?_
      rintro e w' ⟨v', rfl, hb, q, q1, q2, q3, q4⟩
      refine ⟨_, _, rfl, hb, ?_, q, q1, q2, ?_, by omega⟩
      · rw [hs]
        by_cases c : x < 0
        · have c2 : ¬ y < 0 := by simpa [c] using hxy
          simp [c]; omega
        · have c2 : y < 0 := by simpa [c] using hxy
          simp [c]; omega
      · by_cases c : x < 0
        · have c2 : ¬ y < 0 := by simpa [c] using hxy
          omega
        · have c2 : y < 0 := by simpa [c] using hxy
          omega

set_option maxHeartbeats 1000000 in
theorem negR_any {B : Nat} (s : Bool) (va : Value) (x : Int) (n : Nat) (w : World) (hv : IsNum B w s va x n) :
    Calls Try.prog 25 #[.agg #[.bool s, va]] w fun e w' => ∃ r, e = .returned (.agg #[.bool r, va]) ∧ Below w.heap.size w w' ∧ IsNum B w' r va (-x) n := by
  obtain ⟨hs, l, h1, h2, h3, h4⟩ := hv
  obtain ⟨a, ca, rfl, _⟩ := id h1
  have hd : Hid (decide (x ≠ 0) = decide ((0 : Int) < (l.length : Int))) := by
    show _ = _
    rcases Nat.eq_zero_or_pos l.length with h | h
    · have e := List.eq_nil_of_length_eq_zero h
      have := (canon_zero l h2).1 e
      rw [h]; simp; omega
    · have : ¬ val l = 0 := fun e => by have := (canon_zero l h2).2 e; rw [this] at h; simp at h
      simp [h]; omega
  have rr : ∀ r, r = decide (-x < 0) → ∀ W, Below w.heap.size w W → IsNum B W r (.slice a l.length ca) (-x) n := fun r hr W hb => ⟨hr, l, h1.below hb, h2, by rw [h3]; omega, h4⟩
  cases s
  · have hx0 : Hid (decide (-x < 0) = decide ((0 : Int) < (l.length : Int))) := by
      show _ = _
      rw [← hd.out]
      have : ¬ x < 0 := by simpa using hs.symm
      by_cases c : x = 0 <;> simp [c]; omega
    obtain ⟨ld, hld⟩ : ∃ ld, Hid (decide ((0 : Int) < (l.length : Int)) = ld) := ⟨_, rfl⟩
    have hld' : decide ((0 : Int) < (l.length : Int)) = ld := hld.out
    have HD : Hid (decide (-x < 0) = ld) := hx0.out.trans hld.out
    clear hd hx0 hld hs
    cases ld
    · have hnil : Hid (l = []) := List.eq_nil_of_length_eq_zero (by simpa using hld')
      go_enter Try.func25, Try.ntmps25
      go_wp2
      refine bodyPost_ret (v := .agg #[.bool false, .slice a l.length ca]) (by simp [results, Try.results25, go_sem]; exact hnil.out) rfl ⟨_, rfl, ?_⟩
      refine ⟨?_, rr false HD.out.symm _ ?_⟩ <;> exact ((Below.refl _ _).alloc (Nat.le_refl _) _).alloc (by simp) _
    · have hnil : Hid (0 < l.length) := by show 0 < l.length; simpa using hld'
      go_enter Try.func25, Try.ntmps25
      go_wp2
      refine bodyPost_ret (v := .agg #[.bool true, .slice a l.length ca]) (by simp [results, Try.results25, go_sem]; exact hnil.out) rfl ⟨_, rfl, ?_⟩
      refine ⟨?_, rr true HD.out.symm _ ?_⟩ <;> exact ((Below.refl _ _).alloc (Nat.le_refl _) _).alloc (by simp) _
  · have hx0 : Hid (decide (-x < 0) = false) := by
      show _ = _
      have : x < 0 := by simpa using hs.symm
      simp; omega
    clear hd hs
    go_enter Try.func25, Try.ntmps25
    go_wp2
    refine bodyPost_ret (v := .agg #[.bool false, .slice a l.length ca]) (by simp [results, Try.results25, go_sem]) rfl ⟨_, rfl, ?_⟩
    refine ⟨?_, rr false hx0.out.symm _ ?_⟩ <;> exact ((Below.refl _ _).alloc (Nat.le_refl _) _).alloc (by simp) _
end Go.Proofs.Ytbmmokdccfajmaa
