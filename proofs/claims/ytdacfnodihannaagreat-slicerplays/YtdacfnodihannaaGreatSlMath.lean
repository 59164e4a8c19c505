/-
  A slicer's order in plain words: what it keeps to, what an amendment makes of it, how much should be out; a target is from nothing to all and never falls.
-/
import Derived.Test.YtdacfnodihannaaGreatAskRight3
import Derived.Test.YtdacfnodihannaaGreatPaMath
import Derived.Test.YtdacfnodihannaaGreatFlMath
import Derived.Test.YtdacfnodihannaaGreatBeMath
namespace Go.Proofs.YtdacfnodihannaaGreat.SL

/-- An order as a slicer holds it, and what the market had traded when it was made. -/
structure Sl where
  k : Int
  i : ByteArray
  t : ByteArray
  c : ByteArray
  s : ByteArray
  sd : Int
  q : Int
  p : Int
  al : Int
  st : Int
  en : Int
  ra : Int
  sh : Int
  z : List Int
  fr : Int
/-- What it keeps to. -/
structure Good (x : Sl) : Prop where
  q1 : 1 ≤ x.q
  q2 : x.q ≤ 1099511627776
  st0 : 0 ≤ x.st
  st1 : x.st ≤ 1099511627776
  en0 : 0 ≤ x.en
  en1 : x.en ≤ 1099511627776
  s1 : 1 ≤ x.en - x.st
  s2 : x.en - x.st ≤ 1073741824
  al : x.al = 1 ∨ x.al = 2 ∨ x.al = 3 ∨ x.al = 4
  z2 : x.al = 2 → curB x.z = true
  z0 : x.al ≠ 2 → x.z = []
  r3 : x.al = 3 → 1 ≤ x.ra ∧ x.ra ≤ 10000
  r0 : x.al ≠ 3 → x.ra = 0
  h4 : x.al = 4 → 1 ≤ x.sh ∧ x.sh ≤ 1099511627776
  h0 : x.al ≠ 4 → x.sh = 0
  f0 : 0 ≤ x.fr
  f1 : x.fr ≤ 4611686018427387904
/-- It may be made. -/
def newB (x : Sl) : Bool := (x.k == 1) && (rightB x.k x.i x.t x.c x.s x.sd x.q x.p x.al x.st x.en x.ra x.sh x.z.length (curB x.z) && inB x.fr 0 4611686018427387904)
theorem good_of {x : Sl} (h : newB x = true) : Good x := by
  unfold newB at h
  simp only [Bool.and_eq_true, beq_iff_eq] at h
  obtain ⟨hk, hr, hf⟩ := h
  rw [inB_true] at hf
  unfold rightB ordB chgB at hr
  rw [if_pos hk] at hr
  simp only [Bool.and_eq_true, inB_true] at hr
  obtain ⟨_, _, ⟨_, _, _, ⟨⟨hq, hp⟩, he⟩, hs, hd⟩, ha⟩ := hr
  unfold algB at ha
  by_cases a1 : x.al = 1
  · rw [if_pos a1] at ha
    simp only [Bool.and_eq_true, beq_iff_eq] at ha
    have hz : x.z = [] := List.eq_nil_of_length_eq_zero (by omega)
    exact ⟨hq.1, hq.2, hs.1, hs.2, he.1, he.2, hd.1, hd.2, .inl a1, fun e => absurd e (by omega), fun _ => hz, fun e => absurd e (by omega), fun _ => ha.2.1, fun e => absurd e (by omega), fun _ => ha.2.2, hf.1, hf.2⟩
  rw [if_neg a1] at ha
  by_cases a2 : x.al = 2
  · rw [if_pos a2] at ha
    simp only [Bool.and_eq_true, beq_iff_eq] at ha
    exact ⟨hq.1, hq.2, hs.1, hs.2, he.1, he.2, hd.1, hd.2, .inr (.inl a2), fun _ => ha.1, fun e => absurd a2 e, fun e => absurd e (by omega), fun _ => ha.2.1, fun e => absurd e (by omega), fun _ => ha.2.2, hf.1, hf.2⟩
  rw [if_neg a2] at ha
  by_cases a3 : x.al = 3
  · rw [if_pos a3] at ha
    simp only [Bool.and_eq_true, beq_iff_eq, inB_true] at ha
    have hz : x.z = [] := List.eq_nil_of_length_eq_zero (by omega)
    exact ⟨hq.1, hq.2, hs.1, hs.2, he.1, he.2, hd.1, hd.2, .inr (.inr (.inl a3)), fun e => absurd e (by omega), fun _ => hz, fun _ => ha.2.1, fun e => absurd a3 e, fun e => absurd e (by omega), fun _ => ha.2.2, hf.1, hf.2⟩
  rw [if_neg a3] at ha
  by_cases a4 : x.al = 4
  · rw [if_pos a4] at ha
    simp only [Bool.and_eq_true, beq_iff_eq, inB_true] at ha
    have hz : x.z = [] := List.eq_nil_of_length_eq_zero (by omega)
    exact ⟨hq.1, hq.2, hs.1, hs.2, he.1, he.2, hd.1, hd.2, .inr (.inr (.inr a4)), fun e => absurd e (by omega), fun _ => hz, fun e => absurd e (by omega), fun _ => ha.2.1, fun _ => ha.2.2, fun e => absurd a4 e, hf.1, hf.2⟩
  · rw [if_neg a4] at ha
    exact absurd ha (by decide)

/-- An amendment's error; the order behind it. -/
def amE (x : Sl) (q p en : Int) : Int := if chgB q p en then (if inB (en - x.st) 1 1073741824 then 0 else 282) else 2
def amX (x : Sl) (q p en : Int) : Sl := if amE x q p en = 0 then { x with q := q, p := p, en := en } else x
theorem amX_no {x : Sl} {q p en : Int} (h : amE x q p en ≠ 0) : amX x q p en = x := by unfold amX; rw [if_neg h]
theorem amX_yes {x : Sl} {q p en : Int} (h : amE x q p en = 0) : amX x q p en = { x with q := q, p := p, en := en } := by unfold amX; rw [if_pos h]
theorem Good.amend {x : Sl} (h : Good x) (q p en : Int) : Good (amX x q p en) := by
  unfold amX
  split
  · rename_i e
    unfold amE chgB at e
    split at e
    · rename_i c
      split at e
      · rename_i d
        simp only [Bool.and_eq_true, inB_true] at c d
        exact ⟨c.1.1.1, c.1.1.2, h.st0, h.st1, c.2.1, c.2.2, d.1, d.2, h.al, h.z2, h.z0, h.r3, h.r0, h.h4, h.h0, h.f0, h.f1⟩
      · exact absurd e (by decide)
    · exact absurd e (by decide)
  · exact h

/-- What is asked for may be asked. -/
def askB (x : Sl) (nw v d : Int) : Bool := inB nw 0 1099511627776 && (inB v x.fr 4611686018427387904 && inB d 0 x.q)
def tgE (x : Sl) (nw v d : Int) : Int := if askB x nw v d then 0 else 2
/-- How much should be out of an order that has begun. -/
def outN (x : Sl) (nw v d : Int) : Int :=
  if x.al = 2 then targetOf (fun i => x.z.getD i 0) x.z.length x.q (PA.gone x.st x.en nw) (x.en - x.st)
  else if x.al = 3 then FL.tgN x.q x.ra (v - x.fr)
  else if x.al = 4 then BE.tgN x.q x.sh d
  else x.q * PA.gone x.st x.en nw / (x.en - x.st)
def tgN (x : Sl) (nw v d : Int) : Int := if askB x nw v d then (if nw < x.st then 0 else outN x nw v d) else 0
def glE (x : Sl) (nw v d lot : Int) : Int := if askB x nw v d then PA.goE (tgN x nw v d) lot x.q else 2
def glN (x : Sl) (nw v d lot : Int) : Int := if askB x nw v d then PA.goN (tgN x nw v d) lot x.q else 0
theorem ask_of {x : Sl} {nw v d : Int} (h : askB x nw v d = true) : (0 ≤ nw ∧ nw ≤ 1099511627776) ∧ (x.fr ≤ v ∧ v ≤ 4611686018427387904) ∧ 0 ≤ d ∧ d ≤ x.q := by
  unfold askB at h
  simp only [Bool.and_eq_true, inB_true] at h
  exact h
theorem of_ask {x : Sl} {nw v d : Int} (h1 : 0 ≤ nw ∧ nw ≤ 1099511627776) (h2 : x.fr ≤ v ∧ v ≤ 4611686018427387904) (h3 : 0 ≤ d ∧ d ≤ x.q) : askB x nw v d = true := by
  unfold askB
  rw [inB_true.2 h1, inB_true.2 h2, inB_true.2 h3]; rfl
theorem Good.fine {x : Sl} (h : Good x) {nw : Int} (n0 : 0 ≤ nw) (n1 : nw ≤ 1099511627776) : PA.Fine x.q x.st x.en nw :=
  ⟨by have := h.q1; omega, h.q2, h.st0, h.st1, h.en0, h.en1, n0, n1, h.s1, h.s2⟩
theorem Good.flow {x : Sl} (h : Good x) (a : x.al = 3) {v : Int} (v0 : x.fr ≤ v) (v1 : v ≤ 4611686018427387904) : FL.Fine x.q x.ra (v - x.fr) :=
  ⟨by have := h.q1; omega, h.q2, by have := (h.r3 a).1; omega, (h.r3 a).2, by omega, by have := h.f0; omega⟩
theorem Good.berg {x : Sl} (h : Good x) (a : x.al = 4) {d : Int} (d0 : 0 ≤ d) (d1 : d ≤ x.q) : BE.fineB x.q x.sh d = true :=
  BE.of_fine (BE.two_of (by unfold BE.twoB; rw [BE.inB_yes (by have := h.q1; omega) h.q2, BE.inB_yes (h.h4 a).1 (h.h4 a).2]; rfl)) d0 d1
theorem Good.curve {x : Sl} (h : Good x) (a : x.al = 2) : Curve (fun i => x.z.getD i 0) x.z.length := (curve_iff x.z).2 (h.z2 a)
/-- An even share of a quantity. -/
theorem even_bd {q g s : Int} (q0 : 0 ≤ q) (g0 : 0 ≤ g) (g1 : g ≤ s) (s0 : 0 < s) : 0 ≤ q * g / s ∧ q * g / s ≤ q := share_bd q0 g0 g1 s0
theorem out_bd {x : Sl} (h : Good x) {nw v d : Int} (ha : askB x nw v d = true) : 0 ≤ outN x nw v d ∧ outN x nw v d ≤ x.q := by
  obtain ⟨⟨n0, n1⟩, ⟨v0, v1⟩, d0, d1⟩ := ask_of ha
  have F := h.fine n0 n1
  have q1 := h.q1
  unfold outN
  by_cases a2 : x.al = 2
  · rw [if_pos a2]
    exact PA.target_bd (h.curve a2) (by omega) (PA.gone_asked F)
  rw [if_neg a2]
  by_cases a3 : x.al = 3
  · rw [if_pos a3]
    have G := h.flow a3 v0 v1
    have b := FL.part_bd G
    unfold FL.tgN
    rw [FL.of_fine G, if_pos rfl]
    omega
  rw [if_neg a3]
  by_cases a4 : x.al = 4
  · rw [if_pos a4]
    have b := (h.h4 a4).1
    unfold BE.tgN
    rw [h.berg a4 d0 d1, if_pos rfl]
    omega
  rw [if_neg a4]
  have b := PA.gone_bd F
  exact even_bd (by omega) b.1 b.2 (by have := h.s1; omega)
theorem tg_bd {x : Sl} (h : Good x) {nw v d : Int} (ha : askB x nw v d = true) : 0 ≤ tgN x nw v d ∧ tgN x nw v d ≤ x.q := by
  have q1 := h.q1
  unfold tgN
  rw [if_pos ha]
  split
  · omega
  · exact out_bd h ha
theorem gone_le {st en n m : Int} (h : n ≤ m) : PA.gone st en n ≤ PA.gone st en m := by unfold PA.gone; omega
theorem out_mono {x : Sl} (h : Good x) {nw v d nw' v' d' : Int} (ha : askB x nw v d = true) (ha' : askB x nw' v' d' = true) (h1 : nw ≤ nw') (h2 : v ≤ v') (h3 : d ≤ d') : outN x nw v d ≤ outN x nw' v' d' := by
  obtain ⟨⟨n0, n1⟩, ⟨v0, v1⟩, d0, d1⟩ := ask_of ha
  obtain ⟨⟨n0', n1'⟩, ⟨v0', v1'⟩, d0', d1'⟩ := ask_of ha'
  have F := h.fine n0 n1
  have q1 := h.q1
  have s1 := h.s1
  have b := PA.gone_bd F
  have m : PA.gone x.st x.en nw ≤ PA.gone x.st x.en nw' := gone_le h1
  unfold outN
  by_cases a2 : x.al = 2
  · rw [if_pos a2, if_pos a2]
    exact PA.target_mono (h.curve a2) (by omega) s1 b.1 m
  rw [if_neg a2, if_neg a2]
  by_cases a3 : x.al = 3
  · rw [if_pos a3, if_pos a3]
    unfold FL.tgN
    rw [FL.of_fine (h.flow a3 v0 v1), FL.of_fine (h.flow a3 v0' v1'), if_pos rfl, if_pos rfl]
    have : FL.vol x.ra (v - x.fr) ≤ FL.vol x.ra (v' - x.fr) := Int.ediv_le_ediv (by omega) (Int.mul_le_mul_of_nonneg_right (by omega) (by have := (h.r3 a3).1; omega))
    omega
  rw [if_neg a3, if_neg a3]
  by_cases a4 : x.al = 4
  · rw [if_pos a4, if_pos a4]
    unfold BE.tgN
    rw [h.berg a4 d0 d1, h.berg a4 d0' d1', if_pos rfl, if_pos rfl]
    omega
  rw [if_neg a4, if_neg a4]
  exact Int.ediv_le_ediv (by omega) (Int.mul_le_mul_of_nonneg_left m (by omega))
theorem tg_mono {x : Sl} (h : Good x) {nw v d nw' v' d' : Int} (ha : askB x nw v d = true) (ha' : askB x nw' v' d' = true) (h1 : nw ≤ nw') (h2 : v ≤ v') (h3 : d ≤ d') : tgN x nw v d ≤ tgN x nw' v' d' := by
  have b := tg_bd h ha'
  by_cases e : nw < x.st
  · have : tgN x nw v d = 0 := by unfold tgN; rw [if_pos ha, if_pos e]
    omega
  · unfold tgN
    rw [if_pos ha, if_pos ha', if_neg e, if_neg (by omega)]
    exact out_mono h ha ha' h1 h2 h3
end Go.Proofs.YtdacfnodihannaaGreat.SL
