/-
  How a slice is split (plain): who may get something, two rounds, the pieces.
-/
import Derived.Test.YtbjibmfehphffaaRoLook
import Derived.Test.YtbjibmfehphffaaRoStep
import Derived.Test.YtbjibmfehphffaaGrain
namespace Go.Proofs.Ytbjibmfehphffaa.RO

/-- Who may get something: by which step, and what was got by now. -/
structure Sh where
  pl : Int
  sh : Int
  st : Int
  gt : Int
/-- A piece. -/
structure Pc where
  pl : Int
  q : Int
/-- An offer's step, or 0. -/
def stepOf (lot : Int) (x : Of) : Int := if x.ok = true ∧ stE lot x.lt = 0 ∧ stN lot x.lt ≤ 1099511627776 then stN lot x.lt else 0
def shareO (lot : Int) (x : Of) : List Sh := if stepOf lot x = 0 then [] else [⟨x.pl, x.sh, stepOf lot x, 0⟩]
def sharesL (lot : Int) (xs : List Of) : List Sh := xs.flatMap (shareO lot)
/-- A turn: each gets the greatest number on its step up to u and to what is left. -/
def give (u : Sh → Int) (l : Int) (x : Sh) : Int := flN (min (u x) l) x.st
def rndL (u : Sh → Int) : Int → List Sh → List Sh
  | _, [] => []
  | l, x :: r => ⟨x.pl, x.sh, x.st, x.gt + give u l x⟩ :: rndL u (l - give u l x) r
def rndZ (u : Sh → Int) : Int → List Sh → Int
  | l, [] => l
  | l, x :: r => rndZ u (l - give u l x) r
def pieceO (x : Sh) : List Pc := if 0 < x.gt then [⟨x.pl, x.gt⟩] else []
def piecesL (xs : List Sh) : List Pc := xs.flatMap pieceO
def shn (x : Sh) : Int := x.sh
def splitL (qty lot : Int) (xs : List Of) : List Pc :=
  piecesL (rndL (fun _ => rndZ shn qty (sharesL lot xs)) (rndZ shn qty (sharesL lot xs)) (rndL shn qty (sharesL lot xs)))
/-- The first n offers as a list. -/
def listO (L : Nat → Of) (n : Nat) : List Of := (List.range n).map L
theorem listO_more (L : Nat → Of) (n : Nat) : listO L (n + 1) = listO L n ++ [L n] := by simp [listO, List.range_succ]
theorem listO_length (L : Nat → Of) (n : Nat) : (listO L n).length = n := by simp [listO]
theorem listO_same {L M : Nat → Of} {n : Nat} (h : ∀ i, i < n → L i = M i) : listO L n = listO M n := List.map_congr_left (fun i hi => h i (List.mem_range.1 hi))
theorem sharesL_more (lot : Int) (xs : List Of) (x : Of) : sharesL lot (xs ++ [x]) = sharesL lot xs ++ shareO lot x := by simp [sharesL]
theorem piecesL_more (xs : List Sh) (x : Sh) : piecesL (xs ++ [x]) = piecesL xs ++ pieceO x := by simp [piecesL]
theorem shareO_len (lot : Int) (x : Of) : (shareO lot x).length ≤ 1 := by unfold shareO; split <;> simp
theorem sharesL_len (lot : Int) : ∀ xs : List Of, (sharesL lot xs).length ≤ xs.length
  | [] => Nat.le_refl _
  | x :: r => by
    have := sharesL_len lot r
    have := shareO_len lot x
    simp only [sharesL, List.flatMap_cons, List.length_append, List.length_cons] at *
    omega
theorem rndL_length (u : Sh → Int) : ∀ (l : Int) (xs : List Sh), (rndL u l xs).length = xs.length
  | _, [] => rfl
  | l, x :: r => by simp [rndL, rndL_length u _ r]

/-- What a share's numbers keep to. -/
structure ShOk (x : Sh) : Prop where
  st1 : 1 ≤ x.st
  st2 : x.st ≤ 1099511627776
  sh1 : 0 ≤ x.sh
  sh2 : x.sh ≤ 1099511627776
  gt1 : 0 ≤ x.gt
  gt2 : x.gt ≤ 2199023255552
theorem stN_pos {a b : Int} (a1 : 1 ≤ a) (b1 : 1 ≤ b) (h : stE a b = 0) : 1 ≤ stN a b := by
  unfold stE at h
  unfold stN
  rw [if_neg (by unfold stBad; omega)] at h ⊢
  have hp : 1 ≤ stL a b := by
    have := Nat.lcm_pos (show 0 < a.toNat by omega) (show 0 < b.toNat by omega)
    unfold stL
    omega
  unfold ansE at h
  unfold ansN
  split at h
  · rename_i c; rw [if_pos c]; exact hp
  · exact absurd h (by decide)
theorem wrong_false {x : Of} (h : wrongB x = false) : 1 ≤ x.lt ∧ x.lt ≤ 1099511627776 ∧ 0 ≤ x.fe ∧ x.fe ≤ 10000 ∧ 0 ≤ x.sh ∧ x.sh ≤ 1099511627776 := by
  unfold wrongB inB at h
  simp only [Bool.or_eq_false_iff, Bool.not_eq_false', decide_eq_true_eq] at h
  obtain ⟨⟨a, b⟩, ⟨c, d⟩, e, f⟩ := h
  exact ⟨a, b, c, d, e, f⟩
theorem share_ok {lot : Int} {x : Of} (hl : 1 ≤ lot) (hx : wrongB x = false) (h : stepOf lot x ≠ 0) : ShOk ⟨x.pl, x.sh, stepOf lot x, 0⟩ := by
  obtain ⟨a, b, c, d, e, f⟩ := wrong_false hx
  unfold stepOf at h ⊢
  split at h
  · rename_i k
    rw [if_pos k]
    have := stN_pos hl a k.2.1
    exact ⟨this, k.2.2, e, f, Int.le_refl _, show (0 : Int) ≤ 2199023255552 by omega⟩
  · exact absurd rfl h
theorem give_bd {u : Sh → Int} {l : Int} {x : Sh} (h : ShOk x) (hl : 0 ≤ l) (hu : 0 ≤ u x) : 0 ≤ give u l x ∧ give u l x ≤ l ∧ give u l x ≤ u x ∧ min (u x) l - x.st < give u l x ∧ give u l x % x.st = 0 := by
  have s1 := h.st1
  obtain ⟨m, hm⟩ : ∃ m, min (u x) l = m := ⟨_, rfl⟩
  have m0 : 0 ≤ m ∧ m ≤ l ∧ m ≤ u x := by omega
  unfold give flN
  rw [hm, if_neg (by unfold stepBad; omega)]
  have q0 := Int.emod_nonneg m (show x.st ≠ 0 by omega)
  have q1 := Int.emod_lt_of_pos m (show 0 < x.st by omega)
  have q2 := Int.emod_add_mul_ediv m x.st
  have q3 : 0 ≤ x.st * (m / x.st) := Int.mul_nonneg (by omega) (Int.ediv_nonneg (by omega) (by omega))
  refine ⟨by omega, by omega, by omega, by omega, ?_⟩
  rw [show m - m % x.st = x.st * (m / x.st) by omega]
  exact Int.mul_emod_right _ _
end Go.Proofs.Ytbjibmfehphffaa.RO
