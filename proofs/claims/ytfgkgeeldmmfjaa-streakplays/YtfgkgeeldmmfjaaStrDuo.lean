/-
  A streak beside the reference's list of all executions; what a Note, a Clear and an append make of them.
-/
import Derived.Test.YtfgkgeeldmmfjaaStrRef
import Derived.Test.YtfgkgeeldmmfjaaStreak
namespace Go.Proofs.Ytfgkgeeldmmfjaa
open Go.ChangeShapes Go.WideShapes Go.ChangeAt Go.RowKit Go.Lib

theorem infoF : (Try.prog.info? 32).map (fun i => (i.zero, i.size, i.bytes)) = some (some (.agg #[.int .i64 0, .int .i64 0, .int .i64 0]), 3, 24) := by kernel_rfl
/-- The cells of one execution. -/
def fill3 (x : Int × Int × Int) : List Value := [.int .i64 x.1, .int .i64 x.2.1, .int .i64 x.2.2]
/-- The cells of the first n. -/
def vals3 (f : Nat → Int × Int × Int) : Nat → List Value
  | 0 => []
  | n + 1 => vals3 f n ++ fill3 (f n)
theorem vals3_length (f : Nat → Int × Int × Int) : ∀ n, (vals3 f n).length = n * 3
  | 0 => rfl
  | n + 1 => by simp only [vals3, List.length_append, vals3_length f n, fill3, List.length_cons, List.length_nil]; omega
theorem vals3_at (f : Nat → Int × Int × Int) (j : Nat) (hj : j < 3) : ∀ n i, i < n → (vals3 f n)[i * 3 + j]? = (fill3 (f i))[j]?
  | 0, _, h => absurd h (by omega)
  | n + 1, i, h => by
    have hl := vals3_length f n
    by_cases e : i = n
    · subst e
      rw [vals3, List.getElem?_append_right (by omega), hl, Nat.add_sub_cancel_left]
    · rw [vals3, List.getElem?_append_left (by omega)]
      exact vals3_at f j hj n i (by omega)
theorem vals3_congr {f g : Nat → Int × Int × Int} : ∀ n, (∀ i, i < n → f i = g i) → vals3 f n = vals3 g n
  | 0, _ => rfl
  | n + 1, h => by rw [vals3, vals3, vals3_congr n (fun i hi => h i (by omega)), h n (by omega)]
theorem fills_of_own {w : World} {base : Nat} {e : TypeId} {v : Value} {n : Nat} {f : Nat → Int × Int × Int} (h : w.ownsRow base e 3 v n (vals3 f n)) : Fills w v n f := by
  have hcs := fun g hg => h.cells (g := g) hg
  rcases h.2 with ⟨rfl, rfl⟩ | ⟨g, cap, cur, rfl, _, _, h1, h2, _⟩
  · exact ⟨none, 0, rfl, Nat.le_refl _, by unfold maxLen; omega, fun i hi => absurd hi (by omega)⟩
  · refine ⟨_, cap, rfl, h1, h2, fun i hi => ⟨g, 0, rfl, ?_, ?_, ?_⟩⟩
    · have := hcs g rfl (i * 3 + 0) (.int .i64 (f i).1) (by rw [vals3_at f 0 (by omega) n i hi]; rfl)
      rw [Addr.add_lit] at this
      exact this
    · have := hcs g rfl (i * 3 + 1) (.int .i64 (f i).2.1) (by rw [vals3_at f 1 (by omega) n i hi]; rfl)
      rw [Addr.add_lit] at this
      exact this
    · have := hcs g rfl (i * 3 + 2) (.int .i64 (f i).2.2) (by rw [vals3_at f 2 (by omega) n i hi]; rfl)
      rw [Addr.add_lit] at this
      exact this
/-- The last of the first n, or noughts. -/
def lastOf (f : Nat → Int × Int × Int) (n : Nat) : Int × Int × Int := if n = 0 then (0, 0, 0) else f (n - 1)
/-- A streak that has noted the first n of f. -/
def StrAt (w : World) (P most : Nat) (f : Nat → Int × Int × Int) (n : Nat) : Prop := Str w P most (lastOf f n).1 (lastOf f n).2.1 (lastOf f n).2.2 (runOf f n) (tripB f most n)
theorem lastOf_more (f : Nat → Int × Int × Int) (n : Nat) (y : Int × Int × Int) : lastOf (upd f n y) (n + 1) = y := by
  unfold lastOf
  rw [if_neg (by omega), Nat.add_sub_cancel, upd_same]
theorem StrAt.none {w : World} {P most : Nat} (f : Nat → Int × Int × Int) (h : Str w P most 0 0 0 0 false) : StrAt w P most f 0 := h
/-- Note, by the plain mathematics. -/
theorem note_next {w : World} {P most n : Nat} {f : Nat → Int × Int × Int} (h : StrAt w P most f n) (hm : 2 ≤ most) (hM : most ≤ 1024) (hn : n ≤ 1000) (y : Int × Int × Int) :
    Calls Try.prog 9 #[.pointer (some ⟨P, 0, none⟩), .int .i64 y.1, .int .i64 y.2.1, .int .i64 y.2.2] w fun e w' => e = .returned (.bool (tripB (upd f n y) most (n + 1))) ∧ StrAt w' P most (upd f n y) (n + 1) ∧ But (fun k => k = P) w w' := by
  unfold StrAt at h ⊢
  rw [lastOf_more, tripB_more, runOf_more]
  by_cases h0 : 0 < n
  · have el : lastOf f n = f (n - 1) := by unfold lastOf; rw [if_neg (by omega)]
    rw [el] at h
    by_cases e : y = f (n - 1)
    · rw [if_pos ⟨h0, e⟩]
      rw [← e] at h
      by_cases k : most ≤ runOf f n + 1
      · rw [decide_eq_true k, Bool.or_true]
        exact note_trip h hm k (by have := runOf_le f n; omega)
      · rw [decide_eq_false k, Bool.or_false]
        exact note_same h hM (by omega)
    · rw [if_neg (fun k => e k.2), decide_eq_false (show ¬ most ≤ 1 by omega), Bool.or_false]
      exact note_other h hm y.1 y.2.1 y.2.2 (fun k => e (Prod.ext k.1 (Prod.ext k.2.1 k.2.2)))
  · obtain rfl : n = 0 := by omega
    rw [if_neg (fun k => h0 k.1), decide_eq_false (show ¬ most ≤ 1 by omega), Bool.or_false]
    exact note_first h hm hM y.1 y.2.1 y.2.2

/-- A streak that has noted the first m of g, beside the list of the first n of f; all lies in memory that is newer than w0. -/
structure Duo (w0 : World) (P most : Nat) (w : World) (va : Value) (f : Nat → Int × Int × Int) (n : Nat) (g : Nat → Int × Int × Int) (m : Nat) : Prop where
  str : StrAt w P most g m
  all : w.ownsRow w0.heap.size 32 3 va n (vals3 f n)
  apart : va.ownBlock ≠ some P
  least : w0.heap.size ≤ P
  below : Below w0.heap.size w0 w
theorem Duo.still {w0 w w' : World} {P most n m : Nat} {va : Value} {f g : Nat → Int × Int × Int} (h : Duo w0 P most w va f n g m) (k : Below w.heap.size w w') : Duo w0 P most w' va f n g m :=
  ⟨Str.below h.str k, own_below h.all k, h.apart, h.least, h.below.trans (k.mono h.below.size)⟩
theorem Duo.drewN {w0 w : World} {P most n m : Nat} {va : Value} {f g : Nat → Int × Int × Int} (h : Duo w0 P most w va f n g m) (q : Nat) : Duo w0 P most (w.drewN q) va f n g m := h.still (below_drewN _ _ _)
/-- What a Note or a Clear makes of it. -/
theorem Duo.put {w0 w w' : World} {P most n m m' : Nat} {va : Value} {f g g' : Nat → Int × Int × Int} (h : Duo w0 P most w va f n g m) (s : StrAt w' P most g' m') (k : But (fun k => k = P) w w') : Duo w0 P most w' va f n g' m' :=
  ⟨s, own_kept h.all k (fun b hb e => h.apart (by rw [hb, e])), h.apart, h.least, h.below.trans (k.below h.below.size (fun i hi => by rw [hi]; exact h.least))⟩
/-- The list begins anew. -/
theorem Duo.anew {w0 w : World} {P most n m : Nat} {va : Value} {f g : Nat → Int × Int × Int} (h : Duo w0 P most w va f n g m) : Duo w0 P most w (.slice none 0 0) g 0 g m :=
  ⟨h.str, World.ownsRow_nil _ _ _ _, by simp [Value.ownBlock], h.least, h.below⟩
/-- What an append makes of it. -/
theorem Duo.more {w0 w w' : World} {P most n m : Nat} {va v' : Value} {f g : Nat → Int × Int × Int} {y : Int × Int × Int} (h : Duo w0 P most w va f n g m) (hg : w.grownBy w' va.ownBlock) (hat : v'.ownBlock = va.ownBlock ∨ v'.ownBlock = some w.heap.size)
    (hown : w'.ownsRow w0.heap.size 32 3 v' (n + 1) (vals3 f n ++ fill3 y)) : Duo w0 P most w' v' (upd f n y) (n + 1) g m := by
  have BG := But.of_grown hg
  have hP : ¬ va.ownBlock = some P := h.apart
  have ev : vals3 (upd f n y) (n + 1) = vals3 f n ++ fill3 y := by
    rw [vals3, upd_same, vals3_congr n (fun i hi => upd_other _ _ (by omega))]
  refine ⟨Str.kept h.str BG hP, by rw [ev]; exact hown, ?_, h.least, h.below.trans (BG.below h.below.size (fun k hk => (h.all.lt k hk).1))⟩
  rcases hat with e | e
  · rw [e]; exact h.apart
  · rw [e]
    intro e'
    injection e' with e'
    have := Str.lt h.str
    omega
/-- The cells of one execution that was just laid in a block of its own, behind another block. -/
theorem cell_three_new (w : World) (o : Obj) (y : Int × Int × Int) (t : TypeId) : ∀ j u, (fill3 y)[j]? = some u → ((w.alloc o).alloc (.cells #[.int .i64 y.1, .int .i64 y.2.1, .int .i64 y.2.2] t)).cell? ((⟨w.heap.size + 1, 0, none⟩ : Addr).add j) = some u := by
  intro j u hj
  rw [Addr.add_lit, Nat.zero_add]
  match j, hj with
  | 0, hj => simp [fill3] at hj; subst hj; simp
  | 1, hj => simp [fill3] at hj; subst hj; simp
  | 2, hj => simp [fill3] at hj; subst hj; simp
  | j + 3, hj => simp [fill3] at hj
theorem fill3_one (y : Int × Int × Int) : ∀ u ∈ fill3 y, u.oneCell' = true := by
  intro u hu
  simp only [fill3, List.mem_cons, List.not_mem_nil, or_false] at hu
  rcases hu with rfl | rfl | rfl <;> rfl
end Go.Proofs.Ytfgkgeeldmmfjaa
