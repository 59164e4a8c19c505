/-
  The ring and the reference's ring side by side: what a step makes of both.
-/
import Derived.Test.YtdikjfajbjedcaaRingRef
import Derived.Test.YtdikjfajbjedcaaRingTold
namespace Go.Proofs.Ytdikjfajbjedcaa
open Go.ChangeShapes Go.WideShapes Go.ChangeAt Go.RowKit Go.Lib

/-- The ring at P holds the n things of g, the reference's at Q the m of h, apart from each other and from block o, in which a step's number x lies; all is newer than w0. -/
structure Duo (w0 : World) (P Q room o : Nat) (x : Int) (w : World) (n : Nat) (g : Nat → Int) (m : Nat) (h : Nat → Int) : Prop where
  both : ∃ S C f v, RI.Rng w P S C f room n g ∧ Ref5 w w0.heap.size Q room v m h ∧ (∀ k, RI.own P S k → w0.heap.size ≤ k ∧ k ≠ o ∧ ¬ own5 Q v k) ∧ ∀ k, own5 Q v k → k ≠ o
  cell : w.cell? ⟨o, 1, none⟩ = some (.int .i64 x)
  below : Below w0.heap.size w0 w
theorem Duo.still {w0 w w' : World} {P Q room o n m : Nat} {x : Int} {g h : Nat → Int} (d : Duo w0 P Q room o x w n g m h) (k : Below w.heap.size w w') : Duo w0 P Q room o x w' n g m h := by
  obtain ⟨S, C, f, v, R, F, o1, o2⟩ := d.both
  exact ⟨⟨S, C, f, v, R.below k, F.below k, o1, o2⟩, (k.cell (p := ⟨o, 1, none⟩) (World.block_lt_of_cell? _ _ d.cell)).trans d.cell, d.below.trans (k.mono d.below.size)⟩
/-- What a push answers. -/
def pushE (room n : Nat) : Int := if n < room then 0 else 40
def pushN5 (room n : Nat) : Nat := if n < room then n + 1 else n
def pushG (room n : Nat) (g : Nat → Int) (x : Int) : Nat → Int := if n < room then upd g n x else g
theorem duo_push {w0 w : World} {P Q room o n m : Nat} {x : Int} {g h : Nat → Int} (d : Duo w0 P Q room o x w n g m h) :
    Calls Try.prog 8 #[.pointer (some ⟨P, 0, none⟩), .int .i64 x] w fun e w' => e = .returned (.int .i64 (pushE room n)) ∧ Duo w0 P Q room o x w' (pushN5 room n) (pushG room n g x) m h := by
  obtain ⟨S, C, f, v, R, F, o1, o2⟩ := d.both
  have ho : o < w.heap.size := World.block_lt_of_cell? _ _ d.cell
  by_cases hn : n < room
  · rw [pushE, pushN5, pushG, if_pos hn, if_pos hn, if_pos hn]
    refine (RI.push_ok R hn x).mono fun e w' ⟨he, S', C', f', R', k', o'⟩ => ⟨he, ⟨S', C', f', v, R', F.kept k' (fun i hi e => (o1 i e).2.2 hi), fun k hk => ?_, o2⟩, ?_, d.below.trans (k'.below d.below.size (fun k hk => (o1 k hk).1))⟩
    · rcases o' k hk with e | e
      · exact o1 k e
      · exact ⟨Nat.le_trans d.below.size e, by omega, fun e' => by have := (F.there e').2; omega⟩
    · rw [k'.cell ho (fun e => (o1 o e).2.1 rfl)]; exact d.cell
  · rw [pushE, pushN5, pushG, if_neg hn, if_neg hn, if_neg hn]
    obtain rfl : n = room := by have := R.fits; have := R.capped; omega
    refine (RI.push_full R x).mono fun e w' ⟨he, m0, hw⟩ => ⟨he, ?_⟩
    subst hw
    exact d.still (below_drewN _ _ _)
theorem duo_refPush {w0 w : World} {P Q room o n m : Nat} {x : Int} {g h : Nat → Int} (d : Duo w0 P Q room o x w n g m h) :
    Calls Try.prog 9 #[.pointer (some ⟨Q, 0, none⟩), .int .i64 x] w fun e w' => e = .returned (.int .i64 (pushE room m)) ∧ Duo w0 P Q room o x w' n g (pushN5 room m) (pushG room m h x) := by
  obtain ⟨S, C, f, v, R, F, o1, o2⟩ := d.both
  have ho : o < w.heap.size := World.block_lt_of_cell? _ _ d.cell
  by_cases hn : m < room
  · rw [pushE, pushN5, pushG, if_pos hn, if_pos hn, if_pos hn]
    refine (refPush_ok F hn x).mono fun e w' ⟨he, v', F', k', o'⟩ => ⟨he, ⟨S, C, f, v', R.kept k' (fun i hi e => (o1 i hi).2.2 e), F', fun k hk => ⟨(o1 k hk).1, (o1 k hk).2.1, fun e' => ?_⟩, fun k hk => ?_⟩, ?_, d.below.trans (k'.below d.below.size (fun k hk => (F.there hk).1))⟩
    · rcases o' k e' with e | e
      · exact (o1 k hk).2.2 e
      · have := R.there hk; omega
    · rcases o' k hk with e | e
      · exact o2 k e
      · omega
    · rw [k'.cell ho (fun e => o2 o e rfl)]; exact d.cell
  · rw [pushE, pushN5, pushG, if_neg hn, if_neg hn, if_neg hn]
    obtain rfl : m = room := by have := F.fits; omega
    refine (refPush_full F x).mono fun e w' ⟨he, m0, hw⟩ => ⟨he, ?_⟩
    subst hw
    exact d.still (below_drewN _ _ _)
/-- What a pop and a peek answer. -/
def popX (n : Nat) (g : Nat → Int) : Int := if n = 0 then 0 else g 0
def popE (n : Nat) : Int := if n = 0 then 50 else 0
def popG (n : Nat) (g : Nat → Int) : Nat → Int := if n = 0 then g else fun i => g (i + 1)
theorem duo_pop {w0 w : World} {P Q room o n m : Nat} {x : Int} {g h : Nat → Int} (d : Duo w0 P Q room o x w n g m h) :
    Calls Try.prog 10 #[.pointer (some ⟨P, 0, none⟩)] w fun e w' => e = .returned (.tuple #[.int .i64 (popX n g), .int .i64 (popE n)]) ∧ Duo w0 P Q room o x w' (n - 1) (popG n g) m h := by
  obtain ⟨S, C, f, v, R, F, o1, o2⟩ := d.both
  have ho : o < w.heap.size := World.block_lt_of_cell? _ _ d.cell
  cases n with
  | zero =>
    refine (RI.pop_none R).mono fun e w' ⟨he, hw⟩ => ⟨he, ?_⟩
    subst hw
    exact d
  | succ n =>
    rw [popX, popE, popG, if_neg (by omega), if_neg (by omega), if_neg (by omega)]
    refine (RI.pop_some R).mono fun e w' ⟨he, f', R', k'⟩ => ⟨he, ⟨S, C, f', v, R', F.kept k' (fun i hi e => (o1 i e).2.2 hi), o1, o2⟩, ?_, d.below.trans (k'.below d.below.size (fun k hk => (o1 k hk).1))⟩
    rw [k'.cell ho (fun e => (o1 o e).2.1 rfl)]; exact d.cell
theorem duo_refPop {w0 w : World} {P Q room o n m : Nat} {x : Int} {g h : Nat → Int} (d : Duo w0 P Q room o x w n g m h) :
    Calls Try.prog 11 #[.pointer (some ⟨Q, 0, none⟩)] w fun e w' => e = .returned (.tuple #[.int .i64 (popX m h), .int .i64 (popE m)]) ∧ Duo w0 P Q room o x w' n g (m - 1) (popG m h) := by
  obtain ⟨S, C, f, v, R, F, o1, o2⟩ := d.both
  have ho : o < w.heap.size := World.block_lt_of_cell? _ _ d.cell
  cases m with
  | zero =>
    refine (refPop_none F).mono fun e w' ⟨he, hw⟩ => ⟨he, ?_⟩
    subst hw
    exact d
  | succ m =>
    rw [popX, popE, popG, if_neg (by omega), if_neg (by omega), if_neg (by omega)]
    refine (refPop_some F).mono fun e w' ⟨he, v', F', k', o'⟩ => ⟨he, ⟨S, C, f, v', R.kept k' (fun i hi e => (o1 i hi).2.2 e), F', fun k hk => ⟨(o1 k hk).1, (o1 k hk).2.1, fun e' => ?_⟩, fun k hk => ?_⟩, ?_, d.below.trans (k'.below d.below.size (fun k hk => (F.there hk).1))⟩
    · rcases o' k e' with e | e
      · exact (o1 k hk).2.2 e
      · have := R.there hk; omega
    · rcases o' k hk with e | e
      · exact o2 k e
      · omega
    · rw [k'.cell ho (fun e => o2 o e rfl)]; exact d.cell
theorem duo_peek {w0 w : World} {P Q room o n m : Nat} {x : Int} {g h : Nat → Int} (d : Duo w0 P Q room o x w n g m h) :
    Calls Try.prog 12 #[.pointer (some ⟨P, 0, none⟩)] w fun e w' => e = .returned (.tuple #[.int .i64 (popX n g), .int .i64 (popE n)]) ∧ Duo w0 P Q room o x w' n g m h := by
  obtain ⟨S, C, f, v, R, F, o1, o2⟩ := d.both
  cases n with
  | zero =>
    refine (RI.peek_none R).mono fun e w' ⟨he, hw⟩ => ⟨he, ?_⟩
    subst hw
    exact d
  | succ n =>
    rw [popX, popE, if_neg (by omega), if_neg (by omega)]
    refine (RI.peek_some R (by omega)).mono fun e w' ⟨he, m0, hw⟩ => ⟨he, ?_⟩
    subst hw
    exact d.still (below_drewN _ _ _)
theorem duo_refPeek {w0 w : World} {P Q room o n m : Nat} {x : Int} {g h : Nat → Int} (d : Duo w0 P Q room o x w n g m h) :
    Calls Try.prog 13 #[.pointer (some ⟨Q, 0, none⟩)] w fun e w' => e = .returned (.tuple #[.int .i64 (popX m h), .int .i64 (popE m)]) ∧ Duo w0 P Q room o x w' n g m h := by
  obtain ⟨S, C, f, v, R, F, o1, o2⟩ := d.both
  cases m with
  | zero =>
    refine (refPeek_none F).mono fun e w' ⟨he, hw⟩ => ⟨he, ?_⟩
    subst hw
    exact d
  | succ m =>
    rw [popX, popE, if_neg (by omega), if_neg (by omega)]
    refine (refPeek_some F).mono fun e w' ⟨he, hw⟩ => ⟨he, ?_⟩
    subst hw
    exact d
end Go.Proofs.Ytdikjfajbjedcaa
