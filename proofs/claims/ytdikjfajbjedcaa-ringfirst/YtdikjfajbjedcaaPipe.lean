/-
  A ring of texts beside two rows: what went in, and what came out.
-/
import Derived.Test.YtdikjfajbjedcaaOwnRows
import Derived.Test.YtdikjfajbjedcaaRingMoveS
namespace Go.Proofs.Ytdikjfajbjedcaa
open Go.ChangeShapes Go.WideShapes Go.ChangeAt Go.RowKit Go.Lib

/-- Of the texts of a the ring at P holds those from M up to T, the row vi the first N, the row vo the first O; all lies in memory that is newer than w0. -/
structure Pipe (w0 : World) (P room : Nat) (w : World) (vi vo : Value) (a : Nat → ByteArray) (N T M O : Nat) : Prop where
  ring : ∃ S C f, RS.Rng w P S C f room (T - M) (fun i => a (M + i)) ∧ ∀ k, RS.own P S k → w0.heap.size ≤ k ∧ vi.ownBlock ≠ some k ∧ vo.ownBlock ≠ some k
  inn : w.ownsRow w0.heap.size 9 1 vi N (vals (fun i => .string (a i)) N)
  out : w.ownsRow w0.heap.size 9 1 vo O (vals (fun i => .string (a i)) O)
  apart : vi.ownBlock = none ∨ vi.ownBlock ≠ vo.ownBlock
  below : Below w0.heap.size w0 w
theorem Pipe.still {w0 w w' : World} {P room N T M O : Nat} {vi vo : Value} {a : Nat → ByteArray} (h : Pipe w0 P room w vi vo a N T M O) (k : Below w.heap.size w w') : Pipe w0 P room w' vi vo a N T M O := by
  obtain ⟨S, C, f, R, o⟩ := h.ring
  exact ⟨⟨S, C, f, R.below k, o⟩, own_below h.inn k, own_below h.out k, h.apart, h.below.trans (k.mono h.below.size)⟩
theorem Pipe.pushed {w0 w w' : World} {P room N T M O C' f' : Nat} {S S' : Option Addr} {vi vo : Value} {a : Nat → ByteArray} {x : ByteArray} (h : Pipe w0 P room w vi vo a N T M O)
    (o : ∀ k, RS.own P S k → w0.heap.size ≤ k ∧ vi.ownBlock ≠ some k ∧ vo.ownBlock ≠ some k)
    (R' : RS.Rng w' P S' C' f' room (T - M + 1) (upd (fun i => a (M + i)) (T - M) x)) (k' : But (RS.own P S) w w') (o' : ∀ k, RS.own P S' k → RS.own P S k ∨ w.heap.size ≤ k) (hN : N ≤ T) (hM : M ≤ T) (hO : O ≤ T) :
    Pipe w0 P room w' vi vo (upd a T x) N (T + 1) M O := by
  have eg : (upd (fun i => a (M + i)) (T - M) x) = fun i => upd a T x (M + i) := by
    funext i
    by_cases e : i = T - M
    · subst e; rw [upd_same, show M + (T - M) = T by omega, upd_same]
    · rw [upd_other _ _ e, upd_other _ _ (by omega)]
  rw [eg, show T - M + 1 = T + 1 - M by omega] at R'
  have ev : ∀ n, n ≤ T → vals (fun i => .string (upd a T x i)) n = vals (fun i => .string (a i)) n := fun n hn => vals_same (fun i hi => by rw [upd_other _ _ (by omega)])
  refine ⟨⟨S', C', f', R', fun k hk => ?_⟩, ?_, ?_, h.apart, h.below.trans (k'.below h.below.size (fun k hk => (o k hk).1))⟩
  · rcases o' k hk with e | e
    · exact o k e
    · refine ⟨Nat.le_trans h.below.size e, fun e' => ?_, fun e' => ?_⟩
      · have := (h.inn.lt k e').2; omega
      · have := (h.out.lt k e').2; omega
  · rw [ev N hN]; exact own_kept h.inn k' (fun g hg hS => (o g hS).2.1 hg)
  · rw [ev O hO]; exact own_kept h.out k' (fun g hg hS => (o g hS).2.2 hg)
theorem Pipe.popped {w0 w w' : World} {P room N T M O C f' n : Nat} {S : Option Addr} {vi vo : Value} {a : Nat → ByteArray} (h : Pipe w0 P room w vi vo a N T M O)
    (o : ∀ k, RS.own P S k → w0.heap.size ≤ k ∧ vi.ownBlock ≠ some k ∧ vo.ownBlock ≠ some k) (hn : T - M = n + 1)
    (R' : RS.Rng w' P S C f' room n (fun i => a (M + (i + 1)))) (k' : But (RS.own P S) w w') : Pipe w0 P room w' vi vo a N T (M + 1) O := by
  have eg : (fun i => a (M + (i + 1))) = fun i => a (M + 1 + i) := by funext i; congr 1; omega
  rw [eg, show n = T - (M + 1) by omega] at R'
  exact ⟨⟨S, C, f', R', o⟩, own_kept h.inn k' (fun g hg hS => (o g hS).2.1 hg), own_kept h.out k' (fun g hg hS => (o g hS).2.2 hg), h.apart, h.below.trans (k'.below h.below.size (fun k hk => (o k hk).1))⟩
theorem Pipe.appIn {w0 w w' : World} {P room N T M O : Nat} {vi vo v' : Value} {a : Nat → ByteArray} (h : Pipe w0 P room w vi vo a N T M O)
    (hg : w.grownBy w' vi.ownBlock) (hat : v'.ownBlock = vi.ownBlock ∨ v'.ownBlock = some w.heap.size) (hown : w'.ownsRow w0.heap.size 9 1 v' (N + 1) (vals (fun i => .string (a i)) N ++ [.string (a N)])) :
    Pipe w0 P room w' v' vo a (N + 1) T M O := by
  obtain ⟨S, C, f, R, o⟩ := h.ring
  have B := But.of_grown hg
  have hz := h.below.size
  rw [← vals_succ (fun i => .string (a i))] at hown
  refine ⟨⟨S, C, f, R.kept B (fun k hk e => (o k hk).2.1 e), fun k hk => ⟨(o k hk).1, fun e => ?_, (o k hk).2.2⟩⟩, hown, own_kept h.out B (fun g hg e => ?_), ?_, h.below.trans (B.below hz (fun k hk => own_ge h.inn k hk))⟩
  · rcases hat with e' | e'
    · exact (o k hk).2.1 (e' ▸ e)
    · rw [e'] at e
      injection e with e
      have := R.there hk; omega
  · rcases h.apart with e' | e'
    · rw [e'] at e; cases e
    · exact e' (e.trans hg.symm)
  · rcases hat with e' | e'
    · rw [e']; exact h.apart
    · right
      rw [e']
      intro e
      have := (h.out.lt _ e.symm).2; omega
theorem Pipe.appOut {w0 w w' : World} {P room N T M O : Nat} {vi vo v' : Value} {a : Nat → ByteArray} (h : Pipe w0 P room w vi vo a N T M O)
    (hg : w.grownBy w' vo.ownBlock) (hat : v'.ownBlock = vo.ownBlock ∨ v'.ownBlock = some w.heap.size) (hown : w'.ownsRow w0.heap.size 9 1 v' (O + 1) (vals (fun i => .string (a i)) O ++ [.string (a O)])) :
    Pipe w0 P room w' vi v' a N T M (O + 1) := by
  obtain ⟨S, C, f, R, o⟩ := h.ring
  have B := But.of_grown hg
  have hz := h.below.size
  rw [← vals_succ (fun i => .string (a i))] at hown
  refine ⟨⟨S, C, f, R.kept B (fun k hk e => (o k hk).2.2 e), fun k hk => ⟨(o k hk).1, (o k hk).2.1, fun e => ?_⟩⟩, own_kept h.inn B (fun g hg e => ?_), hown, ?_, h.below.trans (B.below hz (fun k hk => own_ge h.out k hk))⟩
  · rcases hat with e' | e'
    · exact (o k hk).2.2 (e' ▸ e)
    · rw [e'] at e
      injection e with e
      have := R.there hk; omega
  · rcases h.apart with e' | e'
    · rw [e'] at hg; cases hg
    · exact e' (hg.trans e.symm)
  · rcases hat with e' | e'
    · rw [e']; exact h.apart
    · cases e : vi.ownBlock with
      | none => exact .inl rfl
      | some g =>
        right
        rw [e']
        intro e2
        injection e2 with e2
        have := (h.inn.lt _ e).2; omega
end Go.Proofs.Ytdikjfajbjedcaa
