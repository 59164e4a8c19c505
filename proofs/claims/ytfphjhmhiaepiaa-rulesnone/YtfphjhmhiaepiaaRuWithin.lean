/-
  Contract of rules' within; a roster that takes the names of a list one by one.
-/
import Derived.Test.YtfphjhmhiaepiaaRuMath
import Derived.Test.YtfphjhmhiaepiaaRosterPut
namespace Go.Proofs.Ytfphjhmhiaepiaa.RU
open Go.ChangeShapes Go.WideShapes Go.ChangeAt Go.RowKit Go.Lib

theorem within_any (n l h : Int) (w : World) :
    Calls Try.prog 51 #[.int .i64 n, .int .i64 l, .int .i64 h] w fun e w' => e = .returned (.bool (withB n l h)) ∧ w' = w := by
  unfold withB
  by_cases k : l ≤ n
  · have e : decide (l ≤ n ∧ n ≤ h) = decide (n ≤ h) := decide_eq_decide.2 (by omega)
    rw [e]
    clear e
    go_enter Try.func51, Try.ntmps51
    go_wp2
    go_ret
    exact ⟨rfl, rfl⟩
  · have e : decide (l ≤ n ∧ n ≤ h) = false := decide_eq_false (by omega)
    rw [e]
    clear e
    go_enter Try.func51, Try.ntmps51
    go_wp2
    go_ret
    exact ⟨rfl, rfl⟩
theorem within_is (n l h : Int) (w : World) (b : Bool) (hb : withB n l h = b) :
    Calls Try.prog 51 #[.int .i64 n, .int .i64 l, .int .i64 h] w fun e w' => e = .returned (.bool b) ∧ w' = w := by
  rw [← hb]; exact within_any n l h w

/-- A roster in memory newer than w0, for M names, that holds the first k of N in their order. -/
def NmAt (w0 w : World) (N : Nat → ByteArray) (k M : Nat) : Prop := ∃ S c L, Ros w (w0.heap.size + 1) w0.heap.size S c M (fun i => if i < k then N i else none4) L ∧ Below w0.heap.size w0 w ∧ ∀ b, own (w0.heap.size + 1) w0.heap.size S b → w0.heap.size ≤ b
theorem NmAt.still {w0 w w' : World} {N : Nat → ByteArray} {k M : Nat} (h : NmAt w0 w N k M) (hb : Below w.heap.size w w') : NmAt w0 w' N k M := by
  obtain ⟨S, c, L, h1, h2, h3⟩ := h
  exact ⟨S, c, L, h1.below hb, h2.trans (hb.mono h2.size), h3⟩
theorem NmAt.below {w0 w : World} {N : Nat → ByteArray} {k M : Nat} (h : NmAt w0 w N k M) : Below w0.heap.size w0 w := by
  obtain ⟨S, c, L, h1, h2, h3⟩ := h
  exact h2
theorem nm_new (N : Nat → ByteArray) (M : Nat) (w : World) (h1 : 0 < M) (h2 : M ≤ 1024) : Calls Try.prog 63 #[.int .i64 (M : Int)] w fun e w' =>
    e = .returned (.tuple #[.pointer (some ⟨w.heap.size + 1, 0, none⟩), .int .i64 0]) ∧ NmAt w w' N 0 M := by
  refine (new_yes M w h1 h2).mono ?_
  rintro e w' ⟨rfl, hR, hB, _⟩
  refine ⟨rfl, none, 0, [], ?_, hB, ?_⟩
  · simpa using hR
  · rintro b (rfl | rfl | e)
    · omega
    · omega
    · cases e
theorem nm_name {w0 w : World} {N : Nat → ByteArray} {k M : Nat} (h : NmAt w0 w N k M) (hv : vldB (N k) = false) :
    Calls Try.prog 64 #[.pointer (some ⟨w0.heap.size + 1, 0, none⟩), .string (N k)] w fun e w' => e = .returned (.tuple #[.int .i64 0, .int .i64 43]) ∧ Below w0.heap.size w0 w' := by
  obtain ⟨S, c, L, h1, h2, h3⟩ := h
  exact (put_name h1 (N k) hv).mono fun e w' ⟨a, b⟩ => ⟨a, h2.trans (b.mono h2.size)⟩
theorem nm_twice {w0 w : World} {N : Nat → ByteArray} {k M : Nat} (h : NmAt w0 w N k M) (hk : k < M) (hv : vldB (N k) = true) (he : ∃ j, j < k ∧ N j = N k) :
    Calls Try.prog 64 #[.pointer (some ⟨w0.heap.size + 1, 0, none⟩), .string (N k)] w fun e w' => e = .returned (.tuple #[.int .i64 0, .int .i64 41]) ∧ Below w0.heap.size w0 w' := by
  obtain ⟨S, c, L, h1, h2, h3⟩ := h
  obtain ⟨j, hj, e⟩ := he
  exact (put_twice h1 (N k) hv j (by omega) (by simp [hj, e])).mono fun e w' ⟨a, b⟩ => ⟨a, h2.trans (b.mono h2.size)⟩
theorem nm_ok {w0 w : World} {N : Nat → ByteArray} {k M : Nat} (h : NmAt w0 w N k M) (hk : k < M) (hv : vldB (N k) = true) (hf : ∀ i, i < k → freshB N i = true) (hn : ∀ j, j < k → N j ≠ N k) :
    Calls Try.prog 64 #[.pointer (some ⟨w0.heap.size + 1, 0, none⟩), .string (N k)] w fun e w' => e = .returned (.tuple #[.int .i64 (k : Int), .int .i64 0]) ∧ NmAt w0 w' N (k + 1) M := by
  obtain ⟨S, c, L, h1, h2, h3⟩ := h
  refine (put_ok h1 (N k) hv ?_ k hk (by simp) ?_).mono ?_
  · intro i hi
    by_cases e : i < k
    · simp only [e, if_true]; exact hn i e
    · simp only [e, if_false]; exact fun e' => vld_ne hv e'.symm
  · intro j hj
    simp only [hj, if_true]
    exact vld_ne (fresh_valid (hf j hj))
  · rintro e w' ⟨rfl, S', c', L', hR, hB, hO⟩
    have hs : (upd (fun i => if i < k then N i else none4) k (N k)) = (fun i => if i < k + 1 then N i else none4) := by
      funext j
      by_cases e : j = k
      · subst e; rw [upd_same]; simp
      · rw [upd_other _ _ e]
        by_cases e2 : j < k
        · simp [e2, show j < k + 1 by omega]
        · simp [e2, show ¬ j < k + 1 by omega]
    rw [hs] at hR
    refine ⟨rfl, S', c', L', hR, h2.trans (hB.below h2.size h3), fun b hb => ?_⟩
    rcases hO b hb with h | h
    · exact h3 b h
    · exact Nat.le_trans h2.size h
end Go.Proofs.Ytfphjhmhiaepiaa.RU
