/-
  Contracts of the law's few and Plain, and of the reference's Same of two asks that are the same.
-/
import Derived.Test.YtdacfnodihannaaGreatAskRight
import Derived.Test.YtdacfnodihannaaGreatSameInts
namespace Go.Proofs.YtdacfnodihannaaGreat
open Go.ChangeShapes Go.WideShapes Go.ChangeAt Go.RowKit Go.Lib

set_option maxHeartbeats 4000000 in
theorem plain_any (k : Int) (i t c s : ByteArray) (sd q p al st en ra sh : Int) (a : Option Addr) (n cap : Nat) (w : World) :
    Calls Tryz.prog 8 #[.agg #[.int .i64 k, .string i, .string t, .string c, .string s, .int .i64 sd, .int .i64 q, .int .i64 p, .int .i64 al, .int .i64 st, .int .i64 en, .int .i64 ra, .int .i64 sh, .slice a n cap]] w fun e w' => e = .returned (.agg #[.int .i64 k, .string i, .string t, .string c, .string s, .int .i64 sd, .int .i64 q, .int .i64 p, .int .i64 al, .int .i64 st, .int .i64 en, .int .i64 ra, .int .i64 sh, .slice a n cap]) ∧ Below w.heap.size w w' := by
  have B := boxA_below w k i t c s sd q p al st en ra sh (.slice a n cap)
  go_enter Tryz.func8, Tryz.ntmps8
  go_wp2_with fail
  refine bodyPost_ret (v := .agg #[.int .i64 k, .string i, .string t, .string c, .string s, .int .i64 sd, .int .i64 q, .int .i64 p, .int .i64 al, .int .i64 st, .int .i64 en, .int .i64 ra, .int .i64 sh, .slice a n cap]) (by simp [results, Tryz.results8, go_sem]) rfl ⟨rfl, ?_⟩
  exact B.alloc (by simp) _
/-- The reference's ask in a block. -/
abbrev boxR (w : World) (k : Int) (i t c s : ByteArray) (sd q p al st en ra sh : Int) (cv : Value) : World := w.alloc (.cells #[.int .i64 k, .string i, .string t, .string c, .string s, .int .i64 sd, .int .i64 q, .int .i64 p, .int .i64 al, .int .i64 st, .int .i64 en, .int .i64 ra, .int .i64 sh, cv] 33)
set_option maxHeartbeats 4000000 in
theorem same_yes12 (k : Int) (i t c s : ByteArray) (sd q p al st en ra sh : Int) (a : Option Addr) (n cap : Nat) (a2 : Option Addr) (cap2 : Nat) (zs : Nat → Int) (w : World) (hn : n ≤ 1000000) (hu : Row w (.slice a n cap) n fun i => .int .i64 (zs i)) (hv : Row w (.slice a2 n cap2) n fun i => .int .i64 (zs i)) :
    Calls Tryz.prog 15 #[.agg #[.int .i64 k, .string i, .string t, .string c, .string s, .int .i64 sd, .int .i64 q, .int .i64 p, .int .i64 al, .int .i64 st, .int .i64 en, .int .i64 ra, .int .i64 sh, .slice a n cap], .agg #[.int .i64 k, .string i, .string t, .string c, .string s, .int .i64 sd, .int .i64 q, .int .i64 p, .int .i64 al, .int .i64 st, .int .i64 en, .int .i64 ra, .int .i64 sh, .slice a2 n cap2]] w fun e w' => e = .returned (.bool true) ∧ Below w.heap.size w w' := by
  have B : Below w.heap.size w (boxR (boxR w k i t c s sd q p al st en ra sh (.slice a n cap)) k i t c s sd q p al st en ra sh (.slice a2 n cap2)) := ((Below.refl _ w).alloc (Nat.le_refl _) _).alloc (by simp) _
  have F := sameI_yes zs n _ _ _ hn (hu.below B) (hv.below B)
  have HB : Hid (Below w.heap.size w (boxR (boxR w k i t c s sd q p al st en ra sh (.slice a n cap)) k i t c s sd q p al st en ra sh (.slice a2 n cap2))) := B
  clear hu hv B
  go_enter Tryz.func15, Tryz.ntmps15
  go_wp2_with fail
  refine F.mono ?_
  rintro e w1 ⟨rfl, b1⟩
  go_wp2_with fail
  go_ret
  exact ⟨rfl, HB.out.trans (b1.mono HB.out.size)⟩
end Go.Proofs.YtdacfnodihannaaGreat
