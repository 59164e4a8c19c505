/-
  The contract of the reference's Right of asks: an ask of which something is set that may not be.
-/
import Derived.Test.YtdacfnodihannaaGreatAskRR0
namespace Go.Proofs.YtdacfnodihannaaGreat
open Go.ChangeShapes Go.WideShapes Go.ChangeAt Go.RowKit Go.Lib
set_option maxRecDepth 100000 in
set_option maxHeartbeats 16000000 in
theorem refRight_nosame (k : Int) (i t c s : ByteArray) (sd q p al st en ra sh : Int) (a : Option Addr) (n cap : Nat) (k' : Int) (i' t' c' s' : ByteArray) (sd' q' p' al' st' en' ra' sh' : Int) (cv' : Value) (w : World) (hk : inB k 1 5 = true) (KP : ∀ w1, Calls Tryz.prog 42 #[.agg #[.int .i64 k, .string i, .string t, .string c, .string s, .int .i64 sd, .int .i64 q, .int .i64 p, .int .i64 al, .int .i64 st, .int .i64 en, .int .i64 ra, .int .i64 sh, .slice a n cap]] w1 fun e' w' => e' = .returned (.agg #[.int .i64 k', .string i', .string t', .string c', .string s', .int .i64 sd', .int .i64 q', .int .i64 p', .int .i64 al', .int .i64 st', .int .i64 en', .int .i64 ra', .int .i64 sh', cv']) ∧ Below w1.heap.size w1 w') (SM : ∀ w1, Below w.heap.size w w1 → Calls Tryz.prog 15 #[.agg #[.int .i64 k, .string i, .string t, .string c, .string s, .int .i64 sd, .int .i64 q, .int .i64 p, .int .i64 al, .int .i64 st, .int .i64 en, .int .i64 ra, .int .i64 sh, .slice a n cap], .agg #[.int .i64 k', .string i', .string t', .string c', .string s', .int .i64 sd', .int .i64 q', .int .i64 p', .int .i64 al', .int .i64 st', .int .i64 en', .int .i64 ra', .int .i64 sh', cv']] w1 fun e' w' => e' = .returned (.bool false) ∧ Below w1.heap.size w1 w') :
    Calls Tryz.prog 22 #[.agg #[.int .i64 k, .string i, .string t, .string c, .string s, .int .i64 sd, .int .i64 q, .int .i64 p, .int .i64 al, .int .i64 st, .int .i64 en, .int .i64 ra, .int .i64 sh, .slice a n cap]] w fun e' w' => e' = .returned (.bool (false)) ∧ Below w.heap.size w w' := by
  have HB0 : Hid (Below w.heap.size w (boxR w k i t c s sd q p al st en ra sh (.slice a n cap))) := boxR_below w k i t c s sd q p al st en ra sh (.slice a n cap)
  have HT : Hid (AskAt (boxR w k i t c s sd q p al st en ra sh (.slice a n cap)) w.heap.size k i t c s sd q p al st en ra sh (.slice a n cap)) := AskAt.boxR w k i t c s sd q p al st en ra sh (.slice a n cap)
  have I0 := fun w => refIn_at hk w
  clear hk
  go_enter Tryz.func22, Tryz.ntmps22
  go_wp2_with fail
  first
    | go_region_with (first
      | (go_at_call_of 41 (Value.int .i64 5); refine (I0 _).mono ?_; rintro e' w1 ⟨rfl, rfl⟩)
      | (go_at_call 42; refine (KP _).mono ?_; rintro e' w2 ⟨rfl, b2⟩; have b2' := below_of_drew b2; have X2 : Hid (AskAt w2 w.heap.size k i t c s sd q p al st en ra sh (.slice a n cap)) := HT.out.still b2' HT.out.lt; have HB2 : Hid (Below w.heap.size w w2) := HB0.out.trans (b2'.mono HB0.out.size); obtain ⟨u0, u1, u2, u3, u4, u5, u6, u7, u8, u9, u10, u11, u12, u13⟩ := X2.out)
      | (go_at_call 15; refine (SM _ HB2.out).mono ?_; rintro e' w3 ⟨rfl, b3⟩; have X3 : Hid (AskAt w3 w.heap.size k i t c s sd q p al st en ra sh (.slice a n cap)) := X2.out.still b3 X2.out.lt; have HB3 : Hid (Below w.heap.size w w3) := HB2.out.trans (b3.mono HB2.out.size); obtain ⟨v0, v1, v2, v3, v4, v5, v6, v7, v8, v9, v10, v11, v12, v13⟩ := X3.out)
      | (fail; go_at_call 43; refine (VI _).mono ?_; rintro e' w4 ⟨rfl, b4⟩; have X4 : Hid (AskAt w4 w.heap.size k i t c s sd q p al st en ra sh (.slice a n cap)) := X3.out.still b4 X3.out.lt; have HB4 : Hid (Below w.heap.size w w4) := HB3.out.trans (b4.mono HB3.out.size); obtain ⟨x0, x1, x2, x3, x4, x5, x6, x7, x8, x9, x10, x11, x12, x13⟩ := X4.out))
    | fail
  all_goals
    go_wp2_with fail
    go_ret
    exact ⟨rfl, HB3.out⟩
end Go.Proofs.YtdacfnodihannaaGreat
