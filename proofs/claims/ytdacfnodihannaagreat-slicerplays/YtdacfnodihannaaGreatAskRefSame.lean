/-
  The contract of the reference's Same.
-/
import Derived.Test.YtdacfnodihannaaGreatAskRefWhole
namespace Go.Proofs.YtdacfnodihannaaGreat
open Go.ChangeShapes Go.WideShapes Go.ChangeAt Go.RowKit Go.Lib

/-- Whether two asks are the same. -/
def sameB (k k' : Int) (i i' t t' c c' s s' : ByteArray) (sd sd' q q' p p' al al' st st' en en' ra ra' sh sh' : Int) (cb : Bool) : Bool := (k == k') && ((i.toList == i'.toList) && ((t.toList == t'.toList) && ((c.toList == c'.toList) && ((s.toList == s'.toList) && ((sd == sd') && ((q == q') && ((p == p') && ((al == al') && ((st == st') && ((en == en') && ((ra == ra') && ((sh == sh') && cb))))))))))))
set_option maxRecDepth 100000 in
set_option maxHeartbeats 8000000 in
theorem same_core12 (k : Int) (i t c s : ByteArray) (sd q p al st en ra sh : Int) (cv : Value) (k' : Int) (i' t' c' s' : ByteArray) (sd' q' p' al' st' en' ra' sh' : Int) (cv' : Value) (cb : Bool) (A A' : Array Value) (a0 : A[0]? = some (.int .i64 k)) (a1 : A[1]? = some (.string i)) (a2 : A[2]? = some (.string t)) (a3 : A[3]? = some (.string c)) (a4 : A[4]? = some (.string s)) (a5 : A[5]? = some (.int .i64 sd)) (a6 : A[6]? = some (.int .i64 q)) (a7 : A[7]? = some (.int .i64 p)) (a8 : A[8]? = some (.int .i64 al)) (a9 : A[9]? = some (.int .i64 st)) (a10 : A[10]? = some (.int .i64 en)) (a11 : A[11]? = some (.int .i64 ra)) (a12 : A[12]? = some (.int .i64 sh)) (a13 : A[13]? = some cv) (b0 : A'[0]? = some (.int .i64 k')) (b1 : A'[1]? = some (.string i')) (b2 : A'[2]? = some (.string t')) (b3 : A'[3]? = some (.string c')) (b4 : A'[4]? = some (.string s')) (b5 : A'[5]? = some (.int .i64 sd')) (b6 : A'[6]? = some (.int .i64 q')) (b7 : A'[7]? = some (.int .i64 p')) (b8 : A'[8]? = some (.int .i64 al')) (b9 : A'[9]? = some (.int .i64 st')) (b10 : A'[10]? = some (.int .i64 en')) (b11 : A'[11]? = some (.int .i64 ra')) (b12 : A'[12]? = some (.int .i64 sh')) (b13 : A'[13]? = some cv') (w : World)
    (FC : Calls Tryz.prog 32 #[cv, cv'] ((w.alloc (.cells A 33)).alloc (.cells A' 33)) fun e w' => e = .returned (.bool cb) ∧ Below ((w.alloc (.cells A 33)).alloc (.cells A' 33)).heap.size ((w.alloc (.cells A 33)).alloc (.cells A' 33)) w') :
    Calls Tryz.prog 15 #[.agg A, .agg A'] w fun e w' => e = .returned (.bool (sameB k k' i i' t t' c c' s s' sd sd' q q' p p' al al' st st' en en' ra ra' sh sh' cb)) ∧ Below w.heap.size w w' := by
  have HB : Hid (Below w.heap.size w ((w.alloc (.cells A 33)).alloc (.cells A' 33))) := ((Below.refl _ w).alloc (Nat.le_refl _) _).alloc (by simp) _
  cases h0 : (k == k')
  case false =>
    rw [show sameB k k' i i' t t' c c' s s' sd sd' q q' p p' al al' st st' en en' ra ra' sh sh' cb = false by unfold sameB; simp only [h0, Bool.false_and]]
    clear FC
    go_enter Tryz.func15, Tryz.ntmps15
    go_wp2_with fail
    go_ret
    exact ⟨rfl, HB.out⟩
  cases h1 : (i.toList == i'.toList)
  case false =>
    rw [show sameB k k' i i' t t' c c' s s' sd sd' q q' p p' al al' st st' en en' ra ra' sh sh' cb = false by unfold sameB; simp only [h0, h1, Bool.true_and, Bool.false_and]]
    clear FC
    go_enter Tryz.func15, Tryz.ntmps15
    go_wp2_with fail
    go_ret
    exact ⟨rfl, HB.out⟩
  cases h2 : (t.toList == t'.toList)
  case false =>
    rw [show sameB k k' i i' t t' c c' s s' sd sd' q q' p p' al al' st st' en en' ra ra' sh sh' cb = false by unfold sameB; simp only [h0, h1, h2, Bool.true_and, Bool.false_and]]
    clear FC
    go_enter Tryz.func15, Tryz.ntmps15
    go_wp2_with fail
    go_ret
    exact ⟨rfl, HB.out⟩
  cases h3 : (c.toList == c'.toList)
  case false =>
    rw [show sameB k k' i i' t t' c c' s s' sd sd' q q' p p' al al' st st' en en' ra ra' sh sh' cb = false by unfold sameB; simp only [h0, h1, h2, h3, Bool.true_and, Bool.false_and]]
    clear FC
    go_enter Tryz.func15, Tryz.ntmps15
    go_wp2_with fail
    go_ret
    exact ⟨rfl, HB.out⟩
  cases h4 : (s.toList == s'.toList)
  case false =>
    rw [show sameB k k' i i' t t' c c' s s' sd sd' q q' p p' al al' st st' en en' ra ra' sh sh' cb = false by unfold sameB; simp only [h0, h1, h2, h3, h4, Bool.true_and, Bool.false_and]]
    clear FC
    go_enter Tryz.func15, Tryz.ntmps15
    go_wp2_with fail
    go_ret
    exact ⟨rfl, HB.out⟩
  cases h5 : (sd == sd')
  case false =>
    rw [show sameB k k' i i' t t' c c' s s' sd sd' q q' p p' al al' st st' en en' ra ra' sh sh' cb = false by unfold sameB; simp only [h0, h1, h2, h3, h4, h5, Bool.true_and, Bool.false_and]]
    clear FC
    go_enter Tryz.func15, Tryz.ntmps15
    go_wp2_with fail
    go_ret
    exact ⟨rfl, HB.out⟩
  cases h6 : (q == q')
  case false =>
    rw [show sameB k k' i i' t t' c c' s s' sd sd' q q' p p' al al' st st' en en' ra ra' sh sh' cb = false by unfold sameB; simp only [h0, h1, h2, h3, h4, h5, h6, Bool.true_and, Bool.false_and]]
    clear FC
    go_enter Tryz.func15, Tryz.ntmps15
    go_wp2_with fail
    go_ret
    exact ⟨rfl, HB.out⟩
  cases h7 : (p == p')
  case false =>
    rw [show sameB k k' i i' t t' c c' s s' sd sd' q q' p p' al al' st st' en en' ra ra' sh sh' cb = false by unfold sameB; simp only [h0, h1, h2, h3, h4, h5, h6, h7, Bool.true_and, Bool.false_and]]
    clear FC
    go_enter Tryz.func15, Tryz.ntmps15
    go_wp2_with fail
    go_ret
    exact ⟨rfl, HB.out⟩
  cases h8 : (al == al')
  case false =>
    rw [show sameB k k' i i' t t' c c' s s' sd sd' q q' p p' al al' st st' en en' ra ra' sh sh' cb = false by unfold sameB; simp only [h0, h1, h2, h3, h4, h5, h6, h7, h8, Bool.true_and, Bool.false_and]]
    clear FC
    go_enter Tryz.func15, Tryz.ntmps15
    go_wp2_with fail
    go_ret
    exact ⟨rfl, HB.out⟩
  cases h9 : (st == st')
  case false =>
    rw [show sameB k k' i i' t t' c c' s s' sd sd' q q' p p' al al' st st' en en' ra ra' sh sh' cb = false by unfold sameB; simp only [h0, h1, h2, h3, h4, h5, h6, h7, h8, h9, Bool.true_and, Bool.false_and]]
    clear FC
    go_enter Tryz.func15, Tryz.ntmps15
    go_wp2_with fail
    go_ret
    exact ⟨rfl, HB.out⟩
  cases h10 : (en == en')
  case false =>
    rw [show sameB k k' i i' t t' c c' s s' sd sd' q q' p p' al al' st st' en en' ra ra' sh sh' cb = false by unfold sameB; simp only [h0, h1, h2, h3, h4, h5, h6, h7, h8, h9, h10, Bool.true_and, Bool.false_and]]
    clear FC
    go_enter Tryz.func15, Tryz.ntmps15
    go_wp2_with fail
    go_ret
    exact ⟨rfl, HB.out⟩
  cases h11 : (ra == ra')
  case false =>
    rw [show sameB k k' i i' t t' c c' s s' sd sd' q q' p p' al al' st st' en en' ra ra' sh sh' cb = false by unfold sameB; simp only [h0, h1, h2, h3, h4, h5, h6, h7, h8, h9, h10, h11, Bool.true_and, Bool.false_and]]
    clear FC
    go_enter Tryz.func15, Tryz.ntmps15
    go_wp2_with fail
    go_ret
    exact ⟨rfl, HB.out⟩
  cases h12 : (sh == sh')
  case false =>
    rw [show sameB k k' i i' t t' c c' s s' sd sd' q q' p p' al al' st st' en en' ra ra' sh sh' cb = false by unfold sameB; simp only [h0, h1, h2, h3, h4, h5, h6, h7, h8, h9, h10, h11, h12, Bool.true_and, Bool.false_and]]
    clear FC
    go_enter Tryz.func15, Tryz.ntmps15
    go_wp2_with fail
    go_ret
    exact ⟨rfl, HB.out⟩
  rw [show sameB k k' i i' t t' c c' s s' sd sd' q q' p p' al al' st st' en en' ra ra' sh sh' cb = cb by unfold sameB; simp only [h0, h1, h2, h3, h4, h5, h6, h7, h8, h9, h10, h11, h12, Bool.true_and]]
  go_enter Tryz.func15, Tryz.ntmps15
  go_wp2_with fail
  refine FC.mono ?_
  rintro e w1 ⟨rfl, b1⟩
  go_wp2_with fail
  go_ret
  exact ⟨rfl, HB.out.trans (b1.mono HB.out.size)⟩
theorem same_any12 (k : Int) (i t c s : ByteArray) (sd q p al st en ra sh : Int) (cv : Value) (k' : Int) (i' t' c' s' : ByteArray) (sd' q' p' al' st' en' ra' sh' : Int) (cv' : Value) (cb : Bool) (w : World) (F : ∀ w1, Below w.heap.size w w1 → Calls Tryz.prog 32 #[cv, cv'] w1 fun e w' => e = .returned (.bool cb) ∧ Below w1.heap.size w1 w') :
    Calls Tryz.prog 15 #[.agg #[.int .i64 k, .string i, .string t, .string c, .string s, .int .i64 sd, .int .i64 q, .int .i64 p, .int .i64 al, .int .i64 st, .int .i64 en, .int .i64 ra, .int .i64 sh, cv], .agg #[.int .i64 k', .string i', .string t', .string c', .string s', .int .i64 sd', .int .i64 q', .int .i64 p', .int .i64 al', .int .i64 st', .int .i64 en', .int .i64 ra', .int .i64 sh', cv']] w fun e w' => e = .returned (.bool (sameB k k' i i' t t' c c' s s' sd sd' q q' p p' al al' st st' en en' ra ra' sh sh' cb)) ∧ Below w.heap.size w w' :=
  same_core12 k i t c s sd q p al st en ra sh cv k' i' t' c' s' sd' q' p' al' st' en' ra' sh' cv' cb _ _ rfl rfl rfl rfl rfl rfl rfl rfl rfl rfl rfl rfl rfl rfl rfl rfl rfl rfl rfl rfl rfl rfl rfl rfl rfl rfl rfl rfl w (F _ (((Below.refl _ w).alloc (Nat.le_refl _) _).alloc (by simp) _))
end Go.Proofs.YtdacfnodihannaaGreat
