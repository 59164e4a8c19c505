/-
  The contract of the reference's Same.
-/
import Derived.Test.YtepkmbpadhfbmaaGreatDoorGQ
namespace Go.Proofs.YtepkmbpadhfbmaaGreatDoor
open Go.ChangeShapes Go.WideShapes Go.ChangeAt Go.RowKit Go.Lib


/-- Whether two asks are the same. -/
def sameB (k k' : Int) (i i' t t' c c' s s' : ByteArray) (sd sd' q q' p p' al al' st st' en en' ra ra' sh sh' : Int) (cb : Bool) : Bool := (k == k') && ((i.toList == i'.toList) && ((t.toList == t'.toList) && ((c.toList == c'.toList) && ((s.toList == s'.toList) && ((sd == sd') && ((q == q') && ((p == p') && ((al == al') && ((st == st') && ((en == en') && ((ra == ra') && ((sh == sh') && cb))))))))))))
set_option maxHeartbeats 8000000 in
theorem same_any12 (k : Int) (i t c s : ByteArray) (sd q p al st en ra sh : Int) (cv : Value) (k' : Int) (i' t' c' s' : ByteArray) (sd' q' p' al' st' en' ra' sh' : Int) (cv' : Value) (cb : Bool) (w : World) (F : ∀ w1, Below w.heap.size w w1 → Calls Tryz.prog 43 #[cv, cv'] w1 fun e w' => e = .returned (.bool cb) ∧ Below w1.heap.size w1 w') :
    Calls Tryz.prog 14 #[.agg #[.int .i64 k, .string i, .string t, .string c, .string s, .int .i64 sd, .int .i64 q, .int .i64 p, .int .i64 al, .int .i64 st, .int .i64 en, .int .i64 ra, .int .i64 sh, cv], .agg #[.int .i64 k', .string i', .string t', .string c', .string s', .int .i64 sd', .int .i64 q', .int .i64 p', .int .i64 al', .int .i64 st', .int .i64 en', .int .i64 ra', .int .i64 sh', cv']] w fun e w' => e = .returned (.bool (sameB k k' i i' t t' c c' s s' sd sd' q q' p p' al al' st st' en en' ra ra' sh sh' cb)) ∧ Below w.heap.size w w' := by
  have B : Below w.heap.size w (boxR (boxR w k i t c s sd q p al st en ra sh cv) k' i' t' c' s' sd' q' p' al' st' en' ra' sh' cv') := ((Below.refl _ w).alloc (Nat.le_refl _) _).alloc (by simp) _
  have FC := F _ B
  have HB : Hid (Below w.heap.size w (boxR (boxR w k i t c s sd q p al st en ra sh cv) k' i' t' c' s' sd' q' p' al' st' en' ra' sh' cv')) := B
  clear F B
  cases h0 : (k == k')
  case false =>
    rw [show sameB k k' i i' t t' c c' s s' sd sd' q q' p p' al al' st st' en en' ra ra' sh sh' cb = false by unfold sameB; simp only [h0, Bool.false_and]]
    clear FC
    go_enter Tryz.func14, Tryz.ntmps14
    go_wp2_with fail
    go_ret
    exact ⟨rfl, HB.out⟩
  cases h1 : (i.toList == i'.toList)
  case false =>
    rw [show sameB k k' i i' t t' c c' s s' sd sd' q q' p p' al al' st st' en en' ra ra' sh sh' cb = false by unfold sameB; simp only [h0, h1, Bool.true_and, Bool.false_and]]
    clear FC
    go_enter Tryz.func14, Tryz.ntmps14
    go_wp2_with fail
    go_ret
    exact ⟨rfl, HB.out⟩
  cases h2 : (t.toList == t'.toList)
  case false =>
    rw [show sameB k k' i i' t t' c c' s s' sd sd' q q' p p' al al' st st' en en' ra ra' sh sh' cb = false by unfold sameB; simp only [h0, h1, h2, Bool.true_and, Bool.false_and]]
    clear FC
    go_enter Tryz.func14, Tryz.ntmps14
    go_wp2_with fail
    go_ret
    exact ⟨rfl, HB.out⟩
  cases h3 : (c.toList == c'.toList)
  case false =>
    rw [show sameB k k' i i' t t' c c' s s' sd sd' q q' p p' al al' st st' en en' ra ra' sh sh' cb = false by unfold sameB; simp only [h0, h1, h2, h3, Bool.true_and, Bool.false_and]]
    clear FC
    go_enter Tryz.func14, Tryz.ntmps14
    go_wp2_with fail
    go_ret
    exact ⟨rfl, HB.out⟩
  cases h4 : (s.toList == s'.toList)
  case false =>
    rw [show sameB k k' i i' t t' c c' s s' sd sd' q q' p p' al al' st st' en en' ra ra' sh sh' cb = false by unfold sameB; simp only [h0, h1, h2, h3, h4, Bool.true_and, Bool.false_and]]
    clear FC
    go_enter Tryz.func14, Tryz.ntmps14
    go_wp2_with fail
    go_ret
    exact ⟨rfl, HB.out⟩
  cases h5 : (sd == sd')
  case false =>
    rw [show sameB k k' i i' t t' c c' s s' sd sd' q q' p p' al al' st st' en en' ra ra' sh sh' cb = false by unfold sameB; simp only [h0, h1, h2, h3, h4, h5, Bool.true_and, Bool.false_and]]
    clear FC
    go_enter Tryz.func14, Tryz.ntmps14
    go_wp2_with fail
    go_ret
    exact ⟨rfl, HB.out⟩
  cases h6 : (q == q')
  case false =>
    rw [show sameB k k' i i' t t' c c' s s' sd sd' q q' p p' al al' st st' en en' ra ra' sh sh' cb = false by unfold sameB; simp only [h0, h1, h2, h3, h4, h5, h6, Bool.true_and, Bool.false_and]]
    clear FC
    go_enter Tryz.func14, Tryz.ntmps14
    go_wp2_with fail
    go_ret
    exact ⟨rfl, HB.out⟩
  cases h7 : (p == p')
  case false =>
    rw [show sameB k k' i i' t t' c c' s s' sd sd' q q' p p' al al' st st' en en' ra ra' sh sh' cb = false by unfold sameB; simp only [h0, h1, h2, h3, h4, h5, h6, h7, Bool.true_and, Bool.false_and]]
    clear FC
    go_enter Tryz.func14, Tryz.ntmps14
    go_wp2_with fail
    go_ret
    exact ⟨rfl, HB.out⟩
  cases h8 : (al == al')
  case false =>
    rw [show sameB k k' i i' t t' c c' s s' sd sd' q q' p p' al al' st st' en en' ra ra' sh sh' cb = false by unfold sameB; simp only [h0, h1, h2, h3, h4, h5, h6, h7, h8, Bool.true_and, Bool.false_and]]
    clear FC
    go_enter Tryz.func14, Tryz.ntmps14
    go_wp2_with fail
    go_ret
    exact ⟨rfl, HB.out⟩
  cases h9 : (st == st')
  case false =>
    rw [show sameB k k' i i' t t' c c' s s' sd sd' q q' p p' al al' st st' en en' ra ra' sh sh' cb = false by unfold sameB; simp only [h0, h1, h2, h3, h4, h5, h6, h7, h8, h9, Bool.true_and, Bool.false_and]]
    clear FC
    go_enter Tryz.func14, Tryz.ntmps14
    go_wp2_with fail
    go_ret
    exact ⟨rfl, HB.out⟩
  cases h10 : (en == en')
  case false =>
    rw [show sameB k k' i i' t t' c c' s s' sd sd' q q' p p' al al' st st' en en' ra ra' sh sh' cb = false by unfold sameB; simp only [h0, h1, h2, h3, h4, h5, h6, h7, h8, h9, h10, Bool.true_and, Bool.false_and]]
    clear FC
    go_enter Tryz.func14, Tryz.ntmps14
    go_wp2_with fail
    go_ret
    exact ⟨rfl, HB.out⟩
  cases h11 : (ra == ra')
  case false =>
    rw [show sameB k k' i i' t t' c c' s s' sd sd' q q' p p' al al' st st' en en' ra ra' sh sh' cb = false by unfold sameB; simp only [h0, h1, h2, h3, h4, h5, h6, h7, h8, h9, h10, h11, Bool.true_and, Bool.false_and]]
    clear FC
    go_enter Tryz.func14, Tryz.ntmps14
    go_wp2_with fail
    go_ret
    exact ⟨rfl, HB.out⟩
  cases h12 : (sh == sh')
  case false =>
    rw [show sameB k k' i i' t t' c c' s s' sd sd' q q' p p' al al' st st' en en' ra ra' sh sh' cb = false by unfold sameB; simp only [h0, h1, h2, h3, h4, h5, h6, h7, h8, h9, h10, h11, h12, Bool.true_and, Bool.false_and]]
    clear FC
    go_enter Tryz.func14, Tryz.ntmps14
    go_wp2_with fail
    go_ret
    exact ⟨rfl, HB.out⟩
  rw [show sameB k k' i i' t t' c c' s s' sd sd' q q' p p' al al' st st' en en' ra ra' sh sh' cb = cb by unfold sameB; simp only [h0, h1, h2, h3, h4, h5, h6, h7, h8, h9, h10, h11, h12, Bool.true_and]]
  go_enter Tryz.func14, Tryz.ntmps14
  go_wp2_with fail
  refine FC.mono ?_
  rintro e w1 ⟨rfl, b1⟩
  go_wp2_with fail
  go_ret
  exact ⟨rfl, HB.out.trans (b1.mono HB.out.size)⟩
end Go.Proofs.YtepkmbpadhfbmaaGreatDoor
