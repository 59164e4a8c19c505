/-
  Contract of package curve's Spread, for every list of weights and every quantity.
-/
import Derived.Test.YtipgajilchkneaaCurveDone
import Derived.Maps.OwnIn
import Derived.Maps.AppendAt
namespace Go.Proofs.Ytipgajilchkneaa
open Go.ChangeShapes Go.WideShapes Go.ChangeAt Go.RowKit Go.Shelf

attribute [local go_sem] Oper.semAt_some

theorem Try.infoInt : (Try.prog.info? 3).map (fun i => (i.zero, i.size, i.bytes)) = some (some (.int .i64 0), 1, 8) := by kernel_rfl

theorem spread_wrong (qty : Int) (zs : Nat → Int) (n : Nat) (v : Value) (w : World) (h : Row w v n fun i => .int .i64 (zs i)) (hb : ∀ i, n ≤ i → zs i = 0) (hc : ¬ Curve zs n) :
    Calls Try.prog 18 #[.int .i64 qty, v] w fun e w' => e = .returned (.tuple #[.slice none 0 0, .int .i64 30]) ∧ Below w.heap.size w w' := by
  have T := fun w h => total_wrong zs n v w h hb hc
  have hB0 : ∀ o, Below w.heap.size w (w.alloc o) := fun o => (Below.refl _ w).alloc (Nat.le_refl _) _
  go_enter Try.func18, Try.ntmps18
  go_wp2_with fail
  refine (T _ (h.below (hB0 _))).mono ?_
  rintro e w1 ⟨rfl, hb1⟩
  have B1 : Below w.heap.size w w1 := (hB0 _).trans (hb1.mono (by simp))
  clear hb1
  have s1 := B1.size
  go_wp2_with fail
  go_ret2
  exact ⟨rfl, B1.alloc s1 _⟩
theorem spread_arg (qty : Int) (zs : Nat → Int) (n : Nat) (v : Value) (w : World) (h : Row w v n fun i => .int .i64 (zs i)) (hc : Curve zs n) (hq : qty < 0 ∨ 1099511627776 < qty) :
    Calls Try.prog 18 #[.int .i64 qty, v] w fun e w' => e = .returned (.tuple #[.slice none 0 0, .int .i64 2]) ∧ Below w.heap.size w w' := by
  have T := fun w h => total_right zs n v w h hc _ rfl
  have G := fun w => within_no qty 0 1099511627776 w hq
  have hB0 : ∀ o, Below w.heap.size w (w.alloc o) := fun o => (Below.refl _ w).alloc (Nat.le_refl _) _
  clear hq
  generalize sumTo zs n = S at *
  go_enter Try.func18, Try.ntmps18
  go_wp2_with fail
  refine (T _ (h.below (hB0 _))).mono ?_
  rintro e w1 ⟨rfl, hb1⟩
  have B1 : Below w.heap.size w w1 := (hB0 _).trans (hb1.mono (by simp))
  have s1 := B1.size
  have s2 : w.heap.size < w1.heap.size := by have := hb1.size; simp at this; omega
  have c1 : w1.cell? ⟨w.heap.size, 0, none⟩ = some (.int .i64 qty) := by rw [hb1.cell (by simp)]; go_simp
  have n1 : ¬ w.heap.size = w1.heap.size := by omega
  clear hb1
  go_wp2_with fail
  refine (G _).mono ?_
  rintro e w2 ⟨rfl, hw2⟩
  subst hw2
  go_wp2_with fail
  go_ret2
  exact ⟨rfl, B1.alloc s1 _⟩

theorem grown_of_below {W W' : World} (h : Below W.heap.size W W') : W.grownBy W' none := ⟨h.os, h.tape, h.output, h.size, fun k hk _ => h.block k hk⟩
theorem boxed_below {W W' : World} {B : Nat} {t : TypeId} {v : Value} (h : Boxed W B t v) (hb : Below W.heap.size W W') : Boxed W' B t v := h.kept (grown_of_below hb) (by simp)
theorem others_below {W W' : World} (h : Below W.heap.size W W') : KeepsOthers W W' := KeepsOthers.of_grownBy (grown_of_below h) (fun j o e => by cases e)
theorem owns_below {W W' : World} {base : Nat} {e : TypeId} {v : Value} {n : Nat} {xs : List Value} (h : W.ownsRow base e 1 v n xs) (hb : Below W.heap.size W W') : W'.ownsRow base e 1 v n xs :=
  h.kept (grown_of_below hb) (by cases hv : v.ownBlock <;> simp)
/-- A row of one's own reads as its values. -/
theorem row_of_owns {W : World} {base : Nat} {e : TypeId} {v : Value} {n : Nat} {xs : List Value} (h : W.ownsRow base e 1 v n xs) (f : Nat → Value) (hf : ∀ i, i < n → xs[i]? = some (f i)) : Row W v n f := by
  have hcs := fun g hg => h.cells (g := g) hg
  rcases h.2 with ⟨rfl, rfl⟩ | ⟨g, cap, cur, rfl, _, _, h1, h2, _⟩
  · exact ⟨none, 0, rfl, Nat.le_refl _, by unfold maxLen; omega, fun i hi => absurd hi (by omega)⟩
  · refine ⟨_, cap, rfl, h1, h2, fun i hi => ⟨g, 0, rfl, ?_⟩⟩
    have := hcs g rfl i (f i) (hf i hi)
    rw [show (⟨g, 0, none⟩ : Addr).add i = ⟨g, 0 + i, none⟩ from by unfold Addr.add; split <;> simp_all] at this
    exact this

/-- What is due by the first k buckets. -/
def dueOf (zs : Nat → Int) (n : Nat) (qty : Int) (k : Nat) : Int := qty * sumTo zs k / sumTo zs n
/-- The parts that have been laid, and what is given by them, when the buckets of a list have come. -/
def given (due : Nat → Int) (pre : List Nat) : List Int × Int := pre.foldl (fun s x => (s.1 ++ [due (x + 1) - s.2], due (x + 1))) ([], 0)
theorem given_snoc (due : Nat → Int) (pre : List Nat) (x : Nat) : given due (pre ++ [x]) = ((given due pre).1 ++ [due (x + 1) - (given due pre).2], due (x + 1)) := by simp [given]
theorem given_range (due : Nat → Int) (h : due 0 = 0) : ∀ n, given due (List.range n) = ((List.range n).map (fun k => due (k + 1) - due k), due n)
  | 0 => by simp [given, h]
  | n + 1 => by rw [List.range_succ, given_snoc, given_range due h n]; simp
theorem due_bd {zs : Nat → Int} {n : Nat} (hc : Curve zs n) {qty : Int} (q0 : 0 ≤ qty) (x : Nat) : 0 ≤ dueOf zs n qty x ∧ dueOf zs n qty x ≤ qty := by
  have := curve_sums hc x
  exact share_bd q0 this.1 (by omega) hc.some

set_option maxRecDepth 100000 in
set_option maxHeartbeats 4000000 in
theorem spread_right (qty : Int) (zs : Nat → Int) (n : Nat) (v : Value) (w : World) (h : Row w v n fun i => .int .i64 (zs i)) (hc : Curve zs n) (q0 : 0 ≤ qty) (q1 : qty ≤ 1099511627776) :
    Calls Try.prog 18 #[.int .i64 qty, v] w fun e w' => ∃ v', e = .returned (.tuple #[v', .int .i64 0]) ∧ Below w.heap.size w w' ∧ Row w' v' n fun i => .int .i64 (dueOf zs n qty (i + 1) - dueOf zs n qty i) := by
  obtain ⟨a, cap, rfl, h1, h2, h3⟩ := id h
  have hlen := hc.len
  have T := fun w h => total_right zs n (.slice a n cap) w h hc _ rfl
  have G := fun w => within_yes qty 0 1099511627776 w q0 q1
  have hB0 : ∀ o, Below w.heap.size w (w.alloc o) := fun o => (Below.refl _ w).alloc (Nat.le_refl _) _
  obtain ⟨i0, hi, hz0, hz1, hz2⟩ := info_parts Try.infoInt
  have hmk : ∀ w, (Instr.makeSlice 22 (.int .i64 0) (.int .i64 (n : Int))).run Try.prog w = .ok (.slice (some ⟨w.heap.size, 0, none⟩) 0 n) (w.alloc (.cells (madeCells #[.int .i64 0] n) 3)) := fun w => by
    have := run_make (P := Try.prog) w 22 3 i0 (.int .i64 0) Try.underlying22 hi hz0 .i64 .i64 0 (n : Int) (by omega) (by omega) (by rw [hz2]; omega) (by omega)
    simpa [hz1, Value.cells] using this
  obtain ⟨S, HS⟩ : ∃ S, sumTo zs n = S := ⟨_, rfl⟩
  rw [HS] at T
  have D : ∀ x w, Calls Try.prog 26 #[.int .i64 qty, .int .i64 (sumTo zs (x + 1)), .int .i64 S] w fun e w' => e = .returned (.tuple #[.int .i64 (dueOf zs n qty (x + 1)), .int .i64 0]) ∧ Below w.heap.size w w' := fun x w => by
    have hk := curve_sums hc x
    have hp := hc.some
    rw [HS] at hk hp
    exact down_share qty (sumTo zs (x + 1)) S w q0 q1 (by omega) hk.2.2.1 hp (by omega) _ (by rw [dueOf, HS]; rfl)
  have DB := fun x => due_bd hc q0 x
  have HSH : Hid (sumTo zs n = S) := HS
  clear HS
  refine (callsIn_wide (n := 6)).1 ?_
  refine callsIn_of_wp_marks Try.func18 rfl trivial ?_ rfl
  simp only [Try.ntmps18, List.size_toArray, List.length_cons, List.length_nil, Nat.reduceAdd, Nat.reduceSub, Array.replicate_succ, Array.replicate_zero, List.push_toArray, List.append_toArray, List.nil_append, List.cons_append]
  gi_wp2_with (first
    | (refine ⟨trivial, ?_⟩; gi_at_call 9; refine (callsIn_wide.2 (T _ (h.below (hB0 _)))).mono ?_; rintro e w1 ⟨rfl, hb1⟩; have B1 : Below w.heap.size w w1 := (hB0 _).trans (hb1.mono (by simp)); have s1 := B1.size; have s2 : w.heap.size < w1.heap.size := (by have := hb1.size; simp at this; omega); have n1 : ¬ w.heap.size = w1.heap.size := (by omega); have bQ : Boxed w1 w.heap.size 3 (.int .i64 qty) := (hb1.block _ (by simp)).trans (Boxed.new w _ _); have c1 := bQ.cell)
    | (refine ⟨trivial, ?_⟩; gi_at_call 24; refine (callsIn_wide.2 (G _)).mono ?_; rintro e w2 ⟨rfl, hw2⟩; subst hw2)
    | (refine ⟨trivial, ?_⟩; gi_at_call 23; refine (callsIn_wide.2 (sums_any _ _ _ _)).mono ?_; rintro e w' ⟨rfl, rfl⟩))
  have eS := Boxed.new w1 3 (.int .i64 S)
  have eP := Boxed.new ((w1.alloc (.cells #[.int .i64 S] 3)).alloc (.cells (madeCells #[.int .i64 0] n) 3)) 22 (.slice (some ⟨w1.heap.size + 1, 0, none⟩) 0 n)
  have eG := Boxed.new (((w1.alloc (.cells #[.int .i64 S] 3)).alloc (.cells (madeCells #[.int .i64 0] n) 3)).alloc (.cells #[.slice (some ⟨w1.heap.size + 1, 0, none⟩) 0 n] 22)) 3 (.int .i64 0)
  have eU := Boxed.new ((((w1.alloc (.cells #[.int .i64 S] 3)).alloc (.cells (madeCells #[.int .i64 0] n) 3)).alloc (.cells #[.slice (some ⟨w1.heap.size + 1, 0, none⟩) 0 n] 22)).alloc (.cells #[.int .i64 0] 3)) 22 (.slice a n cap)
  have eR : (((w1.alloc (.cells #[.int .i64 S] 3)).alloc (.cells (madeCells #[.int .i64 0] n) 3))).ownsRow w.heap.size 3 1 (.slice (some ⟨w1.heap.size + 1, 0, none⟩) 0 n) 0 [] := by
    have := World.ownsRow_made (e := 3) (size := 1) (base := w.heap.size) (w1.alloc (.cells #[.int .i64 S] 3)) (madeCells #[.int .i64 0] n) n (by simp; omega) (by unfold maxLen; omega) (by rw [size_madeCells]; omega)
    rw [World.size_alloc] at this
    exact this
  simp only [World.size_alloc] at eP eG eU
  have B2 : Below w.heap.size w (((((w1.alloc (.cells #[.int .i64 S] 3)).alloc (.cells (madeCells #[.int .i64 0] n) 3)).alloc (.cells #[.slice (some ⟨w1.heap.size + 1, 0, none⟩) 0 n] 22)).alloc (.cells #[.int .i64 0] 3)).alloc (.cells #[.slice a n cap] 22)) := ((((B1.alloc s1 _).alloc (by simp; omega) _).alloc (by simp; omega) _).alloc (by simp; omega) _).alloc (by simp; omega) _
  have hsz : ∀ k, k ≤ n → -9223372036854775808 ≤ sumTo zs k ∧ sumTo zs k ≤ 9223372036854775807 := fun k hk => by
    have := curve_sums hc k
    omega
  refine wpIn_rangeFunc_ownG rfl (by omega) (gf := 32) (lb := #[.pointer (some ⟨w1.heap.size + 1 + 1 + 1 + 1, 0, none⟩)]) rfl trivial (enters_of Try.func32 (by kernel_rfl) rfl)
    (sums_stops Fence.wide 5 trivial rfl (by omega) (w1.heap.size + 1 + 1 + 1 + 1) w.heap.size n cap a zs (by omega) h1 hsz _ (by simp) (by simp; omega) eU.cell
      (fun i hi => by obtain ⟨b, off, e, hc⟩ := h3 i hi; have hb := World.block_lt_of_cell? _ _ hc; exact ⟨b, off, e, hb, (B2.cell (p := ⟨b, off + i, none⟩) hb).trans hc⟩)) belowK_t (belowK_b (by simp; omega)) (Below.refl _ _) (fun _ => rfl)
    (fun pre W => (((0 ≤ (given (dueOf zs n qty) pre).2 ∧ (given (dueOf zs n qty) pre).2 ≤ qty ∧ (given (dueOf zs n qty) pre).1.length = pre.length) ∧ Boxed W w.heap.size 3 (.int .i64 qty) ∧ Boxed W w1.heap.size 3 (.int .i64 S) ∧ Boxed W (w1.heap.size + 1 + 1 + 1) 3 (.int .i64 (given (dueOf zs n qty) pre).2) ∧ Boxed W (w1.heap.size + 1 + 1 + 1 + 1) 22 (.slice a n cap)) ∧
        (∃ v, Boxed W (w1.heap.size + 1 + 1) 22 v ∧ W.ownsRow w.heap.size 3 1 v (given (dueOf zs n qty) pre).1.length ((given (dueOf zs n qty) pre).1.map (Value.int .i64)) ∧ ∀ b, v.ownBlock = some b → b = w1.heap.size + 1 ∨ w1.heap.size + 1 + 1 + 1 + 1 < b)) ∧ Below w.heap.size w W)
    (fun _ _ _ => False)
    (OwnFrom.and (OwnFrom.and (Own.from (fun s A B row hs hg hr => ⟨hs.1, boxed_kept hs.2.1 hg hr, boxed_kept hs.2.2.1 hg hr, boxed_kept hs.2.2.2.1 hg hr, boxed_kept hs.2.2.2.2 hg hr⟩) _)
      (Own.from (holdsRow_own w.heap.size (w1.heap.size + 1 + 1) 22 3 1 (fun pre => (given (dueOf zs n qty) pre).1.length) (fun pre => (given (dueOf zs n qty) pre).1.map (Value.int .i64)) (fun _ v => ∀ b, v.ownBlock = some b → b = w1.heap.size + 1 ∨ w1.heap.size + 1 + 1 + 1 + 1 < b)) _)) (ownFrom_below (Nat.le_refl _) (by simp; omega)))
    (fun _ _ _ _ _ hs _ _ => hs)
    ⟨⟨⟨⟨by simp [given], by simp [given, q0], by simp [given]⟩, ((((bQ.alloc _).alloc _).alloc _).alloc _).alloc _, (((eS.alloc _).alloc _).alloc _).alloc _, by simpa [given] using eG.alloc _, eU⟩, ⟨_, (eP.alloc _).alloc _, by simpa [given] using ((eR.alloc _).alloc _).alloc _, fun b hb => .inl (by simpa [Value.ownBlock] using hb.symm)⟩⟩, B2⟩
    (fun x => { tmps := #[.int .i64 qty, .slice a n cap, .pointer (some ⟨w.heap.size, 0, none⟩), undef, .slice none 0 0, .int .i64 0, .pointer (some ⟨w1.heap.size, 0, none⟩), .int .i64 0, .pointer (some ⟨w1.heap.size + 1 + 1, 0, none⟩), .pointer (some ⟨w1.heap.size + 1 + 1 + 1, 0, none⟩), undef, .int .i64 (sumTo zs (x + 1)), undef, undef, .tuple #[.int .i64 S, .int .i64 0], .slice a n cap, .tuple #[.int .i64 S, .int .i64 0], .int .i64 S, .int .i64 0, .int .i64 0, .bool false, undef, .int .i64 qty, .bool true, .bool false, .slice a n cap, .int .i64 (n : Int), .slice (some ⟨w1.heap.size + 1, 0, none⟩) 0 n, .slice a n cap, .func (.func 32) #[] #[.pointer (some ⟨w1.heap.size + 1 + 1 + 1 + 1, 0, none⟩)], .int .i64 (sumTo zs x), .int .i64 (sumTo zs (x + 1)), undef, undef, undef, undef, undef, undef, undef, undef, undef, undef, undef, undef, undef, undef, undef], defers := [] }) ?assign ?body ?done ?stop
  case assign =>
    intro l x W K hK
    gi_wp2
    exact hK
  case body =>
    rintro l pre x W ⟨⟨⟨⟨g0, g1, gl⟩, bQ, bS, bG, bU⟩, v, bP, row, far⟩, hB⟩ hlt
    have HD := D x
    have HX := DB (x + 1)
    have HG : Hid (given (dueOf zs n qty) (pre ++ [x]) = ((given (dueOf zs n qty) pre).1 ++ [dueOf zs n qty (x + 1) - (given (dueOf zs n qty) pre).2], dueOf zs n qty (x + 1))) := given_snoc _ _ _
    obtain ⟨A, HA⟩ : ∃ A, Hid (sumTo zs (x + 1) = A) := ⟨_, rfl⟩
    rw [HA.out] at HD ⊢
    generalize dueOf zs n qty (x + 1) = R at *
    obtain ⟨L, hL⟩ : ∃ L, (given (dueOf zs n qty) pre).1 = L := ⟨_, rfl⟩
    obtain ⟨g, hg⟩ : ∃ g, (given (dueOf zs n qty) pre).2 = g := ⟨_, rfl⟩
    rw [hL, hg] at HG
    rw [hL] at row gl
    rw [hg] at bG g0 g1
    have HV : Hid (wrap64 (R - g) = R - g) := wrap_in _ (by omega) (by omega)
    have HX' : Hid (0 ≤ R ∧ R ≤ qty) := HX
    have hU := bU.lt
    have HF : Hid (∀ b, v.ownBlock = some b → b = w1.heap.size + 1 ∨ w1.heap.size + 1 + 1 + 1 + 1 < b) := far
    have hgl : L.length < 64 := by omega
    have HGL : Hid (L.length = pre.length) := gl
    clear hL hg D DB hsz eS eP eG eU eR B2 h3 h T g0 g1 gl far HX hmk hB0
    have kQ := bQ.cell
    have kS := bS.cell
    gi_wp2_with (first
      | (refine ⟨trivial, ?_⟩; gi_at_call 26; refine (CallsIn.inRound l (callsIn_wide.2 (HD _))).mono ?_; rintro e W1 ⟨rfl, hb⟩; have s3 := hb.size; have bQ1 := boxed_below bQ hb; have bS1 := boxed_below bS hb; have bG1 := boxed_below bG hb; have bU1 := boxed_below bU hb; have bP1 := boxed_below bP hb; have row1 := owns_below row hb; have hs4 : w.heap.size ≤ W1.heap.size := (Nat.le_trans hB.size s3); have kP1 := bP1.cell; have kG1 := bG1.cell)
      | (gi_at_builtin; refine wpListIn_append_own_at _ rfl _ _ 22 rfl w.heap.size 3 i0 (.int .i64 0) 1 8 Try.underlying22 hi hz0 hz1 hz2 rfl (by decide) _ _ _ rfl (row1.alloc _) ⟨W1.heap.size, 0, none⟩ 1 1 [.int .i64 (wrap64 (R - g))] rfl rfl (cell_one_new _ _ _) (by simp [Value.oneCell']) (by unfold maxLen; omega) (by omega) (by simp; omega) ?_; intro v' w2 hown' hgrow _ hat; obtain ⟨g', cap', rfl⟩ := ownsRow_succ hown'; obtain ⟨hv1, hv2, hr2, hk2, hb2⟩ := bP1.appended (by decide) row1 hs4 (by omega) hown' hgrow; have kP2 := hv1.cell; have fP2 := hv1.frozen; have hne : ∀ b, b = w.heap.size ∨ b = w1.heap.size ∨ b = w1.heap.size + 1 + 1 + 1 ∨ b = w1.heap.size + 1 + 1 + 1 + 1 → some b ≠ v.ownBlock := (fun b hb' e => by have := HF.out b e.symm; omega); have bG2 := ((bG1.alloc _).kept hgrow (hne _ (by omega))).other (B' := w1.heap.size + 1 + 1) (by omega) (.slice (some ⟨g', 0, none⟩) (L.length + 1) cap'); have kG2 := bG2.cell; have fG2 := bG2.frozen))
    have hU1 := bU1.lt
    have hfar : g' = w1.heap.size + 1 ∨ w1.heap.size + 1 + 1 + 1 + 1 < g' := by
      rcases hat with e | e
      · have e' : some g' = v.ownBlock := e
        exact HF.out g' e'.symm
      · have : g' = W1.heap.size + 1 := by simpa [Value.ownBlock] using e
        omega
    have keep : ∀ {B : Nat} {t : TypeId} {u : Value}, Boxed W1 B t u → (B = w.heap.size ∨ B = w1.heap.size ∨ B = w1.heap.size + 1 + 1 + 1 + 1) → Boxed ((w2.setCell ⟨w1.heap.size + 1 + 1, 0, none⟩ (.slice (some ⟨g', 0, none⟩) (L.length + 1) cap')).setCell ⟨w1.heap.size + 1 + 1 + 1, 0, none⟩ (.int .i64 R)) B t u := fun hb' hB' =>
      (((hb'.alloc _).kept hgrow (hne _ (by omega))).other (by omega) _).other (by omega) _
    have row3 := hr2.kept (grownBy_setCell' _ (w1.heap.size + 1 + 1 + 1) (.int .i64 R)) (.inr (by simp [Value.ownBlock]; omega))
    rw [HV.out] at row3
    refine ⟨(((others_below hb).trans hk2).trans (KeepsOthers.setCell _ _ _)).from _, ((hb.mono hB.size).trans hb2).setCell (p := ⟨w1.heap.size + 1 + 1 + 1, 0, none⟩) (by simp; omega) _, ?_, ((hB.trans (hb.mono hB.size)).trans hb2).setCell (p := ⟨w1.heap.size + 1 + 1 + 1, 0, none⟩) (by simp; omega) _⟩
    rw [HG.out]
    exact ⟨⟨⟨HX'.out.1, HX'.out.2, by simp [HGL.out]⟩, keep bQ1 (by omega), keep bS1 (by omega), bG2.set _, keep bU1 (by omega)⟩, _, hv2.other (by omega) _, by simpa using row3, fun b hb' => by rw [show b = g' from by simpa [Value.ownBlock] using hb'.symm]; exact hfar⟩
  case done =>
    rintro D' ys W hD rfl ⟨⟨_, v, bP, row, _⟩, hB⟩ hK
    have kP := bP.cell
    gi_wp2
    refine ⟨by simp, .inl ⟨_, _, rfl, run_takeDeferred hK, ?_⟩⟩
    refine ⟨_, results_tmp2 rfl _ _ _, v, rfl, hB.trans (belowK_b (w := w) (Nat.le_refl _) W D' _ _ (by simp at hD; omega) hK rfl rfl), ?_⟩
    have r2 := ownsRow_putObj row (.deferred none) hK rfl
    have hg : given (dueOf zs n qty) (List.range n) = _ := given_range _ (by simp [dueOf, sumTo]) n
    rw [hg] at r2
    simp only [List.length_map, List.length_range] at r2
    exact row_of_owns r2 _ (fun i hi => by simp [hi])
  case stop =>
    rintro D c pre W _ _ h _
    exact h.elim
end Go.Proofs.Ytipgajilchkneaa
