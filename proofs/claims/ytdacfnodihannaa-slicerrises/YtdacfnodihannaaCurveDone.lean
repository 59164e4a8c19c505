/-
  Contracts of package curve's doneBy, Done and Target, for every curve, time, span and quantity.
-/
import Derived.Test.YtdacfnodihannaaCurveTotal
import Derived.Test.YtdacfnodihannaaAll
namespace Go.Proofs.Ytdacfnodihannaa
open Go.ChangeShapes Go.WideShapes Go.ChangeAt Go.RowKit Go.Shelf

attribute [local go_sem] Oper.semAt_some

theorem boxed_kept {A B : World} {row : Option Nat} {b : Nat} {t : TypeId} {v : Value} (h : Boxed A b t v) (hg : A.grownBy B row) (hr : ∀ r, row = some r → ∃ o : Obj, A.heap[r]? = some o ∧ o.isCells = false) : Boxed B b t v :=
  boxed_own (β := Unit) b t (fun _ => v) () A B row h hg hr
theorem mul_bd {A B a b : Int} (h1 : 0 ≤ A) (h2 : A ≤ a) (h3 : 0 ≤ B) (h4 : B ≤ b) : 0 ≤ A * B ∧ A * B ≤ a * b :=
  ⟨Int.mul_nonneg h1 h3, Int.mul_le_mul h2 h4 h3 (by omega)⟩
theorem wrap_in (x : Int) (h1 : -9223372036854775808 ≤ x) (h2 : x ≤ 9223372036854775807) : wrap64 x = x := by unfold wrap64; omega

/-- What is done of a curve, times the span, where L is the time in pieces of a bucket's length by the span. -/
def doneOf (zs : Nat → Int) (L span : Int) : Int := sumTo zs (L / span).toNat * span + zs (L / span).toNat * (L % span)
theorem doneOf_at (zs : Nat → Int) (L span : Int) (k : Nat) (l : Int) (h0 : 0 ≤ l) (h1 : l < span) (h : L = span * (k : Int) + l) : doneOf zs L span = sumTo zs k * span + zs k * l := by
  have hs : span ≠ 0 := by omega
  have e1 : L / span = (k : Int) := by
    rw [h, Int.add_comm, Int.add_mul_ediv_left _ _ hs, Int.ediv_eq_zero_of_lt h0 h1]; omega
  have e2 : L % span = l := by
    rw [h, Int.add_comm, Int.add_mul_emod_self_left, Int.emod_eq_of_lt h0 h1]
  unfold doneOf
  rw [e1, e2]
  simp
theorem mix_in {A B s l : Int} (a1 : 0 ≤ A) (ab : A ≤ B) (b1 : B ≤ 67108864) (s1 : 0 ≤ s) (s2 : s ≤ 1073741824) (l1 : 0 ≤ l) (l2 : l ≤ 1073741824) :
    wrap64 (wrap64 (A * s) + wrap64 (wrap64 (B - A) * l)) = A * s + (B - A) * l := by
  have h1 := mul_bd a1 (by omega : A ≤ 67108864) s1 s2
  have h2 := mul_bd (by omega : 0 ≤ B - A) (by omega : B - A ≤ 67108864) l1 l2
  rw [wrap_in (B - A) (by omega) (by omega), wrap_in (A * s) (by omega) (by omega), wrap_in ((B - A) * l) (by omega) (by omega), wrap_in _ (by omega) (by omega)]
theorem curve_sums {zs : Nat → Int} {n : Nat} (hc : Curve zs n) (x : Nat) : 0 ≤ sumTo zs x ∧ sumTo zs x ≤ sumTo zs (x + 1) ∧ sumTo zs (x + 1) ≤ sumTo zs n ∧ sumTo zs n ≤ 67108864 := by
  have h1 := sumTo_pos zs (fun i => (hc.each i).1) x
  have h2 := sumTo_mono zs (fun i => (hc.each i).1) x (x + 1) (by omega)
  have h4 := sumTo_le zs (fun i => (hc.each i).2) n
  have h5 := hc.len
  refine ⟨h1, h2, ?_, by omega⟩
  by_cases h : x + 1 ≤ n
  · exact sumTo_mono zs (fun i => (hc.each i).1) _ _ h
  · rw [sumTo_beyond zs n hc.beyond (x + 1) (by omega)]; exact Int.le_refl _

set_option maxRecDepth 100000 in
set_option maxHeartbeats 4000000 in
theorem doneBy_any (zs : Nat → Int) (n : Nat) (v : Value) (w : World) (h : Row w v n fun i => .int .i64 (zs i)) (hc : Curve zs n) (t span : Int) (s1 : 1 ≤ span) (s2 : span ≤ 1073741824) (t1 : 0 ≤ t) (t2 : t ≤ span) (R : Int) (hR : Hid (doneOf zs (t * (n : Int)) span = R)) :
    Calls Try.prog 72 #[v, .int .i64 t, .int .i64 span] w fun e w' => e = .returned (.int .i64 R) ∧ Below w.heap.size w w' := by
  obtain ⟨a, cap, rfl, h1, h2, h3⟩ := id h
  have hlen := hc.len
  have hb := mul_bd t1 (by omega : t ≤ 1073741824) (by omega : (0 : Int) ≤ (n : Int)) (by omega : (n : Int) ≤ 64)
  have hLs : Hid (t * (n : Int) ≤ span * (n : Int)) := Int.mul_le_mul_of_nonneg_right t2 (by omega)
  have hw0 := wrap_in (t * (n : Int)) (by omega) (by omega)
  obtain ⟨L, hL⟩ : ∃ L, t * (n : Int) = L := ⟨_, rfl⟩
  rw [hL] at hb hLs hR
  have HW : Hid (wrap64 (t * (n : Int)) = L) := hw0.trans hL
  clear hL hw0
  have HB : Hid (0 ≤ L ∧ L ≤ 1073741824 * 64) := hb
  clear hb
  refine (callsIn_wide (n := 6)).1 ?_
  refine callsIn_of_wp_marks Try.func72 rfl trivial ?_ rfl
  simp only [Try.ntmps72, List.size_toArray, List.length_cons, List.length_nil, Nat.reduceAdd, Nat.reduceSub, Array.replicate_succ, Array.replicate_zero, List.push_toArray, List.append_toArray, List.nil_append, List.cons_append]
  gi_wp2
  refine wpIn_wide.2 (wp_scope_straight ((wpIn_wide (n := 6)).1 ?_))
  gi_wp2
  refine wpIn_label ?_
  gi_wp2_with (refine ⟨trivial, ?_⟩; gi_at_call 75; refine (callsIn_wide.2 (sums_any _ _ _ _)).mono ?_; rintro e w' ⟨rfl, rfl⟩)
  rw [HW.out]
  have bP := Boxed.new w 3 (.int .i64 span)
  have bL := Boxed.new (w.alloc (.cells #[.int .i64 span] 3)) 3 (.int .i64 L)
  have bM := Boxed.new ((w.alloc (.cells #[.int .i64 span] 3)).alloc (.cells #[.int .i64 L] 3)) 3 (.int .i64 0)
  have bN := Boxed.new (((w.alloc (.cells #[.int .i64 span] 3)).alloc (.cells #[.int .i64 L] 3)).alloc (.cells #[.int .i64 0] 3)) 26 (.slice a n cap)
  simp only [World.size_alloc] at bL bM bN
  have hB0 : Below w.heap.size w ((((w.alloc (.cells #[.int .i64 span] 3)).alloc (.cells #[.int .i64 L] 3)).alloc (.cells #[.int .i64 0] 3)).alloc (.cells #[.slice a n cap] 26)) := ((((Below.refl _ w).alloc (Nat.le_refl _) _).alloc (by simp) _).alloc (by simp; omega) _).alloc (by simp; omega) _
  have hsz : ∀ k, k ≤ n → -9223372036854775808 ≤ sumTo zs k ∧ sumTo zs k ≤ 9223372036854775807 := fun k hk => by
    have := curve_sums hc k
    omega
  refine wpIn_rangeFunc_ownG rfl (by omega) (gf := 80) (lb := #[.pointer (some ⟨w.heap.size + 1 + 1 + 1, 0, none⟩)]) rfl trivial (enters_of Try.func80 (by kernel_rfl) rfl)
    (sums_stops Fence.wide 5 trivial rfl (by omega) (w.heap.size + 1 + 1 + 1) w.heap.size n cap a zs (by omega) h1 hsz _ (by simp) (by simp; omega) bN.cell
      (fun i hi => by obtain ⟨b, off, e, hc⟩ := h3 i hi; have hb := World.block_lt_of_cell? _ _ hc; exact ⟨b, off, e, hb, (hB0.cell (p := ⟨b, off + i, none⟩) hb).trans hc⟩)) belowK_t (belowK_b (by simp; omega)) (Below.refl _ _) (fun _ => rfl)
    (fun pre W => (0 ≤ L - span * (pre.length : Int) ∧ Boxed W w.heap.size 3 (.int .i64 span) ∧ Boxed W (w.heap.size + 1) 3 (.int .i64 (L - span * (pre.length : Int))) ∧ Boxed W (w.heap.size + 1 + 1) 3 (.int .i64 (lastT zs pre * span))) ∧ Below w.heap.size w W)
    (fun c pre W => (c = .exit 0 ∧ ∃ ini x, pre = ini ++ [x] ∧ 0 ≤ L - span * (ini.length : Int) ∧ L - span * (ini.length : Int) < span ∧ W.cell? ⟨w.heap.size + 1 + 1, 0, none⟩ = some (.int .i64 (sumTo zs x * span + (sumTo zs (x + 1) - sumTo zs x) * (L - span * (ini.length : Int))))) ∧ Below w.heap.size w W)
    (OwnFrom.and (Own.from (fun s A B row hs hg hr => ⟨hs.1, boxed_kept hs.2.1 hg hr, boxed_kept hs.2.2.1 hg hr, boxed_kept hs.2.2.2 hg hr⟩) _) (ownFrom_below (Nat.le_refl _) (by simp; omega)))
    (fun c => OwnFrom.and (Own.from (fun s A B row hs hg hr => by obtain ⟨hc, ini, x, e1, e2, e3, e4⟩ := hs; exact ⟨hc, ini, x, e1, e2, e3, cell_kept e4 hg hr⟩) _) (ownFrom_below (Nat.le_refl _) (by simp; omega)))
    ⟨⟨by simp [HB.out.1], ((bP.alloc _).alloc _).alloc _, by simpa using (bL.alloc _).alloc _, by simpa [lastT] using bM.alloc _⟩, hB0⟩
    (fun x => { tmps := #[.slice a n cap, .int .i64 t, .int .i64 span, undef, undef, .pointer (some ⟨w.heap.size, 0, none⟩), .int .i64 0, .pointer (some ⟨w.heap.size + 1, 0, none⟩), .pointer (some ⟨w.heap.size + 1 + 1, 0, none⟩), .int .i64 (sumTo zs x), .int .i64 (sumTo zs (x + 1)), .int .i64 t, .slice a n cap, .int .i64 (n : Int), .int .i64 L, .slice a n cap, .func (.func 80) #[] #[.pointer (some ⟨w.heap.size + 1 + 1 + 1, 0, none⟩)], .int .i64 (sumTo zs x), .int .i64 (sumTo zs (x + 1)), undef, undef, undef, undef, undef, undef, undef, undef, undef, undef, undef, undef, undef, undef, undef, undef, undef, undef, undef, undef], defers := [] }) ?assign ?body ?done ?stop
  case assign =>
    intro l x W K hK
    gi_wp2
    exact hK
  case body =>
    rintro l pre x W ⟨⟨hl0, cP, cL, cM⟩, hB⟩ hpre
    have Hs : Hid (0 ≤ sumTo zs x ∧ sumTo zs x ≤ sumTo zs (x + 1) ∧ sumTo zs (x + 1) ≤ 67108864) := by have := curve_sums hc x; exact ⟨this.1, this.2.1, by omega⟩
    have kP := cP.cell
    have kL := cL.cell
    have kM := cM.cell
    have fL := cL.frozen
    have fM := cM.frozen
    have H0 : Hid (0 ≤ L - span * (pre.length : Int)) := hl0
    have HL : Hid (L - span * ((pre ++ [x]).length : Int) = (L - span * (pre.length : Int)) - span) := by
      show _ = _
      rw [List.length_append, List.length_singleton, Int.natCast_add, Int.mul_add]; omega
    have HT : Hid (lastT zs (pre ++ [x]) = sumTo zs (x + 1)) := lastT_snoc _ _ _
    have HLb : Hid (L - span * (pre.length : Int) ≤ 68719476736) := by
      have : 0 ≤ span * (pre.length : Int) := Int.mul_nonneg (by omega) (by omega)
      have := HB.out
      show _ ≤ _
      omega
    obtain ⟨lf, hlf⟩ : ∃ lf, L - span * (pre.length : Int) = lf := ⟨_, rfl⟩
    rw [hlf] at H0 HL HLb kL cL
    have HE : Hid (L - span * (pre.length : Int) = lf) := hlf
    clear hlf hl0 h3 hsz hB0 bP bL bM bN HW h hLs hpre
    obtain ⟨A, HA⟩ : ∃ A, Hid (sumTo zs x = A) := ⟨_, rfl⟩
    obtain ⟨B, HBB⟩ : ∃ B, Hid (sumTo zs (x + 1) = B) := ⟨_, rfl⟩
    rw [HA.out, HBB.out] at Hs
    rw [HBB.out] at HT
    rw [HA.out, HBB.out]
    by_cases hlt : lf < span
    · gi_wp2
      have e := mix_in (A := A) (B := B) (s := span) (l := lf) Hs.out.1 Hs.out.2.1 Hs.out.2.2 (by omega) s2 H0.out (by omega)
      rw [e]
      exact ⟨(KeepsOthers.setCell _ _ _).from _, ⟨rfl, pre, x, rfl, by rw [HE.out]; exact H0.out, by rw [HE.out]; exact hlt, by rw [HE.out, HA.out, HBB.out]; exact World.cell?_setCell_same' _ _ _ (by rw [kM]; rfl)⟩, hB.setCell (p := ⟨w.heap.size + 1 + 1, 0, none⟩) (by simp; omega) _⟩
    · gi_wp2
      have b1 := mul_bd (by have := Hs.out; omega : 0 ≤ B) Hs.out.2.2 (by omega : 0 ≤ span) s2
      have e1 := wrap_in (lf - span) (by have := H0.out; omega) (by have := HLb.out; omega)
      have e2 := wrap_in (B * span) (by omega) (by omega)
      rw [e1, e2]
      refine ⟨((KeepsOthers.setCell _ _ _).trans (KeepsOthers.setCell _ _ _)).from _, ((Below.refl w.heap.size W).setCell (p := ⟨w.heap.size + 1 + 1, 0, none⟩) (by simp; omega) _).setCell (p := ⟨w.heap.size + 1, 0, none⟩) (by simp) _, ⟨?_, (cP.other (by omega) _).other (by omega) _, ?_, ?_⟩, (hB.setCell (p := ⟨w.heap.size + 1 + 1, 0, none⟩) (by simp; omega) _).setCell (p := ⟨w.heap.size + 1, 0, none⟩) (by simp) _⟩
      · have := HL.out; omega
      · rw [HL.out]; exact (cL.other (by omega) _).set _
      · rw [HT.out]; exact (cM.set _).other (by omega) _
  case done =>
    rintro D ys W hD rfl ⟨⟨hl0, cP, cL, cM⟩, hB⟩ hK
    rw [lastT_range] at cM
    rw [List.length_range] at hl0
    have e : sumTo zs n * span = R := by
      rw [← hR.out, doneOf_at zs L span n 0 (Int.le_refl _) (by omega) (by have := hLs.out; omega)]; simp
    rw [e] at cM
    have kM := cM.cell
    clear cP cL cM
    gi_wp2
    refine ⟨by simp, .inl ⟨_, _, rfl, run_takeDeferred hK, ?_⟩⟩
    exact ⟨_, results_tmp rfl _ _ _, rfl, hB.trans (belowK_b (w := w) (Nat.le_refl _) W D _ _ (by simp at hD; omega) hK rfl rfl)⟩
  case stop =>
    rintro D c pre W hD ⟨k, hk, rfl⟩ ⟨⟨rfl, ini, x, e1, e2, e3, kM⟩, hB⟩ hK
    obtain ⟨k', rfl⟩ : ∃ k', k = k' + 1 := by
      cases k with
      | zero => simp at e1
      | succ k' => exact ⟨k', rfl⟩
    rw [List.range_succ] at e1
    obtain ⟨rfl, e5⟩ := List.append_inj' e1 rfl
    obtain rfl : k' = x := by simpa using e5
    rw [List.length_range] at e2 e3 kM
    have e : sumTo zs k' * span + (sumTo zs (k' + 1) - sumTo zs k') * (L - span * (k' : Int)) = R := by
      rw [← hR.out, doneOf_at zs L span k' _ e2 e3 (by omega)]
      have : sumTo zs (k' + 1) - sumTo zs k' = zs k' := by simp only [sumTo]; omega
      rw [this]
    rw [e] at kM
    clear e e1 e2 e3 e5
    gi_wp2
    refine ⟨by simp, .inl ⟨_, _, rfl, run_takeDeferred hK, ?_⟩⟩
    exact ⟨_, results_tmp rfl _ _ _, rfl, hB.trans (belowK_b (w := w) (Nat.le_refl _) W D _ _ (by simp at hD; omega) hK rfl rfl)⟩

/-- May a time be asked for? -/
def Asked (t span : Int) : Prop := (1 ≤ span ∧ span ≤ 1073741824) ∧ 0 ≤ t ∧ t ≤ span

theorem done_wrong (zs : Nat → Int) (n : Nat) (v : Value) (w : World) (h : Row w v n fun i => .int .i64 (zs i)) (hb : ∀ i, n ≤ i → zs i = 0) (hc : ¬ Curve zs n) (t span : Int) :
    Calls Try.prog 58 #[v, .int .i64 t, .int .i64 span] w fun e w' => e = .returned (.tuple #[.int .i64 0, .int .i64 0, .int .i64 30]) ∧ Below w.heap.size w w' := by
  have F := fun w h => check_wrong zs n v w h hb hc
  go_enter Try.func58, Try.ntmps58
  go_wp2_with fail
  refine (F _ h).mono ?_
  rintro e w1 ⟨rfl, hb1⟩
  go_wp2_with fail
  go_ret3
  exact ⟨rfl, hb1⟩
theorem done_arg (zs : Nat → Int) (n : Nat) (v : Value) (w : World) (h : Row w v n fun i => .int .i64 (zs i)) (hc : Curve zs n) (t span : Int) (ha : ¬ Asked t span) :
    Calls Try.prog 58 #[v, .int .i64 t, .int .i64 span] w fun e w' => e = .returned (.tuple #[.int .i64 0, .int .i64 0, .int .i64 2]) ∧ Below w.heap.size w w' := by
  have F := fun w h => check_right zs n v w h hc
  unfold Asked at ha
  by_cases k : 1 ≤ span ∧ span ≤ 1073741824
  · have G := fun w => within_yes span 1 1073741824 w k.1 k.2
    have G2 := fun w => within_no t 0 span w (by omega)
    clear k ha
    go_enter Try.func58, Try.ntmps58
    go_wp2_with fail
    refine (F _ h).mono ?_
    rintro e w1 ⟨rfl, hb1⟩
    go_wp2_with fail
    refine (G _).mono ?_
    rintro e w2 ⟨rfl, hw2⟩
    subst hw2
    go_wp2_with fail
    refine (G2 _).mono ?_
    rintro e w3 ⟨rfl, hw3⟩
    subst hw3
    go_wp2_with fail
    go_ret3
    exact ⟨rfl, hb1⟩
  · have G := fun w => within_no span 1 1073741824 w (by omega)
    clear k ha
    go_enter Try.func58, Try.ntmps58
    go_wp2_with fail
    refine (F _ h).mono ?_
    rintro e w1 ⟨rfl, hb1⟩
    go_wp2_with fail
    refine (G _).mono ?_
    rintro e w2 ⟨rfl, hw2⟩
    subst hw2
    go_wp2_with fail
    go_ret3
    exact ⟨rfl, hb1⟩
theorem done_right (zs : Nat → Int) (n : Nat) (v : Value) (w : World) (h : Row w v n fun i => .int .i64 (zs i)) (hc : Curve zs n) (t span : Int) (ha : Asked t span) (R : Int) (hR : Hid (doneOf zs (t * (n : Int)) span = R)) :
    Calls Try.prog 58 #[v, .int .i64 t, .int .i64 span] w fun e w' => e = .returned (.tuple #[.int .i64 R, .int .i64 span, .int .i64 0]) ∧ Below w.heap.size w w' := by
  have F := fun w h => check_right zs n v w h hc
  have G := fun w => within_yes span 1 1073741824 w ha.1.1 ha.1.2
  have G2 := fun w => within_yes t 0 span w ha.2.1 ha.2.2
  have D := fun w h => doneBy_any zs n v w h hc t span ha.1.1 ha.1.2 ha.2.1 ha.2.2 R hR
  clear ha
  go_enter Try.func58, Try.ntmps58
  go_wp2_with fail
  refine (F _ h).mono ?_
  rintro e w1 ⟨rfl, hb1⟩
  go_wp2_with fail
  refine (G _).mono ?_
  rintro e w2 ⟨rfl, hw2⟩
  subst hw2
  go_wp2_with fail
  refine (G2 _).mono ?_
  rintro e w3 ⟨rfl, hw3⟩
  subst hw3
  go_wp2_with fail
  refine (D _ (h.below hb1)).mono ?_
  rintro e w4 ⟨rfl, hb4⟩
  go_wp2_with fail
  go_ret3
  exact ⟨rfl, hb1.trans (hb4.mono hb1.size)⟩

theorem target_wrong (qty : Int) (zs : Nat → Int) (n : Nat) (v : Value) (w : World) (h : Row w v n fun i => .int .i64 (zs i)) (hb : ∀ i, n ≤ i → zs i = 0) (hc : ¬ Curve zs n) (t span : Int) :
    Calls Try.prog 42 #[.int .i64 qty, v, .int .i64 t, .int .i64 span] w fun e w' => e = .returned (.tuple #[.int .i64 0, .int .i64 30]) ∧ Below w.heap.size w w' := by
  have F := fun w h => done_wrong zs n v w h hb hc t span
  go_enter Try.func42, Try.ntmps42
  go_wp2_with fail
  refine (F _ h).mono ?_
  rintro e w1 ⟨rfl, hb1⟩
  go_wp2_with fail
  go_ret2
  exact ⟨rfl, hb1⟩
theorem target_arg (qty : Int) (zs : Nat → Int) (n : Nat) (v : Value) (w : World) (h : Row w v n fun i => .int .i64 (zs i)) (hc : Curve zs n) (t span : Int) (ha : ¬ Asked t span) :
    Calls Try.prog 42 #[.int .i64 qty, v, .int .i64 t, .int .i64 span] w fun e w' => e = .returned (.tuple #[.int .i64 0, .int .i64 2]) ∧ Below w.heap.size w w' := by
  have F := fun w h => done_arg zs n v w h hc t span ha
  go_enter Try.func42, Try.ntmps42
  go_wp2_with fail
  refine (F _ h).mono ?_
  rintro e w1 ⟨rfl, hb1⟩
  go_wp2_with fail
  go_ret2
  exact ⟨rfl, hb1⟩
theorem target_qty (qty : Int) (zs : Nat → Int) (n : Nat) (v : Value) (w : World) (h : Row w v n fun i => .int .i64 (zs i)) (hc : Curve zs n) (t span : Int) (ha : Asked t span) (hq : qty < 0 ∨ 1099511627776 < qty) :
    Calls Try.prog 42 #[.int .i64 qty, v, .int .i64 t, .int .i64 span] w fun e w' => e = .returned (.tuple #[.int .i64 0, .int .i64 2]) ∧ Below w.heap.size w w' := by
  have F := fun w h => done_right zs n v w h hc t span ha _ rfl
  have G := fun w => within_no qty 0 1099511627776 w hq
  clear hq ha
  generalize doneOf zs (t * (n : Int)) span = R at *
  go_enter Try.func42, Try.ntmps42
  go_wp2_with fail
  refine (F _ h).mono ?_
  rintro e w1 ⟨rfl, hb1⟩
  go_wp2_with fail
  refine (G _).mono ?_
  rintro e w2 ⟨rfl, hw2⟩
  subst hw2
  go_wp2_with fail
  go_ret2
  exact ⟨rfl, hb1⟩

theorem pieces {t span : Int} {n : Nat} (ha : Asked t span) (hn : n ≤ 64) : 0 ≤ t * (n : Int) ∧ t * (n : Int) ≤ span * (n : Int) :=
  ⟨Int.mul_nonneg ha.2.1 (by omega), Int.mul_le_mul_of_nonneg_right ha.2.2 (by omega)⟩
theorem doneOf_bd {zs : Nat → Int} {n : Nat} (hc : Curve zs n) {L span : Int} (_h0 : 0 ≤ L) (hs : 1 ≤ span) : 0 ≤ doneOf zs L span ∧ doneOf zs L span ≤ sumTo zs n * span := by
  have m0 := Int.emod_nonneg L (by omega : span ≠ 0)
  have m1 := Int.emod_lt_of_pos L (by omega : 0 < span)
  unfold doneOf
  generalize (L / span).toNat = k
  generalize L % span = l at *
  have hk := curve_sums hc k
  have hz := hc.each k
  have a1 : 0 ≤ sumTo zs k * span := Int.mul_nonneg hk.1 (by omega)
  have a2 : 0 ≤ zs k * l := Int.mul_nonneg hz.1 m0
  have a3 : zs k * l ≤ zs k * span := Int.mul_le_mul_of_nonneg_left (by omega) hz.1
  have a4 : sumTo zs (k + 1) * span ≤ sumTo zs n * span := Int.mul_le_mul_of_nonneg_right hk.2.2.1 (by omega)
  have a5 : sumTo zs (k + 1) * span = sumTo zs k * span + zs k * span := by simp only [sumTo]; rw [Int.add_mul]
  omega
/-- The target. -/
def targetOf (zs : Nat → Int) (n : Nat) (qty t span : Int) : Int := qty * doneOf zs (t * (n : Int)) span / (sumTo zs n * span)
theorem share_bd {q a c : Int} (q0 : 0 ≤ q) (a0 : 0 ≤ a) (ac : a ≤ c) (c0 : 0 < c) : 0 ≤ q * a / c ∧ q * a / c ≤ q := by
  have h1 : 0 ≤ q * a := Int.mul_nonneg q0 a0
  have h2 : q * a ≤ q * c := Int.mul_le_mul_of_nonneg_left ac q0
  refine ⟨Int.ediv_nonneg h1 (by omega), ?_⟩
  have := Int.ediv_le_ediv c0 h2
  rwa [Int.mul_ediv_cancel _ (by omega)] at this
theorem down_share (q a c : Int) (w : World) (q0 : 0 ≤ q) (q1 : q ≤ 1099511627776) (a0 : 0 ≤ a) (ac : a ≤ c) (c0 : 0 < c) (c1 : c ≤ 9223372036854775807) (r : Int) (hr : Hid (q * a / c = r)) :
    Calls Try.prog 38 #[.int .i64 q, .int .i64 a, .int .i64 c] w fun e w' => e = .returned (.tuple #[.int .i64 r, .int .i64 0]) ∧ Below w.heap.size w w' := by
  have h := downs q a c (q * a) rfl w (by omega) (by omega) (by omega) (by omega) (by omega) (by omega) (beq_false_of_ne (by omega))
  have hb := share_bd q0 a0 ac c0
  rw [frac_plain _ _ (Int.mul_nonneg q0 a0) c0, hr.out] at h
  rw [hr.out] at hb
  have := ans_in r ⟨by omega, by omega⟩
  rw [this.1, this.2] at h
  exact h
theorem target_right (qty : Int) (zs : Nat → Int) (n : Nat) (v : Value) (w : World) (h : Row w v n fun i => .int .i64 (zs i)) (hc : Curve zs n) (t span : Int) (ha : Asked t span) (q0 : 0 ≤ qty) (q1 : qty ≤ 1099511627776) (x : Int) (hx : Hid (targetOf zs n qty t span = x)) :
    Calls Try.prog 42 #[.int .i64 qty, v, .int .i64 t, .int .i64 span] w fun e w' => e = .returned (.tuple #[.int .i64 x, .int .i64 0]) ∧ Below w.heap.size w w' := by
  have hp := pieces ha hc.len
  have hd := doneOf_bd hc hp.1 ha.1.1
  have hs := (curve_sums hc n).2.2.2
  have hs' := hc.some
  have hm := mul_bd (by omega : 0 ≤ sumTo zs n) hs (by have := ha.1.1; omega : 0 ≤ span) ha.1.2
  have hpos : 0 < sumTo zs n * span := Int.mul_pos hs' (by have := ha.1.1; omega)
  have HW : Hid (wrap64 (sumTo zs n * span) = sumTo zs n * span) := wrap_in _ (by omega) (by omega)
  have F := fun w h => done_right zs n v w h hc t span ha _ rfl
  have G := fun w => within_yes qty 0 1099511627776 w q0 q1
  have T := fun w h => total_right zs n v w h hc _ rfl
  have D := fun w => down_share qty (doneOf zs (t * (n : Int)) span) (sumTo zs n * span) w q0 q1 hd.1 hd.2 hpos (by omega) x hx
  rw [← HW.out] at D
  clear hp hd hs hs' hm hpos HW ha hx
  generalize doneOf zs (t * (n : Int)) span = R at *
  generalize sumTo zs n = S at *
  go_enter Try.func42, Try.ntmps42
  go_wp2_with fail
  refine (F _ h).mono ?_
  rintro e w1 ⟨rfl, hb1⟩
  go_wp2_with fail
  refine (G _).mono ?_
  rintro e w2 ⟨rfl, hw2⟩
  subst hw2
  go_wp2_with fail
  refine (T _ (h.below hb1)).mono ?_
  rintro e w3 ⟨rfl, hb3⟩
  go_wp2_with fail
  refine (D _).mono ?_
  rintro e w4 ⟨rfl, hb4⟩
  go_wp2_with fail
  go_ret2
  have s1 := hb1.size
  exact ⟨rfl, (hb1.trans (hb3.mono s1)).trans (hb4.mono (by have := hb3.size; omega))⟩
end Go.Proofs.Ytdacfnodihannaa
