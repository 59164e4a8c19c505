/-
  Contract of the statements' told: of a ring, or of none, and the list of what is in it.
-/
import Derived.Test.YtdikjfajbjedcaaRingAll
namespace Go.Proofs.Ytdikjfajbjedcaa
open Go.ChangeShapes Go.WideShapes Go.ChangeAt Go.RowKit Go.Shelf

attribute [local go_sem] Oper.semAt_some

theorem boxed_kept {A B : World} {row : Option Nat} {b : Nat} {t : TypeId} {v : Value} (h : Boxed A b t v) (hg : A.grownBy B row) (hr : ∀ r, row = some r → ∃ o : Obj, A.heap[r]? = some o ∧ o.isCells = false) : Boxed B b t v :=
  boxed_own (β := Unit) b t (fun _ => v) () A B row h hg hr

/-- How a round of told ends it: with true, or at a thing that is not the list's. -/
def Ends (n : Nat) (g : Nat → Int) (b : Nat) (pre : List Nat) (W : World) : Prop := ∃ r, W.cell? ⟨b, 0, none⟩ = some (.bool r) ∧ (r = true ∨ ∃ ini x, pre = ini ++ [x] ∧ ini.length < n ∧ g x ≠ g ini.length)
set_option maxRecDepth 100000 in
set_option maxHeartbeats 4000000 in
theorem told_yes (ra : Option Addr) (n : Nat) (g : Nat → Int) (v : Value) (most : Int) (w : World) (h : Told w (.pointer ra) n g) (hv : Row w v n fun i => .int .i64 (g i)) :
    Calls Try.prog 16 #[.pointer ra, v, .int .i64 most] w fun e w' => e = .returned (.bool true) ∧ Below w.heap.size w w' := by
  obtain ⟨a, cap, rfl, h1, h2, h3⟩ := id hv
  have hn := h.le
  refine (callsIn_wide (n := 6)).1 ?_
  refine callsIn_of_wp_marks Try.func16 rfl trivial ?_ rfl
  simp only [Try.ntmps16, List.size_toArray, List.length_cons, List.length_nil, Nat.reduceAdd, Nat.reduceSub, Array.replicate_succ, Array.replicate_zero, List.push_toArray, List.append_toArray, List.nil_append, List.cons_append]
  gi_wp2_with (refine ⟨trivial, ?_⟩; gi_at_call 25; refine (callsIn_wide.2 (all_any _ _)).mono ?_; rintro e w' ⟨rfl, rfl⟩)
  have b0 := Boxed.new w 29 (.slice a n cap)
  have b1 := Boxed.new (w.alloc (.cells #[.slice a n cap] 29)) 3 (.int .i64 most)
  have b2 := Boxed.new ((w.alloc (.cells #[.slice a n cap] 29)).alloc (.cells #[.int .i64 most] 3)) 4 (.bool false)
  have b3 := Boxed.new (((w.alloc (.cells #[.slice a n cap] 29)).alloc (.cells #[.int .i64 most] 3)).alloc (.cells #[.bool false] 4)) 3 (.int .i64 0)
  have b4 := Boxed.new ((((w.alloc (.cells #[.slice a n cap] 29)).alloc (.cells #[.int .i64 most] 3)).alloc (.cells #[.bool false] 4)).alloc (.cells #[.int .i64 0] 3)) 24 (.pointer ra)
  simp only [World.size_alloc] at b1 b2 b3 b4
  have c0 := (((b0.alloc (.cells #[.int .i64 most] 3)).alloc (.cells #[.bool false] 4)).alloc (.cells #[.int .i64 0] 3)).alloc (.cells #[.pointer ra] 24)
  have c1 := ((b1.alloc (.cells #[.bool false] 4)).alloc (.cells #[.int .i64 0] 3)).alloc (.cells #[.pointer ra] 24)
  have c2 := (b2.alloc (.cells #[.int .i64 0] 3)).alloc (.cells #[.pointer ra] 24)
  have c3 := b3.alloc (.cells #[.pointer ra] 24)
  have hB0 : Below w.heap.size w (((((w.alloc (.cells #[.slice a n cap] 29)).alloc (.cells #[.int .i64 most] 3)).alloc (.cells #[.bool false] 4)).alloc (.cells #[.int .i64 0] 3)).alloc (.cells #[.pointer ra] 24)) := (((((Below.refl _ w).alloc (Nat.le_refl _) _).alloc (by simp) _).alloc (by simp; omega) _).alloc (by simp; omega) _).alloc (by simp; omega) _
  have s5 : (((((w.alloc (.cells #[.slice a n cap] 29)).alloc (.cells #[.int .i64 most] 3)).alloc (.cells #[.bool false] 4)).alloc (.cells #[.int .i64 0] 3)).alloc (.cells #[.pointer ra] 24)).heap.size = w.heap.size + 1 + 1 + 1 + 1 + 1 := by simp
  clear b0 b1 b2 b3
  generalize (((((w.alloc (.cells #[.slice a n cap] 29)).alloc (.cells #[.int .i64 most] 3)).alloc (.cells #[.bool false] 4)).alloc (.cells #[.int .i64 0] 3)).alloc (.cells #[.pointer ra] 24)) = W5 at *
  have h5 := h.below hB0
  refine wpIn_rangeFunc_ownG rfl (by omega) (gf := 31) (lb := #[.pointer (some ⟨w.heap.size + 1 + 1 + 1 + 1, 0, none⟩)]) rfl trivial (enters_of Try.func31 (by kernel_rfl) rfl)
    (all_stops 5 (by omega) (w.heap.size + 1 + 1 + 1 + 1) n (.pointer ra) g (fun k => k = w.heap.size + 1 + 1 ∨ k = w.heap.size + 1 + 1 + 1) W5 (by omega) b4.cell h5) Cells.trans (fun W l o o' _ h1 h2 _ => Cells.book W l o o' h1 h2) (Below.refl _ _) (fun _ => rfl)
    (fun pre W => (Boxed W w.heap.size 29 (.slice a n cap) ∧ Boxed W (w.heap.size + 1) 3 (.int .i64 most) ∧ Boxed W (w.heap.size + 1 + 1) 4 (.bool false) ∧ Boxed W (w.heap.size + 1 + 1 + 1) 3 (.int .i64 (pre.length : Int))) ∧ Below w.heap.size w W)
    (fun c pre W => (c = .ret ∧ Ends n g (w.heap.size + 1 + 1) pre W) ∧ Below w.heap.size w W)
    (OwnFrom.and (Own.from (fun s A B row hs hg hr => ⟨boxed_kept hs.1 hg hr, boxed_kept hs.2.1 hg hr, boxed_kept hs.2.2.1 hg hr, boxed_kept hs.2.2.2 hg hr⟩) _) (ownFrom_below (Nat.le_refl _) (by omega)))
    (fun c => OwnFrom.and (Own.from (fun s A B row hs hg hr => by obtain ⟨hc, r, e1, e2⟩ := hs; exact ⟨hc, r, cell_kept e1 hg hr, e2⟩) _) (ownFrom_below (Nat.le_refl _) (by omega)))
    ⟨⟨c0, c1, c2, c3⟩, hB0⟩
    (fun x => { tmps := #[.pointer ra, .slice a n cap, .int .i64 most, undef, .pointer (some ⟨w.heap.size, 0, none⟩), .pointer (some ⟨w.heap.size + 1, 0, none⟩), .pointer (some ⟨w.heap.size + 1 + 1, 0, none⟩), .pointer (some ⟨w.heap.size + 1 + 1 + 1, 0, none⟩), .int .i64 (g x), .pointer ra, .func (.func 31) #[] #[.pointer (some ⟨w.heap.size + 1 + 1 + 1 + 1, 0, none⟩)], .int .i64 (g x), undef, undef, undef, undef, undef, undef, undef, undef, undef, undef, undef, undef, undef, undef, undef, undef, undef, undef, undef, undef, undef], defers := [] }) ?assign ?body ?done ?stop
  case assign =>
    intro l x W K hK
    gi_wp2
    exact hK
  case body =>
    rintro l pre x W ⟨⟨d0, d1, d2, d3⟩, hB⟩ hpre
    have k0 := d0.cell
    have k1 := d1.cell
    have k2 := d2.cell
    have k3 := d3.cell
    have f2 := d2.frozen
    have f3 := d3.frozen
    obtain ⟨b, off, rfl, hc⟩ := h3 pre.length hpre
    have hlc := (hB.cell (p := ⟨b, off + pre.length, none⟩) (World.block_lt_of_cell? _ _ hc)).trans hc
    have hln : (pre ++ [x]).length = pre.length + 1 := by simp
    clear hc h3 hv h c0 c1 c2 c3 b4 h5
    by_cases hm : (pre.length : Int) = most
    · subst hm
      gi_wp2
      exact ⟨(KeepsOthers.setCell _ _ _).from _, ⟨rfl, true, World.cell?_setCell_same' _ _ _ (by rw [k2]; rfl), .inl rfl⟩, hB.setCell (p := ⟨w.heap.size + 1 + 1, 0, none⟩) (by simp; omega) _⟩
    · have q1 : ((pre.length : Int) == most) = false := beq_false_of_ne hm
      have q2 : ¬ (n : Int) ≤ (pre.length : Int) := by omega
      have q3 : (pre.length : Int) < (n : Int) := by omega
      by_cases he : g x = g pre.length
      · rw [he]
        generalize g pre.length = y at *
        clear he hm
        gi_wp2
        refine ⟨(KeepsOthers.setCell _ _ _).from _, Cells.setCell _ _ _ (.inr rfl), ⟨d0.other (by omega) _, d1.other (by omega) _, d2.other (by omega) _, ?_⟩, hB.setCell (p := ⟨w.heap.size + 1 + 1 + 1, 0, none⟩) (by simp; omega) _⟩
        rw [hln, Int.natCast_add]
        exact d3.set _
      · have q4 : (g x == g pre.length) = false := beq_false_of_ne he
        have HE : Hid (∃ ini y, pre ++ [x] = ini ++ [y] ∧ ini.length < n ∧ g y ≠ g ini.length) := ⟨pre, x, rfl, hpre, he⟩
        generalize g pre.length = y at *
        generalize g x = z at *
        clear hm
        gi_wp2
        exact ⟨(KeepsOthers.setCell _ _ _).from _, ⟨rfl, false, World.cell?_setCell_same' _ _ _ (by rw [k2]; rfl), .inr HE.out⟩, hB.setCell (p := ⟨w.heap.size + 1 + 1, 0, none⟩) (by simp; omega) _⟩
  case done =>
    rintro D ys W hD rfl ⟨⟨d0, d1, d2, d3⟩, hB⟩ hK
    rw [List.length_range] at d3
    have k0 := d0.cell
    have k2 := d2.cell
    have k3 := d3.cell
    have f2 := d2.frozen
    have hK' : (W.setCell ⟨w.heap.size + 1 + 1, 0, none⟩ (.bool true)).heap[D]? = some (.deferred (some [])) := (KeepsOthers.setCell W _ _).same D _ hK rfl
    have k2' := cell_kept (World.cell?_setCell_same' W ⟨w.heap.size + 1 + 1, 0, none⟩ (.bool true) (by rw [k2]; rfl)) (grownBy_putObj' _ D (.deferred none)) (fun r e => by cases e; exact ⟨_, hK', rfl⟩)
    gi_wp2
    refine ⟨by simp, .inl ⟨_, _, rfl, run_takeDeferred hK', ?_⟩⟩
    refine ⟨.bool true, ?_, rfl, (hB.setCell (p := ⟨w.heap.size + 1 + 1, 0, none⟩) (by simp; omega) _).trans (belowK_b (w := w) (Nat.le_refl _) _ D _ _ (by omega) hK' rfl rfl)⟩
    simp [results, Try.results16, go_sem, k2']
  case stop =>
    rintro D c pre W hD ⟨k, hk, rfl⟩ ⟨⟨rfl, r, k2, hr⟩, hB⟩ hK
    obtain rfl : r = true := by
      rcases hr with h | ⟨ini, x, e1, e2, e3⟩
      · exact h
      · exfalso
        obtain ⟨k', rfl⟩ : ∃ k', k = k' + 1 := by
          cases k with
          | zero => simp at e1
          | succ k' => exact ⟨k', rfl⟩
        rw [List.range_succ] at e1
        obtain ⟨rfl, e5⟩ := List.append_inj' e1 rfl
        obtain rfl : k' = x := by simpa using e5
        rw [List.length_range] at e3
        exact e3 rfl
    gi_wp2
    refine ⟨by simp, .inl ⟨_, _, rfl, run_takeDeferred hK, ?_⟩⟩
    have k2' := cell_kept k2 (grownBy_putObj' W D (.deferred none)) (fun r e => by cases e; exact ⟨_, hK, rfl⟩)
    refine ⟨.bool true, ?_, rfl, hB.trans (belowK_b (w := w) (Nat.le_refl _) W D _ _ (by omega) hK rfl rfl)⟩
    simp [results, Try.results16, go_sem, k2']
end Go.Proofs.Ytdikjfajbjedcaa
