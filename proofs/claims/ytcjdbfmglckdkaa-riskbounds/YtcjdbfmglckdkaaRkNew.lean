/-
  Contract of risk's New.
-/
import Derived.Test.YtcjdbfmglckdkaaRkBook
namespace Go.Proofs.Ytcjdbfmglckdkaa.RK
open Go.ChangeShapes Go.WideShapes Go.ChangeAt Go.RowKit Go.Lib

theorem info_purse : (Try.prog.info? 50).map (fun i => (i.zero, i.size, i.bytes)) = some (some (.agg #[.int .i64 0, .int .i64 0]), 2, 16) := by kernel_rfl
theorem info_hold : (Try.prog.info? 61).map (fun i => (i.zero, i.size, i.bytes)) = some (some (.agg #[.int .i64 0, .int .i64 0, .bool false]), 3, 24) := by kernel_rfl
theorem run_make_purses (K : Nat) (hK : K ≤ 1024) (w : World) : (Instr.makeSlice 36 (.int .i64 (K : Int)) (.int .i64 (K : Int))).run Try.prog w = .ok (.slice (some ⟨w.heap.size, 0, none⟩) K K) (w.alloc (.cells (madeCells #[.int .i64 0, .int .i64 0] (K * 2)) 50)) := by
  obtain ⟨i0, hi0, hz0, hzs, hzb⟩ := info_parts info_purse
  have := run_make (P := Try.prog) w 36 50 i0 _ Try.underlying36 hi0 hz0 .i64 .i64 (K : Int) (K : Int) (by omega) (by omega) (by rw [hzb]; omega) (by omega)
  rw [hzs, Int.toNat_natCast] at this
  exact this
theorem run_make_holds (K : Nat) (hK : K ≤ 1024) (w : World) : (Instr.makeSlice 37 (.int .i64 (K : Int)) (.int .i64 (K : Int))).run Try.prog w = .ok (.slice (some ⟨w.heap.size, 0, none⟩) K K) (w.alloc (.cells (madeCells #[.int .i64 0, .int .i64 0, .bool false] (K * 3)) 61)) := by
  obtain ⟨i0, hi0, hz0, hzs, hzb⟩ := info_parts info_hold
  have := run_make (P := Try.prog) w 37 61 i0 _ Try.underlying37 hi0 hz0 .i64 .i64 (K : Int) (K : Int) (by omega) (by omega) (by rw [hzb]; omega) (by omega)
  rw [hzs, Int.toNat_natCast] at this
  exact this
theorem made_purse (K i : Nat) (h : i < K) : (madeCells #[.int .i64 0, .int .i64 0] (K * 2))[i * 2]? = some (.int .i64 0) ∧ (madeCells #[.int .i64 0, .int .i64 0] (K * 2))[i * 2 + 1]? = some (.int .i64 0) := by
  have h1 : i * 2 % 2 = 0 := by omega
  have h2 : (i * 2 + 1) % 2 = 1 := by omega
  have h3 : i * 2 < K * 2 := by omega
  have h4 : i * 2 + 1 < K * 2 := by omega
  exact ⟨by simp [madeCells, h3, h1], by simp [madeCells, h4, h2]⟩
theorem made_hold (K i : Nat) (h : i < K) : (madeCells #[.int .i64 0, .int .i64 0, .bool false] (K * 3))[i * 3]? = some (.int .i64 0) ∧ (madeCells #[.int .i64 0, .int .i64 0, .bool false] (K * 3))[i * 3 + 1]? = some (.int .i64 0) ∧ (madeCells #[.int .i64 0, .int .i64 0, .bool false] (K * 3))[i * 3 + 2]? = some (.bool false) := by
  have h1 : i * 3 % 3 = 0 := by omega
  have h2 : (i * 3 + 1) % 3 = 1 := by omega
  have h5 : (i * 3 + 2) % 3 = 2 := by omega
  have h3 : i * 3 < K * 3 := by omega
  have h4 : i * 3 + 1 < K * 3 := by omega
  have h6 : i * 3 + 2 < K * 3 := by omega
  exact ⟨by simp [madeCells, h3, h1], by simp [madeCells, h4, h2], by simp [madeCells, h6, h5]⟩
theorem cell_made (w : World) (A : Array Value) (T : TypeId) (j : Nat) (x : Value) (h : A[j]? = some x) : (w.alloc (.cells A T)).cell? ⟨w.heap.size, j, none⟩ = some x := by
  simp [h]
/-- New's accounts while they are laid: the first k have their limits. -/
structure Built (w wr : World) (n : Nat) (L : Nat → Int) (k : Nat) : Prop where
  bel : Below w.heap.size w wr
  size : wr.heap.size = w.heap.size + 1
  lo : ∀ i, i < k → wr.cell? ⟨w.heap.size, i * 2, none⟩ = some (.int .i64 (L i))
  hi : ∀ i, k ≤ i → i < n → wr.cell? ⟨w.heap.size, i * 2, none⟩ = some (.int .i64 0)
  re : ∀ i, i < n → wr.cell? ⟨w.heap.size, i * 2 + 1, none⟩ = some (.int .i64 0)
  th : ∀ j, wr.frozen? ⟨w.heap.size, j, none⟩ = false
theorem Built.start (w : World) (n : Nat) (L : Nat → Int) : Built w (w.alloc (.cells (madeCells #[.int .i64 0, .int .i64 0] (n * 2)) 50)) n L 0 :=
  ⟨(Below.refl _ w).alloc (Nat.le_refl _) _, by simp, fun i hi => absurd hi (by omega), fun i _ hi => cell_made _ _ _ _ _ (made_purse n i hi).1, fun i hi => cell_made _ _ _ _ _ (made_purse n i hi).2, fun j => by simp⟩
theorem Built.next {w wr : World} {n : Nat} {L : Nat → Int} {k : Nat} (h : Built w wr n L k) (hk : k < n) : Built w (wr.setCell ⟨w.heap.size, k * 2, none⟩ (.int .i64 (L k))) n L (k + 1) := by
  have ho : ∀ o, o ≠ k * 2 → (wr.setCell ⟨w.heap.size, k * 2, none⟩ (.int .i64 (L k))).cell? ⟨w.heap.size, o, none⟩ = wr.cell? ⟨w.heap.size, o, none⟩ := fun o h1 => by
    rw [World.cell?_setCell_other _ _ _ _ (by intro e; injection e with _ e2; exact h1 e2.symm)]
  refine ⟨h.bel.setCell (Nat.le_refl _) _, by simp [h.size], fun i hi => ?_, fun i h1 h2 => by rw [ho _ (by omega)]; exact h.hi i (by omega) h2, fun i hi => by rw [ho _ (by omega)]; exact h.re i hi, fun j => by rw [World.frozen?_setCell]; exact h.th j⟩
  by_cases e : i = k
  · subst e
    exact World.cell?_setCell_same' _ _ _ (by rw [h.hi i (Nat.le_refl _) hk]; rfl)
  · rw [ho _ (by omega)]; exact h.lo i (by omega)
/-- Behind it the slots are laid, and the book. -/
theorem Built.whole {w wr : World} {n : Nat} {L : Nat → Int} (h : Built w wr n L n) {m : Nat} (F : Fit n L m) (B : Nat) (hB : B ≤ w.heap.size) :
    BookAt ((wr.alloc (.cells (madeCells #[.int .i64 0, .int .i64 0, .bool false] (m * 3)) 61)).alloc (.cells #[.slice (some ⟨w.heap.size, 0, none⟩) n n, .slice (some ⟨w.heap.size + 1, 0, none⟩) m m] 39)) B (w.heap.size + 2) w.heap.size (w.heap.size + 1) (newB n L m) := by
  have hs := h.size
  have e1 : (wr.alloc (.cells (madeCells #[.int .i64 0, .int .i64 0, .bool false] (m * 3)) 61)).heap.size = w.heap.size + 2 := by simp [hs]
  have b1 := (Below.refl wr.heap.size wr).alloc (Nat.le_refl _) (.cells (madeCells #[.int .i64 0, .int .i64 0, .bool false] (m * 3)) 61)
  have cm := fun j x => cell_made wr (madeCells #[.int .i64 0, .int .i64 0, .bool false] (m * 3)) 61 j x
  have fm : ∀ j, (wr.alloc (.cells (madeCells #[.int .i64 0, .int .i64 0, .bool false] (m * 3)) 61)).frozen? ⟨wr.heap.size, j, none⟩ = false := fun j => by simp
  generalize wr.alloc (.cells (madeCells #[.int .i64 0, .int .i64 0, .bool false] (m * 3)) 61) = w2 at *
  have b2 := (Below.refl w2.heap.size w2).alloc (Nat.le_refl _) (.cells #[.slice (some ⟨w.heap.size, 0, none⟩) n n, .slice (some ⟨w.heap.size + 1, 0, none⟩) m m] 39)
  have cp := fun j x => cell_made w2 #[.slice (some ⟨w.heap.size, 0, none⟩) n n, .slice (some ⟨w.heap.size + 1, 0, none⟩) m m] 39 j x
  generalize w2.alloc (.cells #[.slice (some ⟨w.heap.size, 0, none⟩) n n, .slice (some ⟨w.heap.size + 1, 0, none⟩) m m] 39) = w3 at *
  rw [e1] at cp b2
  rw [hs] at cm fm b1
  have g1 : ∀ o, w3.cell? ⟨w.heap.size, o, none⟩ = wr.cell? ⟨w.heap.size, o, none⟩ := fun o => by
    rw [b2.cell (p := ⟨w.heap.size, o, none⟩) (by show w.heap.size < _; omega), b1.cell (p := ⟨w.heap.size, o, none⟩) (by show w.heap.size < _; omega)]
  have h1 : ∀ o, w3.cell? ⟨w.heap.size + 1, o, none⟩ = w2.cell? ⟨w.heap.size + 1, o, none⟩ := fun o => by
    rw [b2.cell (p := ⟨w.heap.size + 1, o, none⟩) (by show w.heap.size + 1 < _; omega)]
  have k1 : ∀ o, w3.frozen? ⟨w.heap.size, o, none⟩ = wr.frozen? ⟨w.heap.size, o, none⟩ := fun o => by
    rw [(But.of_below (S := fun _ => False) (e1 ▸ b2 : Below w2.heap.size w2 w3)).frozen (by omega) id, (But.of_below (S := fun _ => False) (hs ▸ b1 : Below wr.heap.size wr w2)).frozen (by omega) id]
  have k2 : ∀ o, w3.frozen? ⟨w.heap.size + 1, o, none⟩ = w2.frozen? ⟨w.heap.size + 1, o, none⟩ := fun o => by
    rw [(But.of_below (S := fun _ => False) (e1 ▸ b2 : Below w2.heap.size w2 w3)).frozen (by omega) id]
  exact ⟨⟨cp 0 _ rfl, cp 1 _ rfl, fun a ha => by rw [g1]; exact h.lo a ha, fun a ha => by rw [g1]; exact h.re a ha, fun i hi => by rw [h1]; exact cm _ _ (made_hold m i hi).1, fun i hi => by rw [h1]; exact cm _ _ (made_hold m i hi).2.1, fun i hi => by rw [h1]; exact cm _ _ (made_hold m i hi).2.2, fun j => by rw [k1]; exact h.th j, fun j => by rw [k2]; exact fm j, by omega, by omega, by omega, by omega, by omega, by omega⟩, new_good F⟩
set_option maxHeartbeats 2000000 in
theorem new_out {w : World} {v : Value} {n : Nat} {L : Nat → Int} (h : Row w v n fun i => .int .i64 (L i)) (s : Int) (ho : n < 1 ∨ 16 < n ∨ s < 1 ∨ 64 < s) :
    Calls Try.prog 8 #[v, .int .i64 s] w fun e w' => e = .returned (.tuple #[.pointer none, .int .i64 2]) ∧ w' = w := by
  obtain ⟨a, cap, rfl, _, _, _⟩ := h
  by_cases h1 : (n : Int) < 1
  · clear ho
    go_enter Try.func8, Try.ntmps8
    go_wp2
    go_ret2
    exact ⟨rfl, rfl⟩
  by_cases h2 : (16 : Int) < (n : Int)
  · clear ho
    go_enter Try.func8, Try.ntmps8
    go_wp2
    go_ret2
    exact ⟨rfl, rfl⟩
  by_cases h3 : s < 1
  · clear ho
    go_enter Try.func8, Try.ntmps8
    go_wp2
    go_ret2
    exact ⟨rfl, rfl⟩
  · have h4 : 64 < s := by omega
    clear ho
    go_enter Try.func8, Try.ntmps8
    go_wp2
    go_ret2
    exact ⟨rfl, rfl⟩
set_option maxRecDepth 100000 in
set_option maxHeartbeats 4000000 in
/-- New of limits and slots that are not too few or too many: nothing, if a limit is not within its ends; else a book. -/
theorem new_in {w : World} {v : Value} {n m : Nat} {L : Nat → Int} (h : Row w v n fun i => .int .i64 (L i)) (a1 : 1 ≤ n) (a2 : n ≤ 16) (s1 : 1 ≤ m) (s2 : m ≤ 64) (B : Nat) (hB : B ≤ w.heap.size) :
    Calls Try.prog 8 #[v, .int .i64 (m : Int)] w fun e w' => Below w.heap.size w w' ∧ ((e = .returned (.tuple #[.pointer none, .int .i64 2]) ∧ ∃ i, i < n ∧ inL (L i) = false) ∨ (e = .returned (.tuple #[.pointer (some ⟨w.heap.size + 2, 0, none⟩), .int .i64 0]) ∧ Fit n L m ∧ BookAt w' B (w.heap.size + 2) w.heap.size (w.heap.size + 1) (newB n L m) ∧ w'.heap.size = w.heap.size + 3)) := by
  obtain ⟨a, cap, rfl, q1, q2, h3⟩ := h
  unfold maxLen at q2
  have hmk := run_make_purses n (by omega)
  have hmk2 := run_make_holds m (by omega)
  have st := Built.start w n L
  obtain ⟨A, HA⟩ : ∃ A, madeCells #[.int .i64 0, .int .i64 0] (n * 2) = A := ⟨_, rfl⟩
  rw [HA] at hmk st
  obtain ⟨A2, HA2⟩ : ∃ A, Hid (madeCells #[.int .i64 0, .int .i64 0, .bool false] (m * 3) = A) := ⟨_, rfl⟩
  rw [HA2.out] at hmk2
  have ST : Hid (Built w (w.alloc (.cells A 50)) n L 0) := st
  clear HA st
  have t1 : ¬ (n : Int) < 1 := by omega
  have t2 : ¬ (16 : Int) < (n : Int) := by omega
  have t3 : ¬ (m : Int) < 1 := by omega
  have t4 : ¬ (64 : Int) < (m : Int) := by omega
  have HB : Hid (B ≤ w.heap.size) := hB
  have HF : Hid ((∀ i, i < n → inL (L i) = true) → Fit n L m) := fun h => ⟨a1, a2, s1, s2, h⟩
  clear hB
  go_enter Try.func8, Try.ntmps8
  go_wp2_with fail
  go_loopw [30] (fun c wr => ∃ k : Nat, c = .int .i64 (k : Int) ∧ k ≤ n ∧ Hid (∀ i, i < k → inL (L i) = true) ∧ Hid (Built w wr n L k)) (fun c _ => n - (RowKit.intOf c).toNat)
  case atStart => exact ⟨0, rfl, Nat.zero_le _, fun i hi => absurd hi (by omega), ST.out⟩
  case round =>
    obtain ⟨k, rfl, hk, hI, hR⟩ := hrel
    clear ST
    by_cases hlt : k < n
    · obtain ⟨b, off, rfl, c0⟩ := h3 k hlt
      have d0 := (hR.out.bel.cell (p := ⟨b, off + k, none⟩) (World.block_lt_of_cell? _ _ c0)).trans c0
      have F := within_any (L k) 4611686018427387904 wr
      have t5 : (k : Int) < (n : Int) := by omega
      cases hl : inL (L k)
      · rw [show (decide (0 ≤ L k) && decide (L k ≤ 4611686018427387904)) = false from hl] at F
        clear h3 c0
        obtain ⟨y, hy⟩ : ∃ y, L k = y := ⟨_, rfl⟩
        have HL : Hid (inL (L k) = false) := hl
        rw [hy] at d0 F
        clear hl hy
        go_wp2_with fail
        refine F.mono ?_
        rintro e w1 ⟨rfl, rfl⟩
        go_wp2_with fail
        go_ret2
        exact ⟨hR.out.bel, .inl ⟨rfl, k, hlt, HL.out⟩⟩
      · rw [show (decide (0 ≤ L k) && decide (L k ≤ 4611686018427387904)) = true from hl] at F
        have o0 := hR.out.hi k (Nat.le_refl _) hlt
        have z0 := hR.out.th (k * 2)
        have hN : Hid (Built w (wr.setCell ⟨w.heap.size, k * 2, none⟩ (.int .i64 (L k))) n L (k + 1)) := hR.out.next hlt
        have HI : Hid (∀ i, i < k + 1 → inL (L i) = true) := fun i hi => if e : i = k then by subst e; exact hl else hI.out i (by omega)
        clear h3 c0 hl hR hI
        generalize L k = y at *
        go_wp2_with fail
        refine F.mono ?_
        rintro e w1 ⟨rfl, rfl⟩
        go_wp2_with fail
        go_roundw
        case rel => exact ⟨k + 1, by simp, by omega, HI.out, hN.out⟩
        case measure => simp [RowKit.intOf]; omega
    · obtain rfl : k = n := by omega
      have t5 : ¬ (k : Int) < (k : Int) := by omega
      have hs : wr.heap.size = w.heap.size + 1 := hR.out.size
      have HW : Hid _ := hR.out.whole (HF.out hI.out) B HB.out
      rw [HA2.out] at HW
      have HS : Hid (Below w.heap.size w wr) := hR.out.bel
      clear h3 hR
      go_wp2_with fail
      go_ret2
      exact ⟨(HS.out.alloc (by omega) _).alloc (by simp; omega) _, .inr ⟨rfl, HF.out hI.out, HW.out, by simp; omega⟩⟩
end Go.Proofs.Ytcjdbfmglckdkaa.RK
