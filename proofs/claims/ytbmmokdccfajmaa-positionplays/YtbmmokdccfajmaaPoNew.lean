/-
  Contract of position's New.
-/
import Derived.Test.YtbmmokdccfajmaaPoBook
namespace Go.Proofs.Ytbmmokdccfajmaa.PO
open Go.ChangeShapes Go.WideShapes Go.ChangeAt Go.RowKit Go.Lib

theorem info_line : (Try.prog.info? 68).map (fun i => (i.zero, i.size, i.bytes)) = some (some (.agg #[.int .i64 0, .int .i64 0, .int .i64 0, .int .i64 0]), 4, 32) := by kernel_rfl
theorem info_lines : (Try.prog.info? 48).map (fun i => (i.zero, i.size, i.bytes)) = some (some (.slice none 0 0), 1, 24) := by kernel_rfl
theorem run_make_rows (K : Nat) (hK : K ≤ 1024) (w : World) : (Instr.makeSlice 37 (.int .i64 (K : Int)) (.int .i64 (K : Int))).run Try.prog w = .ok (.slice (some ⟨w.heap.size, 0, none⟩) K K) (w.alloc (.cells (madeCells #[.slice none 0 0] (K * 1)) 48)) := by
  obtain ⟨i0, hi0, hz0, hzs, hzb⟩ := info_parts info_lines
  have := run_make (P := Try.prog) w 37 48 i0 _ Try.underlying37 hi0 hz0 .i64 .i64 (K : Int) (K : Int) (by omega) (by omega) (by rw [hzb]; omega) (by omega)
  rw [hzs, Int.toNat_natCast] at this
  exact this
theorem run_make_lines (K : Nat) (hK : K ≤ 1024) (w : World) : (Instr.makeSlice 48 (.int .i64 (K : Int)) (.int .i64 (K : Int))).run Try.prog w = .ok (.slice (some ⟨w.heap.size, 0, none⟩) K K) (w.alloc (.cells (madeCells #[.int .i64 0, .int .i64 0, .int .i64 0, .int .i64 0] (K * 4)) 68)) := by
  obtain ⟨i0, hi0, hz0, hzs, hzb⟩ := info_parts info_line
  have := run_make (P := Try.prog) w 48 68 i0 _ Try.underlying48 hi0 hz0 .i64 .i64 (K : Int) (K : Int) (by omega) (by omega) (by rw [hzb]; omega) (by omega)
  rw [hzs, Int.toNat_natCast] at this
  exact this
theorem made_row (K i : Nat) (h : i < K) : (madeCells #[.slice none 0 0] (K * 1))[i]? = some (.slice none 0 0) := by
  simp [madeCells, h, Nat.mod_one]
theorem made_line (K j : Nat) (h : j < K * 4) : (madeCells #[.int .i64 0, .int .i64 0, .int .i64 0, .int .i64 0] (K * 4))[j]? = some (.int .i64 0) := by
  have h1 : j % 4 = 0 ∨ j % 4 = 1 ∨ j % 4 = 2 ∨ j % 4 = 3 := by omega
  rcases h1 with e | e | e | e <;> simp [madeCells, h, e]
theorem cell_made (w : World) (A : Array Value) (T : TypeId) (j : Nat) (x : Value) (h : A[j]? = some x) : (w.alloc (.cells A T)).cell? ⟨w.heap.size, j, none⟩ = some x := by
  simp [h]
/-- New's rows while they are laid: the first k are there. -/
structure Built (w wr : World) (n m k : Nat) : Prop where
  bel : Below w.heap.size w wr
  size : wr.heap.size = w.heap.size + 2 + k
  cA : wr.cell? ⟨w.heap.size + 1, 0, none⟩ = some (.slice (some ⟨w.heap.size, 0, none⟩) n n)
  lo : ∀ i, i < k → wr.cell? ⟨w.heap.size, i, none⟩ = some (.slice (some ⟨w.heap.size + 2 + i, 0, none⟩) m m)
  hi : ∀ i, k ≤ i → i < n → wr.cell? ⟨w.heap.size, i, none⟩ = some (.slice none 0 0)
  va : ∀ i j, i < k → j < m * 4 → wr.cell? ⟨w.heap.size + 2 + i, j, none⟩ = some (.int .i64 0)
  th : ∀ i j, i < k → wr.frozen? ⟨w.heap.size + 2 + i, j, none⟩ = false
  tg : ∀ j, wr.frozen? ⟨w.heap.size, j, none⟩ = false
theorem Built.drew {w wr : World} {n m k : Nat} (h : Built w wr n m k) : Built w wr.drew n m k := ⟨h.bel.drew, h.size, h.cA, h.lo, h.hi, h.va, h.th, h.tg⟩
theorem Built.start (w : World) (n m : Nat) : Built w ((w.alloc (.cells (madeCells #[.slice none 0 0] (n * 1)) 48)).alloc (.cells #[.slice (some ⟨w.heap.size, 0, none⟩) n n] 39)) n m 0 := by
  have cm := fun j x => cell_made w (madeCells #[.slice none 0 0] (n * 1)) 48 j x
  have b1 := (Below.refl w.heap.size w).alloc (Nat.le_refl _) (.cells (madeCells #[.slice none 0 0] (n * 1)) 48)
  have fm : ∀ j, (w.alloc (.cells (madeCells #[.slice none 0 0] (n * 1)) 48)).frozen? ⟨w.heap.size, j, none⟩ = false := fun j => by simp
  have e1 : (w.alloc (.cells (madeCells #[.slice none 0 0] (n * 1)) 48)).heap.size = w.heap.size + 1 := by simp
  generalize w.alloc (.cells (madeCells #[.slice none 0 0] (n * 1)) 48) = w1 at *
  have cp := cell_made w1 #[.slice (some ⟨w.heap.size, 0, none⟩) n n] 39 0 _ rfl
  have b2 := (Below.refl w1.heap.size w1).alloc (Nat.le_refl _) (.cells #[.slice (some ⟨w.heap.size, 0, none⟩) n n] 39)
  have e2 : (w1.alloc (.cells #[.slice (some ⟨w.heap.size, 0, none⟩) n n] 39)).heap.size = w1.heap.size + 1 := by simp
  rw [e1] at cp
  refine ⟨b1.trans (b2.mono (by omega)), by rw [e2, e1], cp, fun i hi => absurd hi (by omega), fun i _ hi => ?_, fun i j hi => absurd hi (by omega), fun i j hi => absurd hi (by omega), fun j => ?_⟩
  · rw [b2.cell (p := ⟨w.heap.size, i, none⟩) (by show w.heap.size < _; omega)]
    exact cm _ _ (made_row n i hi)
  · rw [b2.frozen (p := ⟨w.heap.size, j, none⟩) (by show w.heap.size < _; omega)]
    exact fm j
theorem Built.next {w wr : World} {n m k : Nat} (h : Built w wr n m k) (hk : k < n) : Built w ((wr.setCell ⟨w.heap.size, k, none⟩ (.slice (some ⟨w.heap.size + 2 + k, 0, none⟩) m m)).alloc (.cells (madeCells #[.int .i64 0, .int .i64 0, .int .i64 0, .int .i64 0] (m * 4)) 68)) n m (k + 1) := by
  have c1 : ∀ o, o ≠ k → (wr.setCell ⟨w.heap.size, k, none⟩ (.slice (some ⟨w.heap.size + 2 + k, 0, none⟩) m m)).cell? ⟨w.heap.size, o, none⟩ = wr.cell? ⟨w.heap.size, o, none⟩ := fun o h1 => by
    rw [World.cell?_setCell_other _ _ _ _ (by intro e; injection e with _ e2; exact h1 e2.symm)]
  have c2 : (wr.setCell ⟨w.heap.size, k, none⟩ (.slice (some ⟨w.heap.size + 2 + k, 0, none⟩) m m)).cell? ⟨w.heap.size, k, none⟩ = some (.slice (some ⟨w.heap.size + 2 + k, 0, none⟩) m m) := World.cell?_setCell_same' _ _ _ (by rw [h.hi k (Nat.le_refl _) hk]; rfl)
  have c3 : ∀ b o, b ≠ w.heap.size → (wr.setCell ⟨w.heap.size, k, none⟩ (.slice (some ⟨w.heap.size + 2 + k, 0, none⟩) m m)).cell? ⟨b, o, none⟩ = wr.cell? ⟨b, o, none⟩ := fun b o h1 => by
    rw [World.cell?_setCell_other _ _ _ _ (by intro e; injection e with e1; exact h1 e1.symm)]
  have f1 : ∀ p, (wr.setCell ⟨w.heap.size, k, none⟩ (.slice (some ⟨w.heap.size + 2 + k, 0, none⟩) m m)).frozen? p = wr.frozen? p := fun p => World.frozen?_setCell _ _ _ _
  have z : (wr.setCell ⟨w.heap.size, k, none⟩ (.slice (some ⟨w.heap.size + 2 + k, 0, none⟩) m m)).heap.size = w.heap.size + 2 + k := by simp [h.size]
  have hb : Below w.heap.size w (wr.setCell ⟨w.heap.size, k, none⟩ (.slice (some ⟨w.heap.size + 2 + k, 0, none⟩) m m)) := h.bel.setCell (Nat.le_refl _) _
  generalize wr.setCell ⟨w.heap.size, k, none⟩ (.slice (some ⟨w.heap.size + 2 + k, 0, none⟩) m m) = w1 at *
  have cm := fun j x => cell_made w1 (madeCells #[.int .i64 0, .int .i64 0, .int .i64 0, .int .i64 0] (m * 4)) 68 j x
  have fm : ∀ j, (w1.alloc (.cells (madeCells #[.int .i64 0, .int .i64 0, .int .i64 0, .int .i64 0] (m * 4)) 68)).frozen? ⟨w1.heap.size, j, none⟩ = false := fun j => by simp
  have b2 := (Below.refl w1.heap.size w1).alloc (Nat.le_refl _) (.cells (madeCells #[.int .i64 0, .int .i64 0, .int .i64 0, .int .i64 0] (m * 4)) 68)
  have e2 : (w1.alloc (.cells (madeCells #[.int .i64 0, .int .i64 0, .int .i64 0, .int .i64 0] (m * 4)) 68)).heap.size = w1.heap.size + 1 := by simp
  generalize w1.alloc (.cells (madeCells #[.int .i64 0, .int .i64 0, .int .i64 0, .int .i64 0] (m * 4)) 68) = w2 at *
  rw [z] at cm fm
  have g1 : ∀ b o, b < w.heap.size + 2 + k → w2.cell? ⟨b, o, none⟩ = w1.cell? ⟨b, o, none⟩ := fun b o hb => b2.cell (p := ⟨b, o, none⟩) (by show b < _; omega)
  have g2 : ∀ b o, b < w.heap.size + 2 + k → w2.frozen? ⟨b, o, none⟩ = w1.frozen? ⟨b, o, none⟩ := fun b o hb => b2.frozen (p := ⟨b, o, none⟩) (by show b < _; omega)
  refine ⟨hb.trans (b2.mono hb.size), by omega, by rw [g1 _ _ (by omega), c3 _ _ (by omega)]; exact h.cA, fun i hi => ?_, fun i h1 h2 => by rw [g1 _ _ (by omega), c1 _ (by omega)]; exact h.hi i (by omega) h2, fun i j hi hj => ?_, fun i j hi => ?_, fun j => by rw [g2 _ _ (by omega), f1]; exact h.tg j⟩
  · rw [g1 _ _ (by omega)]
    by_cases e : i = k
    · subst e; exact c2
    · rw [c1 _ e]; exact h.lo i (by omega)
  · by_cases e : i = k
    · subst e; exact cm _ _ (made_line m j hj)
    · rw [g1 _ _ (by omega), c3 _ _ (by omega)]; exact h.va i j (by omega) hj
  · by_cases e : i = k
    · subst e; exact fm j
    · rw [g2 _ _ (by omega), f1]; exact h.th i j (by omega)
theorem Built.whole {w wr : World} {n m : Nat} (h : Built w wr n m n) (a1 : 1 ≤ n) (a2 : n ≤ 16) (s1 : 1 ≤ m) (s2 : m ≤ 16) : PosAt wr w.heap.size (newP n m) :=
  ⟨h.cA, fun a ha => h.lo a ha, fun a j ha hj => h.va a j ha hj, fun a j ha => h.th a j ha, new_good a1 a2 s1 s2⟩
set_option maxHeartbeats 2000000 in
theorem new_out (n s : Int) (w : World) (ho : n < 1 ∨ 16 < n ∨ s < 1 ∨ 16 < s) :
    Calls Try.prog 7 #[.int .i64 n, .int .i64 s] w fun e w' => e = .returned (.tuple #[.pointer none, .int .i64 2]) ∧ w' = w := by
  have F1 := upTo_any n 16 w
  have F2 := upTo_any s 16 w
  cases h1 : upB n 16
  · rw [h1] at F1
    clear ho
    go_enter Try.func7, Try.ntmps7
    go_wp2_with fail
    refine F1.mono ?_
    rintro e w1 ⟨rfl, rfl⟩
    go_wp2_with fail
    go_ret2
    exact ⟨rfl, rfl⟩
  · have h2 : upB s 16 = false := by
      have h3 := (up_iff n 16).1 h1
      cases h4 : upB s 16
      · rfl
      · have h5 := (up_iff s 16).1 h4
        omega
    rw [h1] at F1
    rw [h2] at F2
    clear ho
    go_enter Try.func7, Try.ntmps7
    go_wp2_with fail
    refine F1.mono ?_
    rintro e w1 ⟨rfl, rfl⟩
    go_wp2_with fail
    refine F2.mono ?_
    rintro e w2 ⟨rfl, rfl⟩
    go_wp2_with fail
    go_ret2
    exact ⟨rfl, rfl⟩
set_option maxRecDepth 100000 in
set_option maxHeartbeats 4000000 in
/-- New of accounts and symbols that are not too few or too many. -/
theorem new_in (n m : Nat) (w : World) (a1 : 1 ≤ n) (a2 : n ≤ 16) (s1 : 1 ≤ m) (s2 : m ≤ 16) :
    Calls Try.prog 7 #[.int .i64 (n : Int), .int .i64 (m : Int)] w fun e w' => e = .returned (.tuple #[.pointer (some ⟨w.heap.size + 1, 0, none⟩), .int .i64 0]) ∧ PosAt w' w.heap.size (newP n m) ∧ Below w.heap.size w w' ∧ w'.heap.size = w.heap.size + 2 + n := by
  have F1 := upTo_any (n : Int) 16 w
  have F2 := upTo_any (m : Int) 16 w
  rw [(up_iff (n : Int) 16).2 (by omega)] at F1
  rw [(up_iff (m : Int) 16).2 (by omega)] at F2
  have hmk := run_make_rows n (by omega)
  have hmk2 := run_make_lines m (by omega)
  have st := Built.start w n m
  have nx := fun (wr : World) (k : Nat) (h : Built w wr n m k) (hk : k < n) => h.next hk
  obtain ⟨A, HA⟩ : ∃ A, madeCells #[.slice none 0 0] (n * 1) = A := ⟨_, rfl⟩
  rw [HA] at hmk st
  obtain ⟨A2, HA2⟩ : ∃ A, madeCells #[.int .i64 0, .int .i64 0, .int .i64 0, .int .i64 0] (m * 4) = A := ⟨_, rfl⟩
  rw [HA2] at hmk2 nx
  have ST : Hid (Built w ((w.alloc (.cells A 48)).alloc (.cells #[.slice (some ⟨w.heap.size, 0, none⟩) n n] 39)) n m 0) := st
  have NX : Hid (∀ (wr : World) (k : Nat), Built w wr n m k → k < n → Built w ((wr.setCell ⟨w.heap.size, k, none⟩ (.slice (some ⟨w.heap.size + 2 + k, 0, none⟩) m m)).alloc (.cells A2 68)) n m (k + 1)) := nx
  clear HA HA2 st nx
  go_enter Try.func7, Try.ntmps7
  go_wp2_with fail
  refine F1.mono ?_
  rintro e w1 ⟨rfl, rfl⟩
  go_wp2_with fail
  refine F2.mono ?_
  rintro e w2 ⟨rfl, rfl⟩
  go_wp2_with fail
  go_loopw [25] (fun c wr => ∃ k : Nat, c = .int .i64 (k : Int) ∧ k ≤ n ∧ Hid (Built w2 wr n m k)) (fun c _ => n - (RowKit.intOf c).toNat)
  case atStart => exact ⟨0, rfl, Nat.zero_le _, ST.out⟩
  case round =>
    obtain ⟨k, rfl, hk, hR⟩ := hrel
    clear ST
    by_cases hlt : k < n
    · have d0 := hR.out.cA
      have o0 := hR.out.hi k (Nat.le_refl _) hlt
      have z0 := hR.out.tg k
      have hs := hR.out.size
      have t5 : (k : Int) < (n : Int) := by omega
      have HN := NX.out wr k hR.out hlt
      rw [← hs] at HN
      have HN2 : Hid (Built w2 _ n m (k + 1)) := HN
      have hgl := World.block_lt_of_cell? _ _ o0
      have hgp := World.block_lt_of_cell? _ _ d0
      simp only at hgl hgp
      clear HN hR NX hs
      go_wp2_with fail
      go_region
      all_goals
        go_wp2_with fail
        go_roundw
        case rel => exact ⟨k + 1, by simp, by omega, HN2.out.drew⟩
        case measure => simp [RowKit.intOf]; omega
    · obtain rfl : k = n := by omega
      have t5 : ¬ (k : Int) < (k : Int) := by omega
      clear NX
      go_wp2_with fail
      go_ret2
      exact ⟨rfl, hR.out.whole a1 a2 s1 s2, hR.out.bel, hR.out.size⟩
end Go.Proofs.Ytbmmokdccfajmaa.PO
