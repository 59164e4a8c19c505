/-
  Contracts of the functions that Encode hands on: each puts a field behind the others; the list lies in a cell of its own.
-/
import Derived.Deep.RegionLaw
import Derived.Test.YtdacmhnniecmhaaDoorHA
import Derived.Test.YtdacmhnniecmhaaDoorGB
import Derived.Test.YtdacmhnniecmhaaDoorGD
import Derived.Test.YtdacmhnniecmhaaDoorGA
namespace Go.Proofs.YtdacmhnniecmhaaDoor
open Go.ChangeShapes Go.WideShapes Go.ChangeAt Go.RowKit Go.Lib

/-- A list of fields whose slice lies in the cell of block lb, its array from block bs on. -/
structure LstB (w : World) (lb bs : Nat) (v : Value) (L : List Fd) : Prop where
  cell : w.cell? ⟨lb, 0, none⟩ = some v
  fz : w.frozen? ⟨lb, 0, none⟩ = false
  own : w.ownsRow bs 42 2 v L.length (cells2 L)
  ne : ¬ v.ownBlock = some lb
  lo : bs ≤ w.heap.size
theorem LstB.lt {w : World} {lb bs : Nat} {v : Value} {L : List Fd} (h : LstB w lb bs v L) : lb < w.heap.size := World.block_lt_of_cell? _ _ h.cell
theorem LstB.still {w w' : World} {lb bs : Nat} {v : Value} {L : List Fd} (h : LstB w lb bs v L) (hb : Below w.heap.size w w') : LstB w' lb bs v L :=
  ⟨(hb.cell (p := ⟨lb, 0, none⟩) h.lt).trans h.cell, (hb.frozen (p := ⟨lb, 0, none⟩) h.lt).trans h.fz, own_below h.own hb, h.ne, Nat.le_trans h.lo hb.size⟩
/-- The blocks that a list may write. -/
def LstS (lb : Nat) (v : Value) (j : Nat) : Prop := j = lb ∨ v.ownBlock = some j
/-- What putting a field comes to. -/
def PutOk (lb bs : Nat) (v : Value) (L : List Fd) (w w' : World) : Prop := ∃ v', LstB w' lb bs v' L ∧ But (LstS lb v) w w' ∧ (v'.ownBlock = v.ownBlock ∨ ∃ g, v'.ownBlock = some g ∧ w.heap.size ≤ g)
theorem lst_close {w w4 w5 : World} {lb bs : Nat} {v v5 : Value} {L : List Fd} {t : Int} {s : ByteArray} (h : LstB w4 lb bs v L ∧ Below w.heap.size w w4 ∧ w4.grownBy w5 v.ownBlock ∧ w5.ownsRow bs 42 2 v5 (L.length + 1) (cells2 L ++ fd2 (t, s)) ∧ (v5.ownBlock = v.ownBlock ∨ v5.ownBlock = some w4.heap.size)) :
    PutOk lb bs v (L ++ [(t, s)]) w (w5.setCell ⟨lb, 0, none⟩ v5) := by
  obtain ⟨F4, B4, hg5, own5, hat5⟩ := h
  have BG := But.of_grown hg5
  have x5 := (BG.cell (o := 0) F4.lt F4.ne).trans F4.cell
  have y5 := (BG.frozen (o := 0) F4.lt F4.ne).trans F4.fz
  have hB : But (fun j => j = lb) w5 (w5.setCell ⟨lb, 0, none⟩ v5) := (But.refl _ w5).setCell lb 0 _ (fun _ => rfl)
  have n5 : ¬ v5.ownBlock = some lb := fun e => by
    rcases hat5 with k | k
    · rw [k] at e
      exact F4.ne e
    · rw [k] at e
      have := F4.lt
      simp only [Option.some.injEq] at e
      omega
  refine ⟨v5, ⟨World.cell?_setCell_same _ _ _ x5, by rw [World.frozen?_setCell]; exact y5, ?_, n5, ?_⟩, ?_, ?_⟩
  · rw [cells2_more, List.length_append]
    exact own_kept own5 hB (fun g hg e => n5 (by rw [hg, e]))
  · have := hB.size
    have := BG.size
    have := F4.lo
    omega
  · have b1 : But (LstS lb v) w w4 := But.of_below B4
    have b2 := b1.trans BG (fun i _ e => .inr e)
    exact b2.trans hB (fun i _ e => .inl e)
  · rcases hat5 with e | e
    · exact .inl e
    · exact .inr ⟨_, e, B4.size⟩
theorem itoa13 (n : Nat) (hn : n ≤ 9223372036854775807) {w : World} (h : Pow w) :
    Calls Tryd.prog 18 #[.int .i64 (n : Int)] w fun e w' => e = .returned (.string (mk (decDigits n))) ∧ Below w.heap.size w w' := by
  have := Any.strconv_Itoa Tryd.laysM171 (n : Int) (by omega) (by omega) w h
  refine Calls.mono this ?_
  rintro e w' ⟨rfl, k, os, rfl⟩
  exact ⟨by rw [itoa_nonneg]; rfl, below_grow _ _ (Nat.le_refl _) _ _⟩
set_option maxRecDepth 1000000 in
set_option maxHeartbeats 4000000 in
theorem put1_at {w : World} {lb bs b off : Nat} {v : Value} {L : List Fd} (h : LstB w lb bs v L) (hL : L.length ≤ 1000) (tg : Int) (s : ByteArray) (cs : w.cell? ⟨b, off, none⟩ = some (.string s)) :
    Calls Tryd.prog 16 #[.int .i64 tg, .pointer (some ⟨b, off, none⟩), .pointer (some ⟨lb, 0, none⟩)] w fun e w' => e = .returned (.tuple #[]) ∧ PutOk lb bs v (L ++ [(tg, s)]) w w' := by
  obtain ⟨i0, hi0, hz0, hzs, hzb⟩ := info_parts infoA
  obtain ⟨a, cap, rfl⟩ := own_shape h.own
  have c0 := h.cell
  have H : Hid (LstB w lb bs (.slice a L.length cap) L) := h
  have HL : Hid (L.length ≤ 1000) := hL
  clear h hL
  have b1 : Below w.heap.size w (w.alloc (.cells #[.int .i64 tg, .string s] 42)) := (Below.refl _ w).alloc (Nat.le_refl _) _
  obtain ⟨w4, hw4⟩ : ∃ w4, w4 = (w.alloc (.cells #[.int .i64 tg, .string s] 42)).drew := ⟨_, rfl⟩
  have B4 : Below w.heap.size w w4 := by rw [hw4]; exact below_more b1 1
  have F4 := H.out.still B4
  have hcn : ∀ j u, (fd2 (tg, s))[j]? = some u → w4.cell? ((⟨w.heap.size, 0, none⟩ : Addr).add j) = some u := by rw [hw4]; exact cell_fd_new w (tg, s) 42
  obtain ⟨v5, w5, hr, own5, hg5, _, hat5⟩ := run_append_own_at (P := Tryd.prog) w4 bs 43 43 42 i0 (.agg #[.int .i64 0, .string ⟨#[]⟩]) 2 24 Tryd.underlying43 hi0 hz0 hzs hzb rfl (by decide) _ _ _ F4.own ⟨w.heap.size, 0, none⟩ 1 1 (fd2 (tg, s)) rfl hcn (fd2_one _) (by have := HL.out; unfold maxLen; omega) (by have := HL.out; omega) F4.lo
  have BG := But.of_grown hg5
  have x5 := (BG.cell (o := 0) F4.lt F4.ne).trans F4.cell
  have y5 := (BG.frozen (o := 0) F4.lt F4.ne).trans F4.fz
  have c4 : (w.alloc (.cells #[.int .i64 tg, .string s] 42)).cell? ⟨lb, 0, none⟩ = some (.slice a L.length cap) := (b1.cell (p := ⟨lb, 0, none⟩) H.out.lt).trans c0
  obtain ⟨a5, cap5, rfl⟩ := own_shape own5
  have HZ : Hid (LstB w4 lb bs (.slice a L.length cap) L ∧ Below w.heap.size w w4 ∧ w4.grownBy w5 (Value.slice a L.length cap).ownBlock ∧ w5.ownsRow bs 42 2 (.slice a5 (L.length + 1) cap5) (L.length + 1) (cells2 L ++ fd2 (tg, s)) ∧ ((Value.slice a5 (L.length + 1) cap5).ownBlock = (Value.slice a L.length cap).ownBlock ∨ (Value.slice a5 (L.length + 1) cap5).ownBlock = some w4.heap.size)) := ⟨F4, B4, hg5, own5, hat5⟩
  rw [hw4] at hr
  have HR : Hid ((Builtin.append_ #[43, 43] 43 #[.slice a L.length cap, .slice (some ⟨w.heap.size, 0, none⟩) 1 1]).run Tryd.prog (w.alloc (.cells #[.int .i64 tg, .string s] 42)).drew = .ok (.slice a5 (L.length + 1) cap5) w5) := hr
  clear hr own5 hg5 hat5 BG F4 B4 hcn hw4 b1
  go_enter Tryd.func16, Tryd.ntmps16
  go_wp2_with fail
  go_region_law (refine step_append_at rfl (.tmp 5) (.tmp 11) 43 rfl (.slice a L.length cap) (.slice (some ⟨w.heap.size, 0, none⟩) 1 1) (.slice a5 (L.length + 1) cap5) w5 rfl rfl HR.out ?_)
  all_goals (
    go_wp2_with fail
    go_end0
    exact ⟨rfl, lst_close HZ.out⟩)
set_option maxRecDepth 1000000 in
set_option maxHeartbeats 4000000 in
theorem put2_at {w : World} {lb bs b off : Nat} {v : Value} {L : List Fd} (h : LstB w lb bs v L) (hL : L.length ≤ 1000) (tg : Int) (n lo hi : Int) (s : ByteArray) (cs : w.cell? ⟨b, off, none⟩ = some (.int .i64 n))
    (TX : Calls Tryd.prog 18 #[.int .i64 n] w.drew fun e w' => e = .returned (.string s) ∧ Below w.heap.size w w') :
    Calls Tryd.prog 17 #[.int .i64 tg, .pointer (some ⟨b, off, none⟩), .int .i64 lo, .int .i64 hi, .pointer (some ⟨lb, 0, none⟩)] w fun e w' => e = .returned (.tuple #[]) ∧ PutOk lb bs v (L ++ [(tg, s)]) w w' := by
  obtain ⟨i0, hi0, hz0, hzs, hzb⟩ := info_parts infoA
  obtain ⟨a, cap, rfl⟩ := own_shape h.own
  have c0 := h.cell
  have H : Hid (LstB w lb bs (.slice a L.length cap) L) := h
  have HL : Hid (L.length ≤ 1000) := hL
  clear h hL
  go_enter Tryd.func17, Tryd.ntmps17
  go_wp2_with fail
  go_region_law (first
    | (refine step_append_at rfl (.tmp 9) (.tmp 16) 43 rfl (.slice a L.length cap) (.slice (some ⟨w1.heap.size, 0, none⟩) 1 1) (.slice a5 (L.length + 1) cap5) w5 rfl rfl HR.out ?_)
    | (go_simp; go_at_call 18; refine TX.mono ?_; rintro e w1 ⟨rfl, b1⟩
       obtain ⟨w4, hw4⟩ : ∃ w4, w4 = w1.alloc (.cells #[.int .i64 tg, .string s] 42) := ⟨_, rfl⟩
       have B4 : Below w.heap.size w w4 := by rw [hw4]; exact b1.alloc b1.size _
       have F4 := H.out.still B4
       have hcn : ∀ j u, (fd2 (tg, s))[j]? = some u → w4.cell? ((⟨w1.heap.size, 0, none⟩ : Addr).add j) = some u := by rw [hw4]; exact cell_fd_new w1 (tg, s) 42
       obtain ⟨v5, w5, hr, own5, hg5, _, hat5⟩ := run_append_own_at (P := Tryd.prog) w4 bs 43 43 42 i0 (.agg #[.int .i64 0, .string ⟨#[]⟩]) 2 24 Tryd.underlying43 hi0 hz0 hzs hzb rfl (by decide) _ _ _ F4.own ⟨w1.heap.size, 0, none⟩ 1 1 (fd2 (tg, s)) rfl hcn (fd2_one _) (by have := HL.out; unfold maxLen; omega) (by have := HL.out; omega) F4.lo
       have BG := But.of_grown hg5
       have x5 := (BG.cell (o := 0) F4.lt F4.ne).trans F4.cell
       have y5 := (BG.frozen (o := 0) F4.lt F4.ne).trans F4.fz
       have c1 := (b1.cell (p := ⟨lb, 0, none⟩) H.out.lt).trans c0
       have c4 : (w1.alloc (.cells #[.int .i64 tg, .string s] 42)).cell? ⟨lb, 0, none⟩ = some (.slice a L.length cap) := by rw [← hw4]; exact F4.cell
       obtain ⟨a5, cap5, rfl⟩ := own_shape own5
       have HZ : Hid (LstB w4 lb bs (.slice a L.length cap) L ∧ Below w.heap.size w w4 ∧ w4.grownBy w5 (Value.slice a L.length cap).ownBlock ∧ w5.ownsRow bs 42 2 (.slice a5 (L.length + 1) cap5) (L.length + 1) (cells2 L ++ fd2 (tg, s)) ∧ ((Value.slice a5 (L.length + 1) cap5).ownBlock = (Value.slice a L.length cap).ownBlock ∨ (Value.slice a5 (L.length + 1) cap5).ownBlock = some w4.heap.size)) := ⟨F4, B4, hg5, own5, hat5⟩
       rw [hw4] at hr
       have HR : Hid ((Builtin.append_ #[43, 43] 43 #[.slice a L.length cap, .slice (some ⟨w1.heap.size, 0, none⟩) 1 1]).run Tryd.prog (w1.alloc (.cells #[.int .i64 tg, .string s] 42)) = .ok (.slice a5 (L.length + 1) cap5) w5) := hr
       clear hr own5 hg5 hat5 BG F4 B4 hcn hw4 b1))
  all_goals (
    go_wp2_with fail
    go_end0
    exact ⟨rfl, lst_close HZ.out⟩)
end Go.Proofs.YtdacmhnniecmhaaDoor
/-
  The table of the kinds' letters in memory; the contract of tell's kindOf.
-/
namespace Go.Proofs.YtdacmhnniecmhaaDoor
open Go.ChangeShapes Go.WideShapes Go.ChangeAt Go.RowKit Go.Lib

/-- Five texts lie where the table of letters lies. -/
def Let5 (w : World) (l0 l1 l2 l3 l4 : ByteArray) : Prop := w.cell? ⟨0, 0, none⟩ = some (.string l0) ∧ w.cell? ⟨0, 1, none⟩ = some (.string l1) ∧ w.cell? ⟨0, 2, none⟩ = some (.string l2) ∧ w.cell? ⟨0, 3, none⟩ = some (.string l3) ∧ w.cell? ⟨0, 4, none⟩ = some (.string l4)
/-- The table of letters is laid. -/
def Let (w : World) : Prop := Let5 w ⟨#[]⟩ ⟨#[56]⟩ ⟨#[57]⟩ ⟨#[51]⟩ ⟨#[106]⟩
theorem Let5.below {w w' : World} {l0 l1 l2 l3 l4 : ByteArray} {n : Nat} (h : Let5 w l0 l1 l2 l3 l4) (hb : Below n w w') (hn : w.heap.size ≤ n) : Let5 w' l0 l1 l2 l3 l4 := by
  obtain ⟨h0, h1, h2, h3, h4⟩ := h
  have lt := Nat.lt_of_lt_of_le (World.block_lt_of_cell? _ _ h0) hn
  exact ⟨(hb.cell (p := ⟨0, 0, none⟩) lt).trans h0, (hb.cell (p := ⟨0, 1, none⟩) lt).trans h1, (hb.cell (p := ⟨0, 2, none⟩) lt).trans h2, (hb.cell (p := ⟨0, 3, none⟩) lt).trans h3, (hb.cell (p := ⟨0, 4, none⟩) lt).trans h4⟩
theorem Let.still {w w' : World} (h : Let w) (hb : Below w.heap.size w w') : Let w' := Let5.below h hb (Nat.le_refl _)
/-- The first of five texts that is s, or 0. -/
def firstL (l0 l1 l2 l3 l4 s : ByteArray) : Nat := if l0 = s then 0 else if l1 = s then 1 else if l2 = s then 2 else if l3 = s then 3 else if l4 = s then 4 else 0
theorem first_kind (s : ByteArray) : ((firstL ⟨#[]⟩ ⟨#[56]⟩ ⟨#[57]⟩ ⟨#[51]⟩ ⟨#[106]⟩ s : Nat) : Int) = kindOf s := by
  have sw : ∀ a : ByteArray, (a = s) = (s = a) := fun a => propext ⟨Eq.symm, Eq.symm⟩
  unfold firstL kindOf
  simp only [sw]
  by_cases h0 : s = ⟨#[]⟩
  · subst h0
    decide
  rw [if_neg h0]
  repeat' split
  all_goals first | rfl | omega
set_option maxHeartbeats 4000000 in
theorem kindOf_at (l0 l1 l2 l3 l4 s : ByteArray) (w : World) (h : Let5 w l0 l1 l2 l3 l4) :
    Calls Tryd.prog 30 #[.string s] w fun e w' => e = .returned (.int .i64 (firstL l0 l1 l2 l3 l4 s : Nat)) ∧ w' = w := by
  obtain ⟨h0, h1, h2, h3, h4⟩ := h
  have i0 : ∀ (w : World), (Instr.index 40 (.agg #[.string l0, .string l1, .string l2, .string l3, .string l4]) (.int .i64 0)).run Tryd.prog w = .ok (.string l0) w := fun _ => by kernel_rfl
  have i1 : ∀ (w : World), (Instr.index 40 (.agg #[.string l0, .string l1, .string l2, .string l3, .string l4]) (.int .i64 1)).run Tryd.prog w = .ok (.string l1) w := fun _ => by kernel_rfl
  have i2 : ∀ (w : World), (Instr.index 40 (.agg #[.string l0, .string l1, .string l2, .string l3, .string l4]) (.int .i64 2)).run Tryd.prog w = .ok (.string l2) w := fun _ => by kernel_rfl
  have i3 : ∀ (w : World), (Instr.index 40 (.agg #[.string l0, .string l1, .string l2, .string l3, .string l4]) (.int .i64 3)).run Tryd.prog w = .ok (.string l3) w := fun _ => by kernel_rfl
  have i4 : ∀ (w : World), (Instr.index 40 (.agg #[.string l0, .string l1, .string l2, .string l3, .string l4]) (.int .i64 4)).run Tryd.prog w = .ok (.string l4) w := fun _ => by kernel_rfl
  have q0 := beq_bytes l0 s
  have q1 := beq_bytes l1 s
  have q2 := beq_bytes l2 s
  have q3 := beq_bytes l3 s
  have q4 := beq_bytes l4 s
  go_enter Tryd.func30, Tryd.ntmps30
  go_wp2_with fail
  go_loopw [6] (fun i wr => ∃ k : Nat, i = .int .i64 (k : Int) ∧ k ≤ 5 ∧ Hid ((0 < k → l0 ≠ s) ∧ (1 < k → l1 ≠ s) ∧ (2 < k → l2 ≠ s) ∧ (3 < k → l3 ≠ s) ∧ (4 < k → l4 ≠ s)) ∧ wr = w) (fun i _ => 5 - (RowKit.intOf i).toNat)
  case atStart => exact ⟨0, rfl, by omega, ⟨fun h => absurd h (by omega), fun h => absurd h (by omega), fun h => absurd h (by omega), fun h => absurd h (by omega), fun h => absurd h (by omega)⟩, rfl⟩
  case round =>
    obtain ⟨k, rfl, hk, HN, rfl⟩ := hrel
    rcases (show k = 0 ∨ k = 1 ∨ k = 2 ∨ k = 3 ∨ k = 4 ∨ k = 5 by omega) with rfl | rfl | rfl | rfl | rfl | rfl
    · by_cases h : l0 = s
      · rw [decide_eq_true h] at q0
        have HE : Hid (firstL l0 l1 l2 l3 l4 s = 0) := by
          have H := HN.out
          show firstL l0 l1 l2 l3 l4 s = 0
          unfold firstL
          rw [if_pos h]
        clear h HN
        go_wp2_with fail
        go_ret
        exact ⟨by rw [HE.out]; rfl, rfl⟩
      · rw [decide_eq_false h] at q0
        have HN2 : Hid ((0 < 1 → l0 ≠ s) ∧ (1 < 1 → l1 ≠ s) ∧ (2 < 1 → l2 ≠ s) ∧ (3 < 1 → l3 ≠ s) ∧ (4 < 1 → l4 ≠ s)) := ⟨fun _ => h, fun g => absurd g (by omega), fun g => absurd g (by omega), fun g => absurd g (by omega), fun g => absurd g (by omega)⟩
        clear h HN
        go_wp2_with fail
        go_roundw
        case rel => exact ⟨1, by first | rfl | simp, by omega, HN2, by first | trivial | rfl⟩
        case measure => simp [RowKit.intOf]
    · by_cases h : l1 = s
      · rw [decide_eq_true h] at q1
        have HE : Hid (firstL l0 l1 l2 l3 l4 s = 1) := by
          have H := HN.out
          show firstL l0 l1 l2 l3 l4 s = 1
          unfold firstL
          rw [if_neg (H.1 (by omega)), if_pos h]
        clear h HN
        go_wp2_with fail
        go_ret
        exact ⟨by rw [HE.out]; rfl, rfl⟩
      · rw [decide_eq_false h] at q1
        have HN2 : Hid ((0 < 2 → l0 ≠ s) ∧ (1 < 2 → l1 ≠ s) ∧ (2 < 2 → l2 ≠ s) ∧ (3 < 2 → l3 ≠ s) ∧ (4 < 2 → l4 ≠ s)) := ⟨fun _ => HN.out.1 (by omega), fun _ => h, fun g => absurd g (by omega), fun g => absurd g (by omega), fun g => absurd g (by omega)⟩
        clear h HN
        go_wp2_with fail
        go_roundw
        case rel => exact ⟨2, by first | rfl | simp, by omega, HN2, by first | trivial | rfl⟩
        case measure => simp [RowKit.intOf]
    · by_cases h : l2 = s
      · rw [decide_eq_true h] at q2
        have HE : Hid (firstL l0 l1 l2 l3 l4 s = 2) := by
          have H := HN.out
          show firstL l0 l1 l2 l3 l4 s = 2
          unfold firstL
          rw [if_neg (H.1 (by omega)), if_neg (H.2.1 (by omega)), if_pos h]
        clear h HN
        go_wp2_with fail
        go_ret
        exact ⟨by rw [HE.out]; rfl, rfl⟩
      · rw [decide_eq_false h] at q2
        have HN2 : Hid ((0 < 3 → l0 ≠ s) ∧ (1 < 3 → l1 ≠ s) ∧ (2 < 3 → l2 ≠ s) ∧ (3 < 3 → l3 ≠ s) ∧ (4 < 3 → l4 ≠ s)) := ⟨fun _ => HN.out.1 (by omega), fun _ => HN.out.2.1 (by omega), fun _ => h, fun g => absurd g (by omega), fun g => absurd g (by omega)⟩
        clear h HN
        go_wp2_with fail
        go_roundw
        case rel => exact ⟨3, by first | rfl | simp, by omega, HN2, by first | trivial | rfl⟩
        case measure => simp [RowKit.intOf]
    · by_cases h : l3 = s
      · rw [decide_eq_true h] at q3
        have HE : Hid (firstL l0 l1 l2 l3 l4 s = 3) := by
          have H := HN.out
          show firstL l0 l1 l2 l3 l4 s = 3
          unfold firstL
          rw [if_neg (H.1 (by omega)), if_neg (H.2.1 (by omega)), if_neg (H.2.2.1 (by omega)), if_pos h]
        clear h HN
        go_wp2_with fail
        go_ret
        exact ⟨by rw [HE.out]; rfl, rfl⟩
      · rw [decide_eq_false h] at q3
        have HN2 : Hid ((0 < 4 → l0 ≠ s) ∧ (1 < 4 → l1 ≠ s) ∧ (2 < 4 → l2 ≠ s) ∧ (3 < 4 → l3 ≠ s) ∧ (4 < 4 → l4 ≠ s)) := ⟨fun _ => HN.out.1 (by omega), fun _ => HN.out.2.1 (by omega), fun _ => HN.out.2.2.1 (by omega), fun _ => h, fun g => absurd g (by omega)⟩
        clear h HN
        go_wp2_with fail
        go_roundw
        case rel => exact ⟨4, by first | rfl | simp, by omega, HN2, by first | trivial | rfl⟩
        case measure => simp [RowKit.intOf]
    · by_cases h : l4 = s
      · rw [decide_eq_true h] at q4
        have HE : Hid (firstL l0 l1 l2 l3 l4 s = 4) := by
          have H := HN.out
          show firstL l0 l1 l2 l3 l4 s = 4
          unfold firstL
          rw [if_neg (H.1 (by omega)), if_neg (H.2.1 (by omega)), if_neg (H.2.2.1 (by omega)), if_neg (H.2.2.2.1 (by omega)), if_pos h]
        clear h HN
        go_wp2_with fail
        go_ret
        exact ⟨by rw [HE.out]; rfl, rfl⟩
      · rw [decide_eq_false h] at q4
        have HN2 : Hid ((0 < 5 → l0 ≠ s) ∧ (1 < 5 → l1 ≠ s) ∧ (2 < 5 → l2 ≠ s) ∧ (3 < 5 → l3 ≠ s) ∧ (4 < 5 → l4 ≠ s)) := ⟨fun _ => HN.out.1 (by omega), fun _ => HN.out.2.1 (by omega), fun _ => HN.out.2.2.1 (by omega), fun _ => HN.out.2.2.2.1 (by omega), fun _ => h⟩
        clear h HN
        go_wp2_with fail
        go_roundw
        case rel => exact ⟨5, by first | rfl | simp, by omega, HN2, by first | trivial | rfl⟩
        case measure => simp [RowKit.intOf]
    · have HE : Hid (firstL l0 l1 l2 l3 l4 s = 0) := by
        have H := HN.out
        show firstL l0 l1 l2 l3 l4 s = 0
        unfold firstL
        rw [if_neg (H.1 (by omega)), if_neg (H.2.1 (by omega)), if_neg (H.2.2.1 (by omega)), if_neg (H.2.2.2.1 (by omega)), if_neg (H.2.2.2.2 (by omega))]
      clear HN
      go_wp2_with fail
      go_ret
      exact ⟨by rw [HE.out]; rfl, rfl⟩
theorem kindOf_any (s : ByteArray) (w : World) (h : Let w) :
    Calls Tryd.prog 30 #[.string s] w fun e w' => e = .returned (.int .i64 (kindOf s)) ∧ w' = w := by
  refine (kindOf_at ⟨#[]⟩ ⟨#[56]⟩ ⟨#[57]⟩ ⟨#[51]⟩ ⟨#[106]⟩ s w h).mono ?_
  rintro e w' ⟨rfl, rfl⟩
  rw [first_kind]
  exact ⟨rfl, rfl⟩
end Go.Proofs.YtdacmhnniecmhaaDoor
/-
  The contract of tell's Encode, for every tell.
-/
namespace Go.Proofs.YtdacmhnniecmhaaDoor
open Go.ChangeShapes Go.WideShapes Go.ChangeAt Go.RowKit Go.Lib

/-- A field of a tell, with its text. -/
def Pl.fld (p : Pl) (t : TellP) : Fd := (p.tag, p.text t)
/-- Where Encode stands behind some fields; sb: the list of places. -/
def EJ (W : World) (sb b lb : Nat) (F0 : List Fd) (t : TellP) (L : List Pl) (i : Nat) (w : World) : Prop := ∃ v, LstB w lb W.heap.size v (F0 ++ (L.take i).map fun p => p.fld t) ∧ TellAt w b t ∧ ¬ v.ownBlock = some b ∧ ¬ v.ownBlock = some sb ∧ Below W.heap.size W w
theorem EJ.next {W wa wb : World} {sb b lb : Nat} {F0 : List Fd} {t : TellP} {L : List Pl} {i : Nat} (hi : i < L.length) {v : Value} (h : LstB wa lb W.heap.size v (F0 ++ (L.take i).map fun p => p.fld t)) (hb : TellAt wa b t) (nb : ¬ v.ownBlock = some b) (ns : ¬ v.ownBlock = some sb) (B : Below W.heap.size W wa) (ls : sb < wa.heap.size) (nlb : b ≠ lb) (llb : W.heap.size ≤ lb) (P : PutOk lb W.heap.size v ((F0 ++ (L.take i).map fun p => p.fld t) ++ [(L[i].tag, L[i].text t)]) wa wb) : EJ W sb b lb F0 t L (i + 1) wb := by
  obtain ⟨v', L', B', hv⟩ := P
  have nS : ¬ LstS lb v b := fun e => e.elim nlb nb
  have away : ∀ j, j < wa.heap.size → ¬ v.ownBlock = some j → ¬ v'.ownBlock = some j := fun j hj hn e => by
    rcases hv with k | ⟨g, k, hg⟩
    · rw [k] at e
      exact hn e
    · rw [k] at e
      simp only [Option.some.injEq] at e
      omega
  refine ⟨v', ?_, hb.but B' nS, away b hb.lt nb, away sb ls ns, B.trans (B'.below B.size (fun j e => ?_))⟩
  · rw [List.take_succ_eq_append_getElem hi, List.map_append, ← List.append_assoc]
    exact L'
  · rcases e with rfl | e
    · exact llb
    · exact (h.own.lt j e).1
set_option maxHeartbeats 4000000 in
theorem encode_each {W w : World} {b lb : Nat} {v : Value} {F0 : List Fd} {t : TellP} (R : RightP t) (P : Pow W) (h : LstB w lb W.heap.size v F0) (hF : F0.length ≤ 100) (hb : TellAt w b t) (nb : ¬ v.ownBlock = some b) (B : Below W.heap.size W w) (nlb : b ≠ lb) (llb : W.heap.size ≤ lb) :
    Calls Tryd.prog 15 #[.pointer (some ⟨b, 0, none⟩), .func (.func 16) #[] #[.pointer (some ⟨lb, 0, none⟩)], .func (.func 17) #[] #[.pointer (some ⟨lb, 0, none⟩)]] w fun e w' => e = .returned (.tuple #[]) ∧ (∃ v', LstB w' lb W.heap.size v' (F0 ++ (listK (t.2 0)).map fun p => (p.tag, p.text t))) ∧ Below W.heap.size W w' := by
  have nl : w.heap.size ≠ lb := by have := h.lt; omega
  have ns : ¬ v.ownBlock = some w.heap.size := fun e => by have := (h.own.lt _ e).2; omega
  have l8 := list_len (t.2 0)
  refine (eachEncode R.kind.1 R.kind.2 hb.kind (EJ W w.heap.size b lb F0 t (listK (t.2 0))) (fun w' k => ⟨v, by rw [List.take_zero, List.map_nil, List.append_nil]; exact h.still k, hb.still k, nb, ns, B.trans (k.mono B.size)⟩) ?_ ?_ ?_).mono ?_
  · rintro i wa wb ⟨v1, L1, T1, n1, s1, B1⟩ k
    exact ⟨v1, L1.still k, T1.still k, n1, s1, B1.trans (k.mono B1.size)⟩
  · rintro i hi hn wa ⟨v1, L1, T1, n1, s1, B1⟩ lw
    obtain ⟨_, _, _, _, e5, e6, e7⟩ := list_ends _ _ (List.getElem_mem hi)
    have tx : ((listK (t.2 0))[i]).text t = t.1 ((listK (t.2 0))[i]).off := by unfold Pl.text; rw [if_pos hn]
    refine (put1_at L1 (by simp; omega) _ _ (T1.text e5 e7 hn)).mono ?_
    rintro e wb ⟨rfl, P2⟩
    refine ⟨rfl, EJ.next hi L1 T1 n1 s1 B1 lw nlb llb (by rw [tx]; exact P2), fun o => ?_⟩
    obtain ⟨_, _, B2, _⟩ := P2
    exact B2.cell lw (fun e => e.elim nl s1)
  · rintro i hi hn wa ⟨v1, L1, T1, n1, s1, B1⟩ lw
    obtain ⟨_, _, e3, e4, e5, e6, e7⟩ := list_ends _ _ (List.getElem_mem hi)
    have hn' : ¬ ((listK (t.2 0))[i]).isName = true := by rw [hn]; decide
    have tx : ((listK (t.2 0))[i]).text t = numT (t.2 ((listK (t.2 0))[i]).off) := by unfold Pl.text; rw [if_neg hn']
    have ok := R.all _ (List.getElem_mem hi)
    unfold Pl.okB at ok
    rw [if_neg hn'] at ok
    have ok := of_decide_eq_true ok
    have TX := itoa13 (t.2 ((listK (t.2 0))[i]).off).toNat (by omega) (P.still (below_more B1 1))
    rw [show (((t.2 ((listK (t.2 0))[i]).off).toNat : Nat) : Int) = t.2 ((listK (t.2 0))[i]).off by omega] at TX
    refine (put2_at L1 (by simp; omega) _ _ _ _ (numT (t.2 ((listK (t.2 0))[i]).off)) (T1.num e5 e7 hn) (TX.mono fun e w' ⟨he, hb⟩ => ⟨he, below_of_drew hb⟩)).mono ?_
    rintro e wb ⟨rfl, P2⟩
    refine ⟨rfl, EJ.next hi L1 T1 n1 s1 B1 lw nlb llb (by rw [tx]; exact P2), fun o => ?_⟩
    obtain ⟨_, _, B2, _⟩ := P2
    exact B2.cell lw (fun e => e.elim nl s1)
  · rintro e w' ⟨rfl, v1, L1, T1, n1, s1, B1⟩
    rw [List.take_length] at L1
    exact ⟨rfl, ⟨v1, L1⟩, B1⟩
theorem lst_one (w : World) (t : Int) (s : ByteArray) : LstB ((w.alloc (.cells #[.int .i64 t, .string s] 42)).alloc (.cells #[.slice (some ⟨w.heap.size, 0, none⟩) 1 1] 43)) (w.heap.size + 1) w.heap.size (.slice (some ⟨w.heap.size, 0, none⟩) 1 1) [(t, s)] := by
  have hz : (w.alloc (.cells #[.int .i64 t, .string s] 42)).heap.size = w.heap.size + 1 := by simp
  have own : (w.alloc (.cells #[.int .i64 t, .string s] 42)).ownsRow w.heap.size 42 2 (.slice (some ⟨w.heap.size, 0, none⟩) 1 1) 1 (fd2 (t, s)) := World.ownsRow_lit (e := 42) (size := 2) (base := w.heap.size) w #[.int .i64 t, .string s] 1 (Nat.le_refl _) (by unfold maxLen; omega) rfl
  refine ⟨?_, ?_, ?_, ?_, ?_⟩
  · rw [← hz]; simp
  · rw [← hz]; simp
  · exact own.alloc _
  · simp [Value.ownBlock]
  · simp; omega
/-- The letter of a kind in the table. -/
theorem Let.at {w : World} (h : Let w) {K : Nat} (h1 : 1 ≤ K) (h4 : K ≤ 4) : w.cell? ⟨0, K, none⟩ = some (.string (wordT (K : Int))) := by
  obtain ⟨_, l1, l2, l3, l4⟩ := h
  rcases (show K = 1 ∨ K = 2 ∨ K = 3 ∨ K = 4 by omega) with rfl | rfl | rfl | rfl
  · exact l1
  · exact l2
  · exact l3
  · exact l4
set_option maxHeartbeats 4000000 in
theorem encode_yes (t : TellP) (w : World) (R : RightP t) (hl : Let w) (hp : Pow w) :
    Calls Tryd.prog 8 #[.agg #[.int .i64 (t.2 0), .string (t.1 1), .string (t.1 2), .int .i64 (t.2 3), .int .i64 (t.2 4), .int .i64 (t.2 5), .int .i64 (t.2 6), .int .i64 (t.2 7), .int .i64 (t.2 8), .int .i64 (t.2 9)]] w fun e w' => e = .returned (.tuple #[.string (mk (cat (fieldsT t))), .int .i64 0]) ∧ Below w.heap.size w w' := by
  obtain ⟨ok, l64⟩ := right_allOk R
  have fe : formsE (fieldsT t) = (cat (fieldsT t), 0) := by
    unfold formsE
    rw [if_neg (by omega), formsA_all _ _ ok]
    rfl
  have RT0 := right_any t (boxT w t)
  rw [(right_iff t).2 R] at RT0
  have HB0 : Hid (Below w.heap.size w (boxT w t)) := boxT_below w t
  have HA0 : Hid (TellAt (boxT w t) w.heap.size t) := TellAt.box w t
  obtain ⟨K, hK⟩ : ∃ K : Nat, t.2 0 = (K : Int) := ⟨(t.2 0).toNat, by have := R.kind; omega⟩
  have k1 : 1 ≤ K := by have := R.kind; omega
  have k4 : K ≤ 4 := by have := R.kind; omega
  have HF : Hid (fieldsT t = [(35, wordT (K : Int))] ++ (listK (t.2 0)).map fun p => (p.tag, p.text t)) := by
    show fieldsT t = _
    unfold fieldsT
    rw [hK]
    rfl
  have HR : Hid (RightP t) := R
  have HL : Hid (Let w) := hl
  have HP : Hid (Pow w) := hp
  have HFE : Hid (formsE (fieldsT t) = (cat (fieldsT t), 0)) := fe
  have H64 : Hid ((fieldsT t).length ≤ 64) := l64
  unfold boxT at RT0 HB0 HA0
  rw [hK] at RT0 HB0 HA0 ⊢
  have kb : (K : Int) < 5 := by omega
  have HK : Hid (1 ≤ K ∧ K ≤ 4) := ⟨k1, k4⟩
  clear R hl hp ok l64 fe hK k1 k4
  go_enter Tryd.func8, Tryd.ntmps8
  go_wp2_with fail
  refine RT0.mono ?_
  rintro e w1 ⟨rfl, b1⟩
  have HB1 : Hid (Below w.heap.size w w1) := HB0.out.trans (b1.mono HB0.out.size)
  have HA1 : Hid (TellAt w1 w.heap.size t) := HA0.out.still b1
  have cl := (HL.out.still HB1.out).at HK.out.1 HK.out.2
  have cK := (b1.cell (p := ⟨w.heap.size, 0, none⟩) (by simp)).trans (show _ = some (Value.int .i64 (K : Int)) by simp)
  have BB : Below w1.heap.size w1 ((w1.alloc (.cells #[.int .i64 35, .string (wordT (K : Int))] 42)).alloc (.cells #[.slice (some ⟨w1.heap.size, 0, none⟩) 1 1] 43)) := ((Below.refl _ w1).alloc (Nat.le_refl _) _).alloc (by simp) _
  have E := encode_each (W := w1) HR.out (HP.out.still HB1.out) (lst_one w1 35 (wordT (K : Int))) (by simp) (HA1.out.still BB) (by have := HA1.out.lt; simp [Value.ownBlock]; omega) BB (by have := HA1.out.lt; omega) (by omega)
  rw [← HF.out] at E
  clear RT0 b1 HA1 BB
  generalize wordT (K : Int) = wd at *
  go_wp2_with fail
  refine E.mono ?_
  rintro e w2 ⟨rfl, ⟨v2, L2⟩, b2⟩
  have c2 := L2.cell
  have HB2 : Hid (Below w.heap.size w w2) := HB1.out.trans (b2.mono HB1.out.size)
  have FO := forms_all v2 (fieldsT t) w2 (flds_of_own L2.own) (by have := H64.out; omega) (HP.out.still HB2.out)
  rw [HFE.out] at FO
  clear E L2 b2
  go_wp2_with fail
  refine FO.mono ?_
  rintro e w3 ⟨rfl, b3⟩
  go_wp2_with fail
  go_ret2
  exact ⟨rfl, HB2.out.trans (b3.mono HB2.out.size)⟩
set_option maxHeartbeats 4000000 in
theorem encode_no (t : TellP) (w : World) (R : rightB t = false) :
    Calls Tryd.prog 8 #[.agg #[.int .i64 (t.2 0), .string (t.1 1), .string (t.1 2), .int .i64 (t.2 3), .int .i64 (t.2 4), .int .i64 (t.2 5), .int .i64 (t.2 6), .int .i64 (t.2 7), .int .i64 (t.2 8), .int .i64 (t.2 9)]] w fun e w' => e = .returned (.tuple #[.string ⟨#[]⟩, .int .i64 2]) ∧ Below w.heap.size w w' := by
  have RT0 := right_any t (boxT w t)
  rw [R] at RT0
  have HB0 : Hid (Below w.heap.size w (boxT w t)) := boxT_below w t
  clear R
  go_enter Tryd.func8, Tryd.ntmps8
  go_wp2_with fail
  refine RT0.mono ?_
  rintro e w1 ⟨rfl, b1⟩
  go_wp2_with fail
  go_ret2
  exact ⟨rfl, HB0.out.trans (b1.mono HB0.out.size)⟩
/-- What Encode answers of a tell. -/
def encE (t : TellP) : List UInt8 × Int := if rightB t = true then (cat (fieldsT t), 0) else ([], 2)
theorem encode_any (t : TellP) (w : World) (hl : Let w) (hp : Pow w) :
    Calls Tryd.prog 8 #[.agg #[.int .i64 (t.2 0), .string (t.1 1), .string (t.1 2), .int .i64 (t.2 3), .int .i64 (t.2 4), .int .i64 (t.2 5), .int .i64 (t.2 6), .int .i64 (t.2 7), .int .i64 (t.2 8), .int .i64 (t.2 9)]] w fun e w' => e = .returned (.tuple #[.string (mk (encE t).1), .int .i64 (encE t).2]) ∧ Below w.heap.size w w' := by
  unfold encE
  by_cases R : rightB t = true
  · rw [if_pos R]
    exact encode_yes t w ((right_iff t).1 R) hl hp
  · rw [if_neg R]
    exact encode_no t w (by simpa using R)
end Go.Proofs.YtdacmhnniecmhaaDoor
