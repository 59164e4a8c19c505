/-
  Contracts of the functions that Encode hands on: each puts a field behind the others; the list lies in a cell of its own.
-/
import Derived.Test.YtdacmhnniecmhaaDoorTellEach
import Derived.Test.YtdacmhnniecmhaaDoorTellMath
import Derived.Test.YtdacmhnniecmhaaDoorTagFields
import Derived.Test.YtdacmhnniecmhaaDoorBodyRead
import Derived.Deep.RegionLaw
namespace Go.Proofs.YtdacmhnniecmhaaDoor
open Go.ChangeShapes Go.WideShapes Go.ChangeAt Go.RowKit Go.Lib

/-- A list of fields whose slice lies in the cell of block lb, its array from block bs on. -/
structure LstB (w : World) (lb bs : Nat) (v : Value) (L : List Fd) : Prop where
  cell : w.cell? ⟨lb, 0, none⟩ = some v
  fz : w.frozen? ⟨lb, 0, none⟩ = false
  own : w.ownsRow bs 42 2 v L.length (cells2 L)
  ne : ¬ v.ownBlock = some lb
  lo : bs ≤ w.heap.size
theorem LstB.lt {w : World} {lb bs : Nat} {v : Value} {L : List Fd} (h : LstB w lb bs v L) : lb < w.heap.size := World.block_lt_of_cell? _ _ h.cell
theorem LstB.still {w w' : World} {lb bs : Nat} {v : Value} {L : List Fd} (h : LstB w lb bs v L) (hb : Below w.heap.size w w') : LstB w' lb bs v L :=
  ⟨(hb.cell (p := ⟨lb, 0, none⟩) h.lt).trans h.cell, (hb.frozen (p := ⟨lb, 0, none⟩) h.lt).trans h.fz, own_below h.own hb, h.ne, Nat.le_trans h.lo hb.size⟩
/-- The blocks that a list may write. -/
def LstS (lb : Nat) (v : Value) (j : Nat) : Prop := j = lb ∨ v.ownBlock = some j
/-- What putting a field comes to. -/
def PutOk (lb bs : Nat) (v : Value) (L : List Fd) (w w' : World) : Prop := ∃ v', LstB w' lb bs v' L ∧ But (LstS lb v) w w' ∧ (v'.ownBlock = v.ownBlock ∨ ∃ g, v'.ownBlock = some g ∧ w.heap.size ≤ g)
theorem lst_close {w w4 w5 : World} {lb bs : Nat} {v v5 : Value} {L : List Fd} {t : Int} {s : ByteArray} (h : LstB w4 lb bs v L ∧ Below w.heap.size w w4 ∧ w4.grownBy w5 v.ownBlock ∧ w5.ownsRow bs 42 2 v5 (L.length + 1) (cells2 L ++ fd2 (t, s)) ∧ (v5.ownBlock = v.ownBlock ∨ v5.ownBlock = some w4.heap.size)) :
    PutOk lb bs v (L ++ [(t, s)]) w (w5.setCell ⟨lb, 0, none⟩ v5) := by
  obtain ⟨F4, B4, hg5, own5, hat5⟩ := h
  have BG := But.of_grown hg5
  have x5 := (BG.cell (o := 0) F4.lt F4.ne).trans F4.cell
  have y5 := (BG.frozen (o := 0) F4.lt F4.ne).trans F4.fz
  have hB : But (fun j => j = lb) w5 (w5.setCell ⟨lb, 0, none⟩ v5) := (But.refl _ w5).setCell lb 0 _ (fun _ => rfl)
  have n5 : ¬ v5.ownBlock = some lb := fun e => by
    rcases hat5 with k | k
    · rw [k] at e
      exact F4.ne e
    · rw [k] at e
      have := F4.lt
      simp only [Option.some.injEq] at e
      omega
  refine ⟨v5, ⟨World.cell?_setCell_same _ _ _ x5, by rw [World.frozen?_setCell]; exact y5, ?_, n5, ?_⟩, ?_, ?_⟩
  · rw [cells2_more, List.length_append]
    exact own_kept own5 hB (fun g hg e => n5 (by rw [hg, e]))
  · have := hB.size
    have := BG.size
    have := F4.lo
    omega
  · have b1 : But (LstS lb v) w w4 := But.of_below B4
    have b2 := b1.trans BG (fun i _ e => .inr e)
    exact b2.trans hB (fun i _ e => .inl e)
  · rcases hat5 with e | e
    · exact .inl e
    · exact .inr ⟨_, e, B4.size⟩
theorem itoa13 (n : Nat) (hn : n ≤ 9223372036854775807) {w : World} (h : Pow w) :
    Calls Tryd.prog 18 #[.int .i64 (n : Int)] w fun e w' => e = .returned (.string (mk (decDigits n))) ∧ Below w.heap.size w w' := by
  have := Any.strconv_Itoa Tryd.laysM171 (n : Int) (by omega) (by omega) w h
  refine Calls.mono this ?_
  rintro e w' ⟨rfl, k, os, rfl⟩
  exact ⟨by rw [itoa_nonneg]; rfl, below_grow _ _ (Nat.le_refl _) _ _⟩
set_option maxRecDepth 1000000 in
set_option maxHeartbeats 4000000 in
theorem put1_at {w : World} {lb bs b off : Nat} {v : Value} {L : List Fd} (h : LstB w lb bs v L) (hL : L.length ≤ 1000) (tg : Int) (s : ByteArray) (cs : w.cell? ⟨b, off, none⟩ = some (.string s)) :
    Calls Tryd.prog 16 #[.int .i64 tg, .pointer (some ⟨b, off, none⟩), .pointer (some ⟨lb, 0, none⟩)] w fun e w' => e = .returned (.tuple #[]) ∧ PutOk lb bs v (L ++ [(tg, s)]) w w' := by
  obtain ⟨i0, hi0, hz0, hzs, hzb⟩ := info_parts infoA
  obtain ⟨a, cap, rfl⟩ := own_shape h.own
  have c0 := h.cell
  have H : Hid (LstB w lb bs (.slice a L.length cap) L) := h
  have HL : Hid (L.length ≤ 1000) := hL
  clear h hL
  have b1 : Below w.heap.size w (w.alloc (.cells #[.int .i64 tg, .string s] 42)) := (Below.refl _ w).alloc (Nat.le_refl _) _
  obtain ⟨w4, hw4⟩ : ∃ w4, w4 = (w.alloc (.cells #[.int .i64 tg, .string s] 42)).drew := ⟨_, rfl⟩
  have B4 : Below w.heap.size w w4 := by rw [hw4]; exact below_more b1 1
  have F4 := H.out.still B4
  have hcn : ∀ j u, (fd2 (tg, s))[j]? = some u → w4.cell? ((⟨w.heap.size, 0, none⟩ : Addr).add j) = some u := by rw [hw4]; exact cell_fd_new w (tg, s) 42
  obtain ⟨v5, w5, hr, own5, hg5, _, hat5⟩ := run_append_own_at (P := Tryd.prog) w4 bs 43 43 42 i0 (.agg #[.int .i64 0, .string ⟨#[]⟩]) 2 24 Tryd.underlying43 hi0 hz0 hzs hzb rfl (by decide) _ _ _ F4.own ⟨w.heap.size, 0, none⟩ 1 1 (fd2 (tg, s)) rfl hcn (fd2_one _) (by have := HL.out; unfold maxLen; omega) (by have := HL.out; omega) F4.lo
  have BG := But.of_grown hg5
  have x5 := (BG.cell (o := 0) F4.lt F4.ne).trans F4.cell
  have y5 := (BG.frozen (o := 0) F4.lt F4.ne).trans F4.fz
  have c4 : (w.alloc (.cells #[.int .i64 tg, .string s] 42)).cell? ⟨lb, 0, none⟩ = some (.slice a L.length cap) := (b1.cell (p := ⟨lb, 0, none⟩) H.out.lt).trans c0
  obtain ⟨a5, cap5, rfl⟩ := own_shape own5
  have HZ : Hid (LstB w4 lb bs (.slice a L.length cap) L ∧ Below w.heap.size w w4 ∧ w4.grownBy w5 (Value.slice a L.length cap).ownBlock ∧ w5.ownsRow bs 42 2 (.slice a5 (L.length + 1) cap5) (L.length + 1) (cells2 L ++ fd2 (tg, s)) ∧ ((Value.slice a5 (L.length + 1) cap5).ownBlock = (Value.slice a L.length cap).ownBlock ∨ (Value.slice a5 (L.length + 1) cap5).ownBlock = some w4.heap.size)) := ⟨F4, B4, hg5, own5, hat5⟩
  rw [hw4] at hr
  have HR : Hid ((Builtin.append_ #[43, 43] 43 #[.slice a L.length cap, .slice (some ⟨w.heap.size, 0, none⟩) 1 1]).run Tryd.prog (w.alloc (.cells #[.int .i64 tg, .string s] 42)).drew = .ok (.slice a5 (L.length + 1) cap5) w5) := hr
  clear hr own5 hg5 hat5 BG F4 B4 hcn hw4 b1
  go_enter Tryd.func16, Tryd.ntmps16
  go_wp2_with fail
  go_region_law (refine step_append_at rfl (.tmp 5) (.tmp 11) 43 rfl (.slice a L.length cap) (.slice (some ⟨w.heap.size, 0, none⟩) 1 1) (.slice a5 (L.length + 1) cap5) w5 rfl rfl HR.out ?_)
  all_goals (
    go_wp2_with fail
    go_end0
    exact ⟨rfl, lst_close HZ.out⟩)
set_option maxRecDepth 1000000 in
set_option maxHeartbeats 4000000 in
theorem put2_at {w : World} {lb bs b off : Nat} {v : Value} {L : List Fd} (h : LstB w lb bs v L) (hL : L.length ≤ 1000) (tg : Int) (n lo hi : Int) (s : ByteArray) (cs : w.cell? ⟨b, off, none⟩ = some (.int .i64 n))
    (TX : Calls Tryd.prog 18 #[.int .i64 n] w.drew fun e w' => e = .returned (.string s) ∧ Below w.heap.size w w') :
    Calls Tryd.prog 17 #[.int .i64 tg, .pointer (some ⟨b, off, none⟩), .int .i64 lo, .int .i64 hi, .pointer (some ⟨lb, 0, none⟩)] w fun e w' => e = .returned (.tuple #[]) ∧ PutOk lb bs v (L ++ [(tg, s)]) w w' := by
  obtain ⟨i0, hi0, hz0, hzs, hzb⟩ := info_parts infoA
  obtain ⟨a, cap, rfl⟩ := own_shape h.own
  have c0 := h.cell
  have H : Hid (LstB w lb bs (.slice a L.length cap) L) := h
  have HL : Hid (L.length ≤ 1000) := hL
  clear h hL
  go_enter Tryd.func17, Tryd.ntmps17
  go_wp2_with fail
  go_region_law (first
    | (refine step_append_at rfl (.tmp 9) (.tmp 16) 43 rfl (.slice a L.length cap) (.slice (some ⟨w1.heap.size, 0, none⟩) 1 1) (.slice a5 (L.length + 1) cap5) w5 rfl rfl HR.out ?_)
    | (go_simp; go_at_call 18; refine TX.mono ?_; rintro e w1 ⟨rfl, b1⟩
       obtain ⟨w4, hw4⟩ : ∃ w4, w4 = w1.alloc (.cells #[.int .i64 tg, .string s] 42) := ⟨_, rfl⟩
       have B4 : Below w.heap.size w w4 := by rw [hw4]; exact b1.alloc b1.size _
       have F4 := H.out.still B4
       have hcn : ∀ j u, (fd2 (tg, s))[j]? = some u → w4.cell? ((⟨w1.heap.size, 0, none⟩ : Addr).add j) = some u := by rw [hw4]; exact cell_fd_new w1 (tg, s) 42
       obtain ⟨v5, w5, hr, own5, hg5, _, hat5⟩ := run_append_own_at (P := Tryd.prog) w4 bs 43 43 42 i0 (.agg #[.int .i64 0, .string ⟨#[]⟩]) 2 24 Tryd.underlying43 hi0 hz0 hzs hzb rfl (by decide) _ _ _ F4.own ⟨w1.heap.size, 0, none⟩ 1 1 (fd2 (tg, s)) rfl hcn (fd2_one _) (by have := HL.out; unfold maxLen; omega) (by have := HL.out; omega) F4.lo
       have BG := But.of_grown hg5
       have x5 := (BG.cell (o := 0) F4.lt F4.ne).trans F4.cell
       have y5 := (BG.frozen (o := 0) F4.lt F4.ne).trans F4.fz
       have c1 := (b1.cell (p := ⟨lb, 0, none⟩) H.out.lt).trans c0
       have c4 : (w1.alloc (.cells #[.int .i64 tg, .string s] 42)).cell? ⟨lb, 0, none⟩ = some (.slice a L.length cap) := by rw [← hw4]; exact F4.cell
       obtain ⟨a5, cap5, rfl⟩ := own_shape own5
       have HZ : Hid (LstB w4 lb bs (.slice a L.length cap) L ∧ Below w.heap.size w w4 ∧ w4.grownBy w5 (Value.slice a L.length cap).ownBlock ∧ w5.ownsRow bs 42 2 (.slice a5 (L.length + 1) cap5) (L.length + 1) (cells2 L ++ fd2 (tg, s)) ∧ ((Value.slice a5 (L.length + 1) cap5).ownBlock = (Value.slice a L.length cap).ownBlock ∨ (Value.slice a5 (L.length + 1) cap5).ownBlock = some w4.heap.size)) := ⟨F4, B4, hg5, own5, hat5⟩
       rw [hw4] at hr
       have HR : Hid ((Builtin.append_ #[43, 43] 43 #[.slice a L.length cap, .slice (some ⟨w1.heap.size, 0, none⟩) 1 1]).run Tryd.prog (w1.alloc (.cells #[.int .i64 tg, .string s] 42)) = .ok (.slice a5 (L.length + 1) cap5) w5) := hr
       clear hr own5 hg5 hat5 BG F4 B4 hcn hw4 b1))
  all_goals (
    go_wp2_with fail
    go_end0
    exact ⟨rfl, lst_close HZ.out⟩)
end Go.Proofs.YtdacmhnniecmhaaDoor
