/-
  Lists of texts in memory that grow by append; the reference's Same of two lists that are the same.
-/
import Derived.Deep.QuietTactic
import Derived.BigQuiet
import Derived.Deep.RegionLaw
import Derived.OwnWalk
import Derived.Test.YtepkmbpadhfbmaaGreatDoorGA
import Derived.Test.YtepkmbpadhfbmaaGreatDoorGB
import Derived.Test.YtepkmbpadhfbmaaGreatDoorGD
import Derived.Test.YtepkmbpadhfbmaaGreatDoorGE
import Derived.Test.YtepkmbpadhfbmaaGreatDoorShelfJoin
import Derived.Test.YtepkmbpadhfbmaaGreatDoorGH
import Derived.Test.YtepkmbpadhfbmaaGreatDoorGF
import Derived.Test.YtepkmbpadhfbmaaGreatDoorGG
namespace Go.Proofs.YtepkmbpadhfbmaaGreatDoor
open Go.ChangeShapes Go.WideShapes Go.ChangeAt Go.RowKit Go.Lib

/-- A text as a value. -/
abbrev txt (l : List UInt8) : Value := .string (mk l)
/-- The cells of a list of texts. -/
def txts (L : List (List UInt8)) : List Value := L.map fun l => .string (mk l)
theorem txts_more (L : List (List UInt8)) (l : List UInt8) : txts (L ++ [l]) = txts L ++ [.string (mk l)] := by simp [txts]
theorem infoT : (Tryz.prog.info? 9).map (fun i => (i.zero, i.size, i.bytes)) = some (some (.string ⟨#[]⟩), 1, 16) := by kernel_rfl
/-- A list of texts that grows in memory newer than w0. -/
structure GrowsT (w0 : World) (w : World) (v : Value) (L : List (List UInt8)) : Prop where
  own : w.ownsRow w0.heap.size 9 1 v L.length (txts L)
  below : Below w0.heap.size w0 w
theorem GrowsT.none (w0 w : World) (h : Below w0.heap.size w0 w) : GrowsT w0 w (.slice none 0 0) [] := ⟨World.ownsRow_nil _ _ _ _, h⟩
theorem GrowsT.still {w0 w w' : World} {v : Value} {L : List (List UInt8)} (h : GrowsT w0 w v L) (k : Below w.heap.size w w') : GrowsT w0 w' v L :=
  ⟨own_below h.own k, h.below.trans (k.mono h.below.size)⟩
theorem GrowsT.more {w0 w w' : World} {v v' : Value} {L : List (List UInt8)} {l : List UInt8} (h : GrowsT w0 w v L) (hg : w.grownBy w' v.ownBlock) (hown : w'.ownsRow w0.heap.size 9 1 v' (L.length + 1) (txts L ++ [txt l])) : GrowsT w0 w' v' (L ++ [l]) := by
  have BG := But.of_grown hg
  refine ⟨by rw [txts_more, List.length_append]; exact hown, h.below.trans (BG.below h.below.size (fun k hk => (h.own.lt k hk).1))⟩
theorem GrowsT.shape {w0 w : World} {v : Value} {L : List (List UInt8)} (h : GrowsT w0 w v L) : ∃ a cap, v = .slice a L.length cap := own_shape h.own
theorem GrowsT.row {w0 w : World} {v : Value} {L : List (List UInt8)} (h : GrowsT w0 w v L) : Row w v L.length fun i => txt (L.getD i []) := by
  refine row_of_own h.own _ ?_
  intro i hi
  simp [txts, hi]
theorem cell_txt_new (w : World) (x : Value) (t : TypeId) : ∀ j u, ([x] : List Value)[j]? = some u → (w.alloc (.cells #[x] t)).cell? ((⟨w.heap.size, 0, none⟩ : Addr).add j) = some u := by
  intro j u hj
  rw [Addr.add_lit, Nat.zero_add]
  match j, hj with
  | 0, hj => simp at hj; subst hj; simp
  | j + 1, hj => simp at hj
end Go.Proofs.YtepkmbpadhfbmaaGreatDoor
/-
  The contract of the closure that puts a field behind the others: the list lies in a cell of its own.
-/
namespace Go.Proofs.YtepkmbpadhfbmaaGreatDoor
open Go.ChangeShapes Go.WideShapes Go.ChangeAt Go.RowKit Go.Lib

/-- A list of fields whose slice lies in the cell of block lb. -/
structure LstV (w : World) (lb : Nat) (v : Value) (L : List Fd) : Prop where
  cell : w.cell? ⟨lb, 0, none⟩ = some v
  fz : w.frozen? ⟨lb, 0, none⟩ = false
  own : w.ownsRow (lb + 1) 74 2 v L.length (cells2 L)
theorem LstV.lt {w : World} {lb : Nat} {v : Value} {L : List Fd} (h : LstV w lb v L) : lb < w.heap.size := World.block_lt_of_cell? _ _ h.cell
theorem LstV.still {w w' : World} {lb : Nat} {v : Value} {L : List Fd} (h : LstV w lb v L) (hb : Below w.heap.size w w') : LstV w' lb v L :=
  ⟨(hb.cell (p := ⟨lb, 0, none⟩) h.lt).trans h.cell, (hb.frozen (p := ⟨lb, 0, none⟩) h.lt).trans h.fz, own_below h.own hb⟩
/-- The blocks that a list may write. -/
def LstS (lb : Nat) (v : Value) (j : Nat) : Prop := j = lb ∨ v.ownBlock = some j
theorem lst_close {w w4 w5 : World} {lb : Nat} {v v5 : Value} {L : List Fd} {t : Int} {s : ByteArray} (h : LstV w4 lb v L ∧ Below w.heap.size w w4 ∧ w4.grownBy w5 v.ownBlock ∧ w5.ownsRow (lb + 1) 74 2 v5 (L.length + 1) (cells2 L ++ fd2 (t, s)) ∧ (v5.ownBlock = v.ownBlock ∨ v5.ownBlock = some w4.heap.size)) :
    ∃ v', LstV (w5.setCell ⟨lb, 0, none⟩ v5) lb v' (L ++ [(t, s)]) ∧ But (LstS lb v) w (w5.setCell ⟨lb, 0, none⟩ v5) ∧ (v'.ownBlock = v.ownBlock ∨ ∃ g, v'.ownBlock = some g ∧ w.heap.size ≤ g) := by
  obtain ⟨F4, B4, hg5, own5, hat5⟩ := h
  have BG := But.of_grown hg5
  have nl : ¬ v.ownBlock = some lb := fun e => by have := (F4.own.lt _ e).1; omega
  have x5 := (BG.cell (o := 0) F4.lt nl).trans F4.cell
  have y5 := (BG.frozen (o := 0) F4.lt nl).trans F4.fz
  have hB : But (fun j => j = lb) w5 (w5.setCell ⟨lb, 0, none⟩ v5) := (But.refl _ w5).setCell lb 0 _ (fun _ => rfl)
  refine ⟨v5, ⟨World.cell?_setCell_same _ _ _ x5, by rw [World.frozen?_setCell]; exact y5, ?_⟩, ?_, ?_⟩
  · rw [cells2_more, List.length_append]
    exact own_kept own5 hB (fun g hg e => by have := (own5.lt g hg).1; omega)
  · have b1 : But (LstS lb v) w w4 := But.of_below B4
    have b2 := b1.trans BG (fun i _ e => .inr e)
    exact b2.trans hB (fun i _ e => .inl e)
  · rcases hat5 with e | e
    · exact .inl e
    · exact .inr ⟨_, e, B4.size⟩
set_option maxRecDepth 1000000 in
set_option maxHeartbeats 4000000 in
theorem put_any {w : World} {lb : Nat} {v : Value} {L : List Fd} (h : LstV w lb v L) (hL : L.length ≤ 1000) (t : Int) (x : Value) (s : ByteArray)
    (TX : Calls Tryz.prog 48 #[x] w.drew fun e w' => e = .returned (.string s) ∧ Below w.heap.size w w') :
    Calls Tryz.prog 47 #[.int .i64 t, x, .pointer (some ⟨lb, 0, none⟩)] w fun e w' => e = .returned (.tuple #[]) ∧ ∃ v', LstV w' lb v' (L ++ [(t, s)]) ∧ But (LstS lb v) w w' ∧ (v'.ownBlock = v.ownBlock ∨ ∃ g, v'.ownBlock = some g ∧ w.heap.size ≤ g) := by
  obtain ⟨i0, hi0, hz0, hzs, hzb⟩ := info_parts infoA
  obtain ⟨a, cap, rfl⟩ := own_shape h.own
  have c0 := h.cell
  have H : Hid (LstV w lb (.slice a L.length cap) L) := h
  have HL : Hid (L.length ≤ 1000) := hL
  clear h hL
  go_enter Tryz.func47, Tryz.ntmps47
  go_wp2_with fail
  go_region_law (first
    | (refine step_append_at rfl (.tmp 5) (.tmp 10) 42 rfl (.slice a L.length cap) (.slice (some ⟨w1.heap.size, 0, none⟩) 1 1) (.slice a5 (L.length + 1) cap5) w5 rfl rfl HR.out ?_)
    | (go_simp; go_at_call 48; refine TX.mono ?_; rintro e w1 ⟨rfl, b1⟩
       obtain ⟨w4, hw4⟩ : ∃ w4, w4 = w1.alloc (.cells #[.int .i64 t, .string s] 74) := ⟨_, rfl⟩
       have B4 : Below w.heap.size w w4 := by rw [hw4]; exact b1.trans ((Below.refl _ w1).alloc b1.size _)
       have F4 := H.out.still B4
       have hcn : ∀ j u, (fd2 (t, s))[j]? = some u → w4.cell? ((⟨w1.heap.size, 0, none⟩ : Addr).add j) = some u := by rw [hw4]; exact cell_fd_new w1 (t, s) 74
       obtain ⟨v5, w5, hr, own5, hg5, _, hat5⟩ := run_append_own_at (P := Tryz.prog) w4 (lb + 1) 42 42 74 i0 (.agg #[.int .i64 0, .string ⟨#[]⟩]) 2 24 Tryz.underlying42 hi0 hz0 hzs hzb rfl (by decide) _ _ _ F4.own ⟨w1.heap.size, 0, none⟩ 1 1 (fd2 (t, s)) rfl hcn (fd2_one _) (by have := HL.out; unfold maxLen; omega) (by have := HL.out; omega) (by have := F4.lt; omega)
       have BG := But.of_grown hg5
       have nl : ¬ (Value.slice a L.length cap).ownBlock = some lb := fun e => by have := (H.out.own.lt _ e).1; omega
       have x5 := (BG.cell (o := 0) F4.lt nl).trans F4.cell
       have y5 := (BG.frozen (o := 0) F4.lt nl).trans F4.fz
       have c1 := (b1.cell (p := ⟨lb, 0, none⟩) H.out.lt).trans c0
       have c4 : (w1.alloc (.cells #[.int .i64 t, .string s] 74)).cell? ⟨lb, 0, none⟩ = some (.slice a L.length cap) := by rw [← hw4]; exact F4.cell
       obtain ⟨a5, cap5, rfl⟩ := own_shape own5
       have HZ : Hid (LstV w4 lb (.slice a L.length cap) L ∧ Below w.heap.size w w4 ∧ w4.grownBy w5 (Value.slice a L.length cap).ownBlock ∧ w5.ownsRow (lb + 1) 74 2 (.slice a5 (L.length + 1) cap5) (L.length + 1) (cells2 L ++ fd2 (t, s)) ∧ ((Value.slice a5 (L.length + 1) cap5).ownBlock = (Value.slice a L.length cap).ownBlock ∨ (Value.slice a5 (L.length + 1) cap5).ownBlock = some w4.heap.size)) := ⟨F4, B4, hg5, own5, hat5⟩
       rw [hw4] at hr
       have HR : Hid ((Builtin.append_ #[42, 42] 42 #[.slice a L.length cap, .slice (some ⟨w1.heap.size, 0, none⟩) 1 1]).run Tryz.prog (w1.alloc (.cells #[.int .i64 t, .string s] 74)) = .ok (.slice a5 (L.length + 1) cap5) w5) := hr
       clear hr own5 hg5 hat5 BG F4 B4 hcn hw4 nl b1))
  all_goals (
    go_wp2_with fail
    go_end0
    exact ⟨rfl, lst_close HZ.out⟩)
end Go.Proofs.YtepkmbpadhfbmaaGreatDoor
/-
  Contracts of ask's text: what a text, a number and a list of numbers are as a field's value.
-/
namespace Go.Proofs.YtepkmbpadhfbmaaGreatDoor
open Go.ChangeShapes Go.WideShapes Go.ChangeAt Go.RowKit Go.Lib

theorem itoa_all (n : Nat) (hn : n ≤ 9223372036854775807) {w : World} (h : Pow w) :
    Calls Tryz.prog 70 #[.int .i64 (n : Int)] w fun e w' => e = .returned (.string (mk (decDigits n))) ∧ Below w.heap.size w w' := by
  have := Any.strconv_Itoa Tryz.laysM171 (n : Int) (by omega) (by omega) w h
  refine Calls.mono this ?_
  rintro e w' ⟨rfl, k, os, rfl⟩
  exact ⟨by rw [itoa_nonneg]; rfl, below_grow _ _ (Nat.le_refl _) _ _⟩
theorem as_str_str (s : ByteArray) (w : World) : (Instr.typeAssert (.iface 9 (.string s)) 20 9 true).run Tryz.prog w = .ok (.tuple #[.string s, .bool true]) w := by kernel_rfl
theorem as_int_str (n : Int) (w : World) : (Instr.typeAssert (.iface 3 (.int .i64 n)) 20 9 true).run Tryz.prog w = .ok (.tuple #[.string ⟨#[]⟩, .bool false]) w := by kernel_rfl
theorem as_int_int12 (n : Int) (w : World) : (Instr.typeAssert (.iface 3 (.int .i64 n)) 20 3 true).run Tryz.prog w = .ok (.tuple #[.int .i64 n, .bool true]) w := by kernel_rfl
theorem as_ints_str (a : Option Addr) (n c : Nat) (w : World) : (Instr.typeAssert (.iface 22 (.slice a n c)) 20 9 true).run Tryz.prog w = .ok (.tuple #[.string ⟨#[]⟩, .bool false]) w := by kernel_rfl
theorem as_ints_int (a : Option Addr) (n c : Nat) (w : World) : (Instr.typeAssert (.iface 22 (.slice a n c)) 20 3 true).run Tryz.prog w = .ok (.tuple #[.int .i64 0, .bool false]) w := by kernel_rfl
theorem as_ints_ints (a : Option Addr) (n c : Nat) (w : World) : (Instr.typeAssert (.iface 22 (.slice a n c)) 20 22 true).run Tryz.prog w = .ok (.tuple #[.slice a n c, .bool true]) w := by kernel_rfl
set_option maxHeartbeats 2000000 in
theorem text_str (s : ByteArray) (w : World) :
    Calls Tryz.prog 48 #[.iface 9 (.string s)] w fun e w' => e = .returned (.string s) ∧ w' = w := by
  have q := as_str_str s
  go_enter Tryz.func48, Tryz.ntmps48
  go_wp2_with fail
  go_ret
  exact ⟨rfl, rfl⟩
set_option maxHeartbeats 2000000 in
theorem text_int (n : Int) (h0 : 0 ≤ n) (h2 : n ≤ 9223372036854775807) {w : World} (h : Pow w) :
    Calls Tryz.prog 48 #[.iface 3 (.int .i64 n)] w fun e w' => e = .returned (.string (numT n)) ∧ Below w.heap.size w w' := by
  obtain ⟨m, rfl⟩ : ∃ m : Nat, n = (m : Int) := ⟨n.toNat, by omega⟩
  have F := itoa_all m (by omega) h
  rw [show numT (m : Int) = mk (decDigits m) from rfl]
  generalize mk (decDigits m) = d at *
  have q1 := as_int_str (m : Int)
  have q2 := as_int_int12 (m : Int)
  go_enter Tryz.func48, Tryz.ntmps48
  go_wp2_with fail
  refine F.mono ?_
  rintro e w1 ⟨rfl, b1⟩
  go_wp2_with fail
  go_ret
  exact ⟨rfl, b1⟩
theorem join_list : ∀ L : List Nat, join (L.map decDigits) [44] = listT L
  | [] => rfl
  | [x] => by rw [listT, List.map_cons, List.map_nil, join_one]
  | x :: y :: r => by
    rw [listT, ← join_list (y :: r)]
    simp [join, List.intercalate]
/-- The texts of numbers. -/
def digs (L : List Nat) : List (List UInt8) := L.map decDigits
theorem digs_more (L : List Nat) (n : Nat) : digs (L ++ [n]) = digs L ++ [decDigits n] := by simp [digs]
set_option maxRecDepth 1000000 in
set_option maxHeartbeats 4000000 in
theorem text_ints (L : List Nat) (h1 : 1 ≤ L.length) (h64 : L.length ≤ 64) (hL : ∀ n ∈ L, n ≤ 1048576) (a : Option Addr) (cap : Nat) {w : World} (hr : Row w (.slice a L.length cap) L.length fun i => .int .i64 ((L.getD i 0 : Nat) : Int)) (h : Pow w) :
    Calls Tryz.prog 48 #[.iface 22 (.slice a L.length cap)] w fun e w' => e = .returned (.string (mk (listT L))) ∧ Below w.heap.size w w' := by
  obtain ⟨i0, hi0, hz0, hzs, hzb⟩ := info_parts infoT
  have q1 := as_ints_str a L.length cap
  have q2 := as_ints_int a L.length cap
  have q3 := as_ints_ints a L.length cap
  go_enter Tryz.func48, Tryz.ntmps48
  go_wp2_with (at_make; refine wpList_make_own _ rfl _ _ 111 rfl w.heap.size 9 i0 (.string ⟨#[]⟩) 1 Tryz.underlying111 hi0 hz0 hzs .i64 .i64 _ L.length rfl rfl ?hC ?b2 ?b3 ?b4 ?_)
  case b2 => rw [hzb]; omega
  case b3 => unfold maxLen; omega
  case b4 => exact Nat.le_refl _
  case hC => first | rfl | omega | (simp; omega)
  intro w1 hown1 hg1
  have B1 : Below w.heap.size w w1 := (But.of_grown hg1).below (Nat.le_refl _) (fun i hi => by simp at hi)
  clear hg1
  have G1 : GrowsT w w1 (.slice (some ⟨w.heap.size, 0, none⟩) 0 L.length) (digs []) := ⟨hown1, B1⟩
  clear hown1 B1
  go_wp2_with fail
  go_loopw [6, 27] (fun v i wr => ∃ k : Nat, i = .int .i64 (k : Int) ∧ k ≤ L.length ∧ GrowsT w wr v (digs (L.take k))) (fun _ i _ => L.length - (RowKit.intOf i).toNat)
  case atStart => exact ⟨0, rfl, by omega, by rw [List.take_zero]; exact G1⟩
  case round =>
    clear G1
    obtain ⟨k, rfl, hk, G⟩ := hrel
    obtain ⟨a0, cap0, rfl⟩ := G.shape
    have hlen : (digs (L.take k)).length = k := by simp [digs]; omega
    rw [hlen] at G
    by_cases hp : k < L.length
    · have t0 : (k : Int) < (L.length : Int) := by omega
      obtain ⟨ra, rc, re, _, _, r3⟩ := hr.below G.below
      simp only [Value.slice.injEq] at re
      obtain ⟨rfl, _, rfl⟩ := re
      obtain ⟨b, off, rfl, cc0⟩ := r3 k hp
      have ek : L.getD k 0 = L[k] := by simp [hp]
      have cc : wr.cell? ⟨b, off + k, none⟩ = some (.int .i64 (L[k] : Int)) := by rw [← ek]; exact cc0
      have hx := hL _ (List.getElem_mem hp)
      have IT := itoa_all L[k] (by omega) (h.still G.below)
      have HM : Hid (digs (L.take (k + 1)) = digs (L.take k) ++ [decDigits L[k]]) := by
        show digs (L.take (k + 1)) = _
        rw [← digs_more, List.take_succ_eq_append_getElem hp]
      have HG : Hid (GrowsT w wr (.slice a0 k cap0) (digs (L.take k))) := G
      clear r3 cc0 ek hx G
      generalize decDigits L[k] = dk at *
      generalize L[k] = x at *
      go_wp2_with fail
      refine IT.mono ?_
      rintro e w2 ⟨rfl, b2⟩
      have G2 := HG.out.still b2
      have G3 := G2.still ((Below.refl _ w2).alloc (Nat.le_refl _) (.cells #[.string (mk dk)] 9))
      have hown := G3.own
      rw [hlen] at hown
      have hz := G2.below.size
      have hcn := cell_txt_new w2 (.string (mk dk)) 9
      have HG3 : Hid (GrowsT w (w2.alloc (.cells #[.string (mk dk)] 9)) (.slice a0 k cap0) (digs (L.take k))) := G3
      clear IT b2 G2 G3 HG cc
      go_wp2_with (at_builtin; refine wpList_append_own_at _ rfl _ _ 111 rfl w.heap.size 9 i0 (.string ⟨#[]⟩) 1 16 Tryz.underlying111 hi0 hz0 hzs hzb rfl (by decide) _ _ _ rfl hown ⟨w2.heap.size, 0, none⟩ 1 1 [.string (mk dk)] rfl rfl ?hnews ?hone ?h63 ?hbytes ?hbase ?_)
      case hnews => exact hcn
      case hone => simp [Value.oneCell']
      case h63 => unfold maxLen; omega
      case hbytes => omega
      case hbase => first | omega | (simp; omega)
      intro v5 w5 hown5 hg5 _ _
      have G5 : Hid (GrowsT w w5 v5 (digs (L.take (k + 1)))) := by
        show GrowsT w w5 v5 (digs (L.take (k + 1)))
        rw [HM.out]
        refine HG3.out.more hg5 ?_
        rw [hlen]
        exact hown5
      clear hg5 hown hcn hown5 HG3
      go_wp2_with fail
      go_roundw
      case rel => exact ⟨k + 1, by simp, by omega, G5.out⟩
      case measure => simp [RowKit.intOf]; omega
    · obtain rfl : k = L.length := by omega
      have t0 : ¬ (L.length : Int) < (L.length : Int) := by omega
      rw [List.take_length] at G
      obtain ⟨g, gc, ge, _, _, g3⟩ := G.row
      rw [show (digs L).length = L.length by simp [digs]] at ge
      simp only [Value.slice.injEq] at ge
      obtain ⟨rfl, _, rfl⟩ := ge
      have hdl : (digs L).length = L.length := by simp [digs]
      obtain ⟨b, off, eb, cb0⟩ := g3 0 (by rw [hdl]; omega)
      have gt2 : (digs L).length ≤ cap0 := by assumption
      have JJ := Any.strings_Join Tryz.lays156 Tryz.Builder_Extra_156 b off cap0 ((digs L).map mk) ⟨#[44]⟩ wr (fun j x hj => by
        rw [List.getElem?_map] at hj
        cases hd : (digs L)[j]? with
        | none => rw [hd] at hj; simp at hj
        | some y =>
          rw [hd] at hj
          simp only [Option.map_some, Option.some.injEq] at hj
          have hjl : j < (digs L).length := (List.getElem?_eq_some_iff.1 hd).1
          obtain ⟨b', off', e', c'⟩ := g3 j hjl
          rw [eb] at e'
          simp only [Option.some.injEq, Addr.mk.injEq, and_true] at e'
          obtain ⟨rfl, rfl⟩ := e'
          rw [c', ← hj]
          simp [hd]) (World.block_lt_of_cell? _ _ cb0) (by simp [digs]; omega) (by simp; exact gt2) ?hlenJ
      case hlenJ =>
        rw [show ((digs L).map mk).map (fun x : ByteArray => x.data.toList) = L.map decDigits by unfold digs; simp [mk_list]]
        rw [show (⟨#[44]⟩ : ByteArray).data.toList = [44] from rfl, join_list]
        have := listT_len (d := 6) L (fun n hn => by have := hL n hn; omega)
        omega
      rw [show ((digs L).map mk).map (fun x : ByteArray => x.data.toList) = L.map decDigits by unfold digs; simp [mk_list], show (⟨#[44]⟩ : ByteArray).data.toList = [44] from rfl, join_list, List.length_map, hdl] at JJ
      subst eb
      have HB : Hid (Below w.heap.size w wr) := G.below
      have JK : Calls Tryz.prog 72 #[.slice (some ⟨b, off, none⟩) L.length cap0, .string ⟨#[44]⟩] wr fun e w' => e = .returned (.string (mk (listT L))) ∧ Below wr.heap.size wr w' := JJ
      clear JJ g3 G cb0 hr hlen
      obtain ⟨out, HOut⟩ : ∃ out, Hid (mk (listT L) = out) := ⟨_, rfl⟩
      rw [HOut.out] at JK
      go_wp2_with fail
      refine JK.mono ?_
      rintro e w3 ⟨rfl, b3⟩
      go_wp2_with fail
      go_ret
      exact ⟨by rw [HOut.out]; rfl, HB.out.trans (b3.mono HB.out.size)⟩
end Go.Proofs.YtepkmbpadhfbmaaGreatDoor
/-
  Contracts of ask's putOrder and fields: the fields of an ask that is right, in the body's order.
-/
namespace Go.Proofs.YtepkmbpadhfbmaaGreatDoor
open Go.ChangeShapes Go.WideShapes Go.ChangeAt Go.RowKit Go.Lib

/-- A list that grows beside an ask; all below the list's cell is as in w0. -/
structure PO (w0 w : World) (lb b : Nat) (L : List Fd) (k : Int) (i t c s : ByteArray) (sd q p al st en ra sh : Int) (cv : Value) : Prop where
  lst : ∃ v, LstV w lb v L ∧ v.ownBlock ≠ some b
  ask : AskAt w b k i t c s sd q p al st en ra sh cv
  nb : b ≠ lb
  lo : w0.heap.size ≤ lb
  below : Below lb w0 w
theorem PO.put {w0 w : World} {lb b : Nat} {L : List Fd} {k : Int} {i t c s : ByteArray} {sd q p al st en ra sh : Int} {cv : Value} (h : PO w0 w lb b L k i t c s sd q p al st en ra sh cv) (hL : L.length ≤ 900) (t' : Int) (x : Value) (s' : ByteArray)
    (TX : ∀ w', Below w0.heap.size w0 w' → Calls Tryz.prog 48 #[x] w' fun e w'' => e = .returned (.string s') ∧ Below w'.heap.size w' w'') :
    Calls Tryz.prog 47 #[.int .i64 t', x, .pointer (some ⟨lb, 0, none⟩)] w fun e w' => e = .returned (.tuple #[]) ∧ PO w0 w' lb b (L ++ [(t', s')]) k i t c s sd q p al st en ra sh cv := by
  obtain ⟨v, hV, hv⟩ := h.lst
  have B0 : Below w0.heap.size w0 w.drew := below_more (h.below.mono h.lo) 1
  have TW : Calls Tryz.prog 48 #[x] w.drew fun e w' => e = .returned (.string s') ∧ Below w.heap.size w w' := (TX _ B0).mono fun e w' ⟨he, hb⟩ => ⟨he, below_of_drew hb⟩
  refine (put_any hV (by omega) t' x s' TW).mono ?_
  rintro e w' ⟨rfl, v', hV', hB, hown⟩
  have lb' := h.ask.lt
  have ns : ¬ LstS lb v b := fun e => e.elim h.nb hv
  have ll := hV.lt
  refine ⟨rfl, ⟨v', hV', fun e => ?_⟩, ?_, h.nb, h.lo, h.below.trans (hB.below (Nat.le_of_lt ll) (fun i e => ?_))⟩
  · rcases hown with e1 | ⟨g, e1, e2⟩
    · exact hv (by rw [← e1]; exact e)
    · rw [e1] at e
      simp only [Option.some.injEq] at e
      omega
  · obtain ⟨d0, d1, d2, d3, d4, d5, d6, d7, d8, d9, d10, d11, d12, d13⟩ := h.ask
    exact ⟨(hB.cell lb' ns).trans d0, (hB.cell lb' ns).trans d1, (hB.cell lb' ns).trans d2, (hB.cell lb' ns).trans d3, (hB.cell lb' ns).trans d4, (hB.cell lb' ns).trans d5, (hB.cell lb' ns).trans d6, (hB.cell lb' ns).trans d7, (hB.cell lb' ns).trans d8, (hB.cell lb' ns).trans d9, (hB.cell lb' ns).trans d10, (hB.cell lb' ns).trans d11, (hB.cell lb' ns).trans d12, (hB.cell lb' ns).trans d13⟩
  · rcases e with rfl | e
    · exact Nat.le_refl _
    · have := (hV.own.lt i e).1
      omega
theorem tx_str (w0 : World) (s : ByteArray) : ∀ w', Below w0.heap.size w0 w' → Calls Tryz.prog 48 #[.iface 9 (.string s)] w' fun e w'' => e = .returned (.string s) ∧ Below w'.heap.size w' w'' :=
  fun w' _ => (text_str s w').mono fun e w'' ⟨he, hw⟩ => ⟨he, by rw [hw]; exact Below.refl _ _⟩
theorem tx_int {w0 : World} (P : Pow w0) (n : Int) (h0 : 0 ≤ n) (h2 : n ≤ 1099511627776) : ∀ w', Below w0.heap.size w0 w' → Calls Tryz.prog 48 #[.iface 3 (.int .i64 n)] w' fun e w'' => e = .returned (.string (numT n)) ∧ Below w'.heap.size w' w'' :=
  fun _ b => text_int n h0 (by omega) (P.still b)
theorem tx_ints {w0 : World} (P : Pow w0) (L : List Nat) (h1 : 1 ≤ L.length) (h64 : L.length ≤ 64) (hL : ∀ n ∈ L, n ≤ 1048576) (a : Option Addr) (cap : Nat) (hr : Row w0 (.slice a L.length cap) L.length fun i => .int .i64 ((L.getD i 0 : Nat) : Int)) : ∀ w', Below w0.heap.size w0 w' → Calls Tryz.prog 48 #[.iface 22 (.slice a L.length cap)] w' fun e w'' => e = .returned (.string (mk (listT L))) ∧ Below w'.heap.size w' w'' :=
  fun _ b => text_ints L h1 h64 hL a cap (hr.below b) (P.still b)
theorem PO.box {w0 w : World} {lb b : Nat} {L : List Fd} {k' : Int} {i' t' c' s' : ByteArray} {sd' q' p' al' st' en' ra' sh' : Int} {cv' : Value} (h : PO w0 w lb b L k' i' t' c' s' sd' q' p' al' st' en' ra' sh' cv') (k : Int) (i t c s : ByteArray) (sd q p al st en ra sh : Int) (cv : Value) : PO w0 (boxA w k i t c s sd q p al st en ra sh cv) lb w.heap.size L k i t c s sd q p al st en ra sh cv := by
  obtain ⟨v, hV, hv⟩ := h.lst
  have bb := boxA_below w k i t c s sd q p al st en ra sh cv
  refine ⟨⟨v, hV.still bb, fun e => ?_⟩, AskAt.box w k i t c s sd q p al st en ra sh cv, fun e => ?_, h.lo, h.below.trans (bb.mono (Nat.le_of_lt hV.lt))⟩
  · have := (hV.own.lt _ e).2
    omega
  · have := hV.lt
    omega
/-- The numbers of a new order are from 0 on, and not too great. -/
structure Nums (sd q p al st en : Int) : Prop where
  sd : 0 ≤ sd ∧ sd ≤ 1099511627776
  q : 0 ≤ q ∧ q ≤ 1099511627776
  p : 0 ≤ p ∧ p ≤ 1099511627776
  al : 0 ≤ al ∧ al ≤ 1099511627776
  st : 0 ≤ st ∧ st ≤ 1099511627776
  en : 0 ≤ en ∧ en ≤ 1099511627776
set_option maxHeartbeats 8000000 in
theorem putOrder_any {w0 w : World} {lb r : Nat} {L : List Fd} {k' : Int} {i' t' c' s' : ByteArray} {sd' q' p' al' st' en' ra' sh' : Int} {cv' : Value} (h : PO w0 w lb r L k' i' t' c' s' sd' q' p' al' st' en' ra' sh' cv') (hL : L.length ≤ 800) (P : Pow w0) (k : Int) (i t c s : ByteArray) (sd q p al st en ra sh : Int) (a : Option Addr) (cap : Nat) (cz : List Nat) (N : Nums sd q p al st en)
    (h2 : al = 2 → CurveP cz) (h3 : al = 3 → 0 ≤ ra ∧ ra ≤ 1099511627776) (h4 : al = 4 → 0 ≤ sh ∧ sh ≤ 1099511627776) (hr : Row w0 (.slice a cz.length cap) cz.length fun i => .int .i64 ((cz.getD i 0 : Nat) : Int)) :
    Calls Tryz.prog 49 #[.func (.func 47) #[] #[.pointer (some ⟨lb, 0, none⟩)], .agg #[.int .i64 k, .string i, .string t, .string c, .string s, .int .i64 sd, .int .i64 q, .int .i64 p, .int .i64 al, .int .i64 st, .int .i64 en, .int .i64 ra, .int .i64 sh, .slice a cz.length cap]] w fun e w' => e = .returned (.tuple #[]) ∧ (∃ v, LstV w' lb v (L ++ [(1, c)] ++ [(55, s)] ++ [(54, numT sd)] ++ [(38, numT q)] ++ [(44, numT p)] ++ [(5001, numT al)] ++ [(5002, numT st)] ++ [(5003, numT en)] ++ tailF ⟨k, i, t, c, s, sd, q, p, al, st, en, ra, sh, cz⟩)) ∧ Below lb w0 w' := by
  have HL : Hid (L.length ≤ 800) := hL
  have HP : Hid (Pow w0) := P
  have HN : Hid (Nums sd q p al st en) := N
  have H2 : Hid (al = 2 → CurveP cz) := h2
  have H3 : Hid (al = 3 → 0 ≤ ra ∧ ra ≤ 1099511627776) := h3
  have H4 : Hid (al = 4 → 0 ≤ sh ∧ sh ≤ 1099511627776) := h4
  have HR : Hid (Row w0 (.slice a cz.length cap) cz.length fun i => .int .i64 ((cz.getD i 0 : Nat) : Int)) := hr
  have Q0 : Hid (PO w0 (boxA w k i t c s sd q p al st en ra sh (.slice a cz.length cap)) lb w.heap.size L k i t c s sd q p al st en ra sh (.slice a cz.length cap)) := h.box k i t c s sd q p al st en ra sh (.slice a cz.length cap)
  clear hL P N h2 h3 h4 hr h
  go_enter Tryz.func49, Tryz.ntmps49
  go_wp2_with fail
  have F1 := Q0.out.put (by have := HL.out; first | omega | (simp only [List.length_append, List.length_cons, List.length_nil]; omega)) 1 (.iface 9 (.string c)) _ (tx_str w0 c)
  refine F1.mono ?_
  rintro e w1 ⟨rfl, P1⟩
  have Q1 : Hid (PO w0 w1 lb w.heap.size (L ++ [(1, c)]) k i t c s sd q p al st en ra sh (.slice a cz.length cap)) := P1
  clear F1 P1
  have F2 := Q1.out.put (by have := HL.out; first | omega | (simp only [List.length_append, List.length_cons, List.length_nil]; omega)) 55 (.iface 9 (.string s)) _ (tx_str w0 s)
  obtain ⟨d0, d1, d2, d3, d4, d5, d6, d7, d8, d9, d10, d11, d12, d13⟩ := Q1.out.ask
  go_wp2_with fail
  refine F2.mono ?_
  rintro e w2 ⟨rfl, P2⟩
  have Q2 : Hid (PO w0 w2 lb w.heap.size (L ++ [(1, c)] ++ [(55, s)]) k i t c s sd q p al st en ra sh (.slice a cz.length cap)) := P2
  clear F2 P2 d0 d1 d2 d3 d4 d5 d6 d7 d8 d9 d10 d11 d12 d13
  have F3 := Q2.out.put (by have := HL.out; first | omega | (simp only [List.length_append, List.length_cons, List.length_nil]; omega)) 54 (.iface 3 (.int .i64 sd)) _ (tx_int HP.out sd HN.out.sd.1 HN.out.sd.2)
  obtain ⟨d0, d1, d2, d3, d4, d5, d6, d7, d8, d9, d10, d11, d12, d13⟩ := Q2.out.ask
  go_wp2_with fail
  refine F3.mono ?_
  rintro e w3 ⟨rfl, P3⟩
  have Q3 : Hid (PO w0 w3 lb w.heap.size (L ++ [(1, c)] ++ [(55, s)] ++ [(54, numT sd)]) k i t c s sd q p al st en ra sh (.slice a cz.length cap)) := P3
  clear F3 P3 d0 d1 d2 d3 d4 d5 d6 d7 d8 d9 d10 d11 d12 d13
  have F4 := Q3.out.put (by have := HL.out; first | omega | (simp only [List.length_append, List.length_cons, List.length_nil]; omega)) 38 (.iface 3 (.int .i64 q)) _ (tx_int HP.out q HN.out.q.1 HN.out.q.2)
  obtain ⟨d0, d1, d2, d3, d4, d5, d6, d7, d8, d9, d10, d11, d12, d13⟩ := Q3.out.ask
  go_wp2_with fail
  refine F4.mono ?_
  rintro e w4 ⟨rfl, P4⟩
  have Q4 : Hid (PO w0 w4 lb w.heap.size (L ++ [(1, c)] ++ [(55, s)] ++ [(54, numT sd)] ++ [(38, numT q)]) k i t c s sd q p al st en ra sh (.slice a cz.length cap)) := P4
  clear F4 P4 d0 d1 d2 d3 d4 d5 d6 d7 d8 d9 d10 d11 d12 d13
  have F5 := Q4.out.put (by have := HL.out; first | omega | (simp only [List.length_append, List.length_cons, List.length_nil]; omega)) 44 (.iface 3 (.int .i64 p)) _ (tx_int HP.out p HN.out.p.1 HN.out.p.2)
  obtain ⟨d0, d1, d2, d3, d4, d5, d6, d7, d8, d9, d10, d11, d12, d13⟩ := Q4.out.ask
  go_wp2_with fail
  refine F5.mono ?_
  rintro e w5 ⟨rfl, P5⟩
  have Q5 : Hid (PO w0 w5 lb w.heap.size (L ++ [(1, c)] ++ [(55, s)] ++ [(54, numT sd)] ++ [(38, numT q)] ++ [(44, numT p)]) k i t c s sd q p al st en ra sh (.slice a cz.length cap)) := P5
  clear F5 P5 d0 d1 d2 d3 d4 d5 d6 d7 d8 d9 d10 d11 d12 d13
  have F6 := Q5.out.put (by have := HL.out; first | omega | (simp only [List.length_append, List.length_cons, List.length_nil]; omega)) 5001 (.iface 3 (.int .i64 al)) _ (tx_int HP.out al HN.out.al.1 HN.out.al.2)
  obtain ⟨d0, d1, d2, d3, d4, d5, d6, d7, d8, d9, d10, d11, d12, d13⟩ := Q5.out.ask
  go_wp2_with fail
  refine F6.mono ?_
  rintro e w6 ⟨rfl, P6⟩
  have Q6 : Hid (PO w0 w6 lb w.heap.size (L ++ [(1, c)] ++ [(55, s)] ++ [(54, numT sd)] ++ [(38, numT q)] ++ [(44, numT p)] ++ [(5001, numT al)]) k i t c s sd q p al st en ra sh (.slice a cz.length cap)) := P6
  clear F6 P6 d0 d1 d2 d3 d4 d5 d6 d7 d8 d9 d10 d11 d12 d13
  have F7 := Q6.out.put (by have := HL.out; first | omega | (simp only [List.length_append, List.length_cons, List.length_nil]; omega)) 5002 (.iface 3 (.int .i64 st)) _ (tx_int HP.out st HN.out.st.1 HN.out.st.2)
  obtain ⟨d0, d1, d2, d3, d4, d5, d6, d7, d8, d9, d10, d11, d12, d13⟩ := Q6.out.ask
  go_wp2_with fail
  refine F7.mono ?_
  rintro e w7 ⟨rfl, P7⟩
  have Q7 : Hid (PO w0 w7 lb w.heap.size (L ++ [(1, c)] ++ [(55, s)] ++ [(54, numT sd)] ++ [(38, numT q)] ++ [(44, numT p)] ++ [(5001, numT al)] ++ [(5002, numT st)]) k i t c s sd q p al st en ra sh (.slice a cz.length cap)) := P7
  clear F7 P7 d0 d1 d2 d3 d4 d5 d6 d7 d8 d9 d10 d11 d12 d13
  have F8 := Q7.out.put (by have := HL.out; first | omega | (simp only [List.length_append, List.length_cons, List.length_nil]; omega)) 5003 (.iface 3 (.int .i64 en)) _ (tx_int HP.out en HN.out.en.1 HN.out.en.2)
  obtain ⟨d0, d1, d2, d3, d4, d5, d6, d7, d8, d9, d10, d11, d12, d13⟩ := Q7.out.ask
  go_wp2_with fail
  refine F8.mono ?_
  rintro e w8 ⟨rfl, P8⟩
  have Q8 : Hid (PO w0 w8 lb w.heap.size (L ++ [(1, c)] ++ [(55, s)] ++ [(54, numT sd)] ++ [(38, numT q)] ++ [(44, numT p)] ++ [(5001, numT al)] ++ [(5002, numT st)] ++ [(5003, numT en)]) k i t c s sd q p al st en ra sh (.slice a cz.length cap)) := P8
  clear F8 P8 d0 d1 d2 d3 d4 d5 d6 d7 d8 d9 d10 d11 d12 d13
  have HTL : Hid ((L ++ [(1, c)] ++ [(55, s)] ++ [(54, numT sd)] ++ [(38, numT q)] ++ [(44, numT p)] ++ [(5001, numT al)] ++ [(5002, numT st)] ++ [(5003, numT en)]).length ≤ 850) := by show _ ≤ _; have := HL.out; simp only [List.length_append, List.length_cons, List.length_nil]; omega
  by_cases e2 : al = 2
  · have g2 : (al == 2) = true := beq_iff_eq.2 e2
    have HE : Hid (al = 2) := e2
    clear e2
    have F9 := Q8.out.put (by have := HL.out; first | omega | (simp only [List.length_append, List.length_cons, List.length_nil]; omega)) 5006 (.iface 22 (.slice a cz.length cap)) _ (tx_ints HP.out cz (H2.out HE.out).1 (H2.out HE.out).2.1 (H2.out HE.out).2.2.1 a cap HR.out)
    obtain ⟨d0, d1, d2, d3, d4, d5, d6, d7, d8, d9, d10, d11, d12, d13⟩ := Q8.out.ask
    go_wp2_with fail
    refine F9.mono ?_
    rintro e w9 ⟨rfl, P9⟩
    have Q9 : Hid (PO w0 w9 lb w.heap.size (L ++ [(1, c)] ++ [(55, s)] ++ [(54, numT sd)] ++ [(38, numT q)] ++ [(44, numT p)] ++ [(5001, numT al)] ++ [(5002, numT st)] ++ [(5003, numT en)] ++ [(5006, mk (listT cz))]) k i t c s sd q p al st en ra sh (.slice a cz.length cap)) := P9
    clear F9 P9 d0 d1 d2 d3 d4 d5 d6 d7 d8 d9 d10 d11 d12 d13
    go_wp2_with fail
    go_end0
    obtain ⟨v9, hV9, _⟩ := Q9.out.lst
    refine ⟨rfl, ⟨v9, ?_⟩, Q9.out.below⟩
    have et : tailF ⟨k, i, t, c, s, sd, q, p, al, st, en, ra, sh, cz⟩ = [(5006, mk (listT cz))] := by unfold tailF; dsimp only; rw [if_pos HE.out]
    rw [et]
    exact hV9
  have g2 : (al == 2) = false := beq_false_of_ne e2
  by_cases e3 : al = 3
  · have g3 : (al == 3) = true := beq_iff_eq.2 e3
    have HE : Hid (al = 3) := e3
    clear e2 e3
    have F9 := Q8.out.put (by have := HL.out; first | omega | (simp only [List.length_append, List.length_cons, List.length_nil]; omega)) 5004 (.iface 3 (.int .i64 ra)) _ (tx_int HP.out ra (H3.out HE.out).1 (H3.out HE.out).2)
    obtain ⟨d0, d1, d2, d3, d4, d5, d6, d7, d8, d9, d10, d11, d12, d13⟩ := Q8.out.ask
    go_wp2_with fail
    refine F9.mono ?_
    rintro e w9 ⟨rfl, P9⟩
    have Q9 : Hid (PO w0 w9 lb w.heap.size (L ++ [(1, c)] ++ [(55, s)] ++ [(54, numT sd)] ++ [(38, numT q)] ++ [(44, numT p)] ++ [(5001, numT al)] ++ [(5002, numT st)] ++ [(5003, numT en)] ++ [(5004, numT ra)]) k i t c s sd q p al st en ra sh (.slice a cz.length cap)) := P9
    clear F9 P9 d0 d1 d2 d3 d4 d5 d6 d7 d8 d9 d10 d11 d12 d13
    go_wp2_with fail
    go_end0
    obtain ⟨v9, hV9, _⟩ := Q9.out.lst
    refine ⟨rfl, ⟨v9, ?_⟩, Q9.out.below⟩
    have et : tailF ⟨k, i, t, c, s, sd, q, p, al, st, en, ra, sh, cz⟩ = [(5004, numT ra)] := by unfold tailF; dsimp only; rw [if_neg (by have := HE.out; omega), if_pos HE.out]
    rw [et]
    exact hV9
  have g3 : (al == 3) = false := beq_false_of_ne e3
  by_cases e4 : al = 4
  · have g4 : (al == 4) = true := beq_iff_eq.2 e4
    have HE : Hid (al = 4) := e4
    clear e2 e3 e4
    have F9 := Q8.out.put (by have := HL.out; first | omega | (simp only [List.length_append, List.length_cons, List.length_nil]; omega)) 5005 (.iface 3 (.int .i64 sh)) _ (tx_int HP.out sh (H4.out HE.out).1 (H4.out HE.out).2)
    obtain ⟨d0, d1, d2, d3, d4, d5, d6, d7, d8, d9, d10, d11, d12, d13⟩ := Q8.out.ask
    go_wp2_with fail
    refine F9.mono ?_
    rintro e w9 ⟨rfl, P9⟩
    have Q9 : Hid (PO w0 w9 lb w.heap.size (L ++ [(1, c)] ++ [(55, s)] ++ [(54, numT sd)] ++ [(38, numT q)] ++ [(44, numT p)] ++ [(5001, numT al)] ++ [(5002, numT st)] ++ [(5003, numT en)] ++ [(5005, numT sh)]) k i t c s sd q p al st en ra sh (.slice a cz.length cap)) := P9
    clear F9 P9 d0 d1 d2 d3 d4 d5 d6 d7 d8 d9 d10 d11 d12 d13
    go_wp2_with fail
    go_end0
    obtain ⟨v9, hV9, _⟩ := Q9.out.lst
    refine ⟨rfl, ⟨v9, ?_⟩, Q9.out.below⟩
    have et : tailF ⟨k, i, t, c, s, sd, q, p, al, st, en, ra, sh, cz⟩ = [(5005, numT sh)] := by unfold tailF; dsimp only; rw [if_neg (by have := HE.out; omega), if_neg (by have := HE.out; omega), if_pos HE.out]
    rw [et]
    exact hV9
  have g4 : (al == 4) = false := beq_false_of_ne e4
  have et : Hid (tailF ⟨k, i, t, c, s, sd, q, p, al, st, en, ra, sh, cz⟩ = []) := by show tailF _ = _; unfold tailF; dsimp only; rw [if_neg e2, if_neg e3, if_neg e4]
  clear e2 e3 e4
  obtain ⟨d0, d1, d2, d3, d4, d5, d6, d7, d8, d9, d10, d11, d12, d13⟩ := Q8.out.ask
  go_wp2_with fail
  go_end0
  obtain ⟨v9, hV9, _⟩ := Q8.out.lst
  refine ⟨rfl, ⟨v9, ?_⟩, Q8.out.below⟩
  rw [et.out, List.append_nil]
  exact hV9
end Go.Proofs.YtepkmbpadhfbmaaGreatDoor
/-
  Whether an ask is right: the tests that are made, and what is right (plain).
-/
namespace Go.Proofs.YtepkmbpadhfbmaaGreatDoor
open Go.Lib

theorem empty_is (s : ByteArray) : s.toList.isEmpty = true ↔ s = noText := by
  rw [empty_bytes]
  exact decide_eq_true_iff
theorem ints_len (L : List Nat) : (intsOf L).length = L.length := by unfold intsOf; simp
theorem cur_iff (L : List Nat) : curB (intsOf L) = true ↔ CurveP L := by
  unfold curB CurveP
  simp only [Bool.and_eq_true, decide_eq_true_eq, List.all_eq_true, List.any_eq_true, ints_len]
  unfold intsOf
  constructor
  · rintro ⟨h1, h2, h3, x, hx, hp⟩
    refine ⟨h1, h2, fun n hn => ?_, ?_⟩
    · have := h3 (n : Int) (List.mem_map.2 ⟨n, hn, rfl⟩)
      omega
    · obtain ⟨n, hn, rfl⟩ := List.mem_map.1 hx
      exact ⟨n, hn, by omega⟩
  · rintro ⟨h1, h2, h3, n, hn, hp⟩
    refine ⟨h1, h2, fun x hx => ?_, (n : Int), List.mem_map.2 ⟨n, hn, rfl⟩, by omega⟩
    obtain ⟨m, hm, rfl⟩ := List.mem_map.1 hx
    have := h3 m hm
    omega
theorem cur_ints {cz : List Int} (h : curB cz = true) : ∃ L : List Nat, cz = intsOf L := by
  unfold curB at h
  simp only [Bool.and_eq_true, decide_eq_true_eq, List.all_eq_true] at h
  refine ⟨cz.map Int.toNat, ?_⟩
  unfold intsOf
  rw [List.map_map]
  have : cz.map ((fun n : Nat => (n : Int)) ∘ Int.toNat) = cz.map id := by
    apply List.map_congr_left
    intro x hx
    have := h.2.2.1 x hx
    show ((x.toNat : Nat) : Int) = x
    omega
  rw [this, List.map_id]
theorem len_nil {cz : List Int} (h : ((cz.length : Int) == 0) = true) : cz = intsOf [] := by
  have : cz.length = 0 := by
    have := beq_iff_eq.1 h
    omega
  rw [List.length_eq_zero_iff.1 this]
  rfl
/-- Tests that are all passed: the ask is right. -/
theorem right_of {k : Int} {i t c s : ByteArray} {sd q p al st en ra sh : Int} {cz : List Int} (h : rightB k i t c s sd q p al st en ra sh cz.length (curB cz) = true) : ∃ L : List Nat, cz = intsOf L ∧ RightP ⟨k, i, t, c, s, sd, q, p, al, st, en, ra, sh, L⟩ := by
  unfold rightB at h
  rw [Bool.and_eq_true] at h
  obtain ⟨hi, h⟩ := h
  have NO : noOrdB c s sd al st cz.length ra sh = true → c = noText ∧ s = noText ∧ sd = 0 ∧ al = 0 ∧ st = 0 ∧ cz = intsOf [] ∧ ra = 0 ∧ sh = 0 := fun h => by
    unfold noOrdB at h
    simp only [Bool.and_eq_true] at h
    obtain ⟨h1, h2, h3, h4, h5, h6, h7, h8⟩ := h
    exact ⟨(empty_is c).1 h1, (empty_is s).1 h2, beq_iff_eq.1 h3, beq_iff_eq.1 h4, beq_iff_eq.1 h5, len_nil h6, beq_iff_eq.1 h7, beq_iff_eq.1 h8⟩
  have CH : chgB q p en = true → (1 ≤ q ∧ q ≤ 1099511627776) ∧ (1 ≤ p ∧ p ≤ 1099511627776) ∧ 0 ≤ en ∧ en ≤ 1099511627776 := fun h => by
    unfold chgB at h
    simp only [Bool.and_eq_true, inB_true] at h
    exact ⟨h.1.1, h.1.2, h.2⟩
  by_cases k1 : k = 1
  · rw [if_pos k1] at h
    simp only [Bool.and_eq_true] at h
    obtain ⟨ht, ho, ha⟩ := h
    have ht := (empty_is t).1 ht
    unfold ordB at ho
    simp only [Bool.and_eq_true] at ho
    obtain ⟨o1, o2, o3, o4, o5, o6⟩ := ho
    rw [inB_true] at o3 o5 o6
    have o4 := CH o4
    have G : ∀ L : List Nat, cz = intsOf L → (1 ≤ al ∧ al ≤ 4) → ((al = 2 → CurveP L) ∧ (al ≠ 2 → L = [])) → ((al = 3 → 1 ≤ ra ∧ ra ≤ 10000) ∧ (al ≠ 3 → ra = 0)) → ((al = 4 → 1 ≤ sh ∧ sh ≤ 1099511627776) ∧ (al ≠ 4 → sh = 0)) → ∃ L : List Nat, cz = intsOf L ∧ RightP ⟨k, i, t, c, s, sd, q, p, al, st, en, ra, sh, L⟩ := fun L e a1 a2 a3 a4 =>
      ⟨L, e, ⟨by dsimp only; omega, hi, fun h => absurd k1 h, fun h => absurd k1 h, fun _ => o4, fun _ => ⟨ht, o1, o2, o3, a1, o5, o6⟩, a2, a3, a4⟩⟩
    unfold algB at ha
    by_cases a1 : al = 1
    · rw [if_pos a1] at ha
      simp only [Bool.and_eq_true] at ha
      obtain ⟨b1, b2, b3⟩ := ha
      exact G [] (len_nil b1) (by omega) ⟨fun e => by omega, fun _ => rfl⟩ ⟨fun e => by omega, fun _ => beq_iff_eq.1 b2⟩ ⟨fun e => by omega, fun _ => beq_iff_eq.1 b3⟩
    rw [if_neg a1] at ha
    by_cases a2 : al = 2
    · rw [if_pos a2] at ha
      simp only [Bool.and_eq_true] at ha
      obtain ⟨b1, b2, b3⟩ := ha
      obtain ⟨L, rfl⟩ := cur_ints b1
      exact G L rfl (by omega) ⟨fun _ => (cur_iff L).1 b1, fun e => absurd a2 e⟩ ⟨fun e => by omega, fun _ => beq_iff_eq.1 b2⟩ ⟨fun e => by omega, fun _ => beq_iff_eq.1 b3⟩
    rw [if_neg a2] at ha
    by_cases a3 : al = 3
    · rw [if_pos a3] at ha
      simp only [Bool.and_eq_true, inB_true] at ha
      obtain ⟨b1, b2, b3⟩ := ha
      exact G [] (len_nil b1) (by omega) ⟨fun e => by omega, fun _ => rfl⟩ ⟨fun _ => b2, fun e => absurd a3 e⟩ ⟨fun e => by omega, fun _ => beq_iff_eq.1 b3⟩
    rw [if_neg a3] at ha
    by_cases a4 : al = 4
    · rw [if_pos a4] at ha
      simp only [Bool.and_eq_true, inB_true] at ha
      obtain ⟨b1, b2, b3⟩ := ha
      exact G [] (len_nil b1) (by omega) ⟨fun e => by omega, fun _ => rfl⟩ ⟨fun e => by omega, fun _ => beq_iff_eq.1 b2⟩ ⟨fun _ => b3, fun e => absurd a4 e⟩
    rw [if_neg a4] at ha
    simp at ha
  rw [if_neg k1] at h
  have AL : al = 0 → ra = 0 → sh = 0 → ((al = 2 → CurveP []) ∧ (al ≠ 2 → ([] : List Nat) = [])) ∧ ((al = 3 → 1 ≤ ra ∧ ra ≤ 10000) ∧ (al ≠ 3 → ra = 0)) ∧ ((al = 4 → 1 ≤ sh ∧ sh ≤ 1099511627776) ∧ (al ≠ 4 → sh = 0)) := fun e e2 e3 => ⟨⟨fun h => by omega, fun _ => rfl⟩, ⟨fun h => by omega, fun _ => e2⟩, ⟨fun h => by omega, fun _ => e3⟩⟩
  by_cases k3 : k = 3
  · rw [if_pos k3] at h
    simp only [Bool.and_eq_true] at h
    obtain ⟨h1, h2, h3⟩ := h
    obtain ⟨n1, n2, n3, n4, n5, n6, n7, n8⟩ := NO h3
    obtain ⟨A1, A2, A3⟩ := AL n4 n7 n8
    exact ⟨[], n6, ⟨by dsimp only; omega, hi, fun _ => ⟨h1, n1, n2, n3, n4, n5⟩, fun _ e => absurd k3 e, fun _ => CH h2, fun e => absurd e k1, A1, A2, A3⟩⟩
  rw [if_neg k3] at h
  by_cases k5 : k = 2 ∨ k = 4 ∨ k = 5
  · rw [if_pos k5] at h
    simp only [Bool.and_eq_true] at h
    obtain ⟨h1, h2, h3⟩ := h
    obtain ⟨n1, n2, n3, n4, n5, n6, n7, n8⟩ := NO h3
    obtain ⟨A1, A2, A3⟩ := AL n4 n7 n8
    unfold noChgB at h2
    simp only [Bool.and_eq_true] at h2
    exact ⟨[], n6, ⟨by dsimp only; omega, hi, fun _ => ⟨h1, n1, n2, n3, n4, n5⟩, fun _ _ => ⟨beq_iff_eq.1 h2.1, beq_iff_eq.1 h2.2.1, beq_iff_eq.1 h2.2.2⟩, fun e => by rcases e with e | e; exact absurd e k1; exact absurd e k3, fun e => absurd e k1, A1, A2, A3⟩⟩
  · rw [if_neg k5] at h
    simp at h
/-- A right ask passes all tests. -/
theorem right_to {k : Int} {i t c s : ByteArray} {sd q p al st en ra sh : Int} {L : List Nat} (R : RightP ⟨k, i, t, c, s, sd, q, p, al, st, en, ra, sh, L⟩) : rightB k i t c s sd q p al st en ra sh (intsOf L).length (curB (intsOf L)) = true := by
  obtain ⟨r1, r2, r3, r4, r5, r6, r7, r8, r9⟩ := R
  dsimp only at r1 r2 r3 r4 r5 r6 r7 r8 r9
  have CH : (k = 1 ∨ k = 3) → chgB q p en = true := fun e => by
    have := r5 e
    unfold chgB
    simp only [Bool.and_eq_true, inB_true]
    exact ⟨⟨this.1, this.2.1⟩, this.2.2⟩
  have NIL : al ≠ 2 → (((intsOf L).length : Int) == 0) = true := fun e => by rw [r7.2 e]; rfl
  have NO : k ≠ 1 → noOrdB c s sd al st (intsOf L).length ra sh = true := fun e => by
    obtain ⟨_, n1, n2, n3, n4, n5⟩ := r3 e
    unfold noOrdB
    simp only [Bool.and_eq_true]
    exact ⟨(empty_is c).2 n1, (empty_is s).2 n2, beq_iff_eq.2 n3, beq_iff_eq.2 n4, beq_iff_eq.2 n5, NIL (by omega), beq_iff_eq.2 (r8.2 (by omega)), beq_iff_eq.2 (r9.2 (by omega))⟩
  unfold rightB
  rw [r2, Bool.true_and]
  by_cases k1 : k = 1
  · rw [if_pos k1]
    obtain ⟨n1, n2, n3, n4, n5, n6, n7⟩ := r6 k1
    simp only [Bool.and_eq_true]
    refine ⟨(empty_is t).2 n1, ?_, ?_⟩
    · unfold ordB
      simp only [Bool.and_eq_true, inB_true]
      exact ⟨n2, n3, n4, CH (.inl k1), n6, n7⟩
    · unfold algB
      by_cases a1 : al = 1
      · rw [if_pos a1]
        simp only [Bool.and_eq_true]
        exact ⟨NIL (by omega), beq_iff_eq.2 (r8.2 (by omega)), beq_iff_eq.2 (r9.2 (by omega))⟩
      rw [if_neg a1]
      by_cases a2 : al = 2
      · rw [if_pos a2]
        simp only [Bool.and_eq_true]
        exact ⟨(cur_iff L).2 (r7.1 a2), beq_iff_eq.2 (r8.2 (by omega)), beq_iff_eq.2 (r9.2 (by omega))⟩
      rw [if_neg a2]
      by_cases a3 : al = 3
      · rw [if_pos a3]
        simp only [Bool.and_eq_true, inB_true]
        exact ⟨NIL (by omega), r8.1 a3, beq_iff_eq.2 (r9.2 (by omega))⟩
      rw [if_neg a3, if_pos (by omega)]
      simp only [Bool.and_eq_true, inB_true]
      exact ⟨NIL (by omega), beq_iff_eq.2 (r8.2 (by omega)), r9.1 (by omega)⟩
  rw [if_neg k1]
  by_cases k3 : k = 3
  · rw [if_pos k3]
    simp only [Bool.and_eq_true]
    exact ⟨(r3 k1).1, CH (.inr k3), NO k1⟩
  rw [if_neg k3, if_pos (by omega)]
  simp only [Bool.and_eq_true]
  obtain ⟨e1, e2, e3⟩ := r4 k1 k3
  refine ⟨(r3 k1).1, ?_, NO k1⟩
  unfold noChgB
  simp only [Bool.and_eq_true]
  exact ⟨beq_iff_eq.2 e1, beq_iff_eq.2 e2, beq_iff_eq.2 e3⟩
end Go.Proofs.YtepkmbpadhfbmaaGreatDoor
