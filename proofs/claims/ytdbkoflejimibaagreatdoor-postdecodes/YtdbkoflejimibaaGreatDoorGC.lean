/-
  The contract of body's Number.
-/
import Derived.Maps.OwnSet
import Derived.Maps.Views
import Derived.Deep.QuietTactic
import Derived.Laws.Cover3
import Derived.Test.YtdbkoflejimibaaGreatDoorGA
namespace Go.Proofs.YtdbkoflejimibaaGreatDoor
open Go.ChangeShapes Go.WideShapes Go.ChangeAt Go.RowKit Go.Lib

theorem head_byte (s : ByteArray) (h0 : 0 < s.size) (d : UInt8) : s.data.toList.getD 0 d = s[0]'h0 := by
  have := drop_byte s h0
  rw [List.drop_zero] at this
  rw [this]
  rfl
theorem no_bytes {s : ByteArray} (h : s.size = 0) : s = ⟨#[]⟩ := by
  apply bytes_ext8
  rw [size_eq] at h
  rw [List.eq_nil_of_length_eq_zero h]
theorem some_bytes {s : ByteArray} (h : ¬ s.size = 0) : s.toList.isEmpty = false := by
  rw [empty_bytes]
  exact decide_eq_false (fun e => h (by rw [e]; rfl))
set_option maxRecDepth 1000000 in
set_option maxHeartbeats 4000000 in
theorem number_good (s : ByteArray) (w : World) (hs : s.size ≤ maxLen) (h0 : 0 < s.size) (hh : ¬ ((s[0]'h0).toNat = 48 ∧ 1 < s.size)) :
    Calls Tryz.prog 79 #[.string s] w fun e w' => e = .returned (.tuple #[.int .i64 ((readA 9223372036854775807 s.data.toList 0).1 : Int), .int .i64 ((readA 9223372036854775807 s.data.toList 0).2 : Int)]) ∧ w' = w := by
  obtain ⟨N, e0, hR⟩ : ∃ N e0, readA 9223372036854775807 s.data.toList 0 = (N, e0) := ⟨_, _, rfl⟩
  rw [hR]
  dsimp only
  unfold maxLen at hs
  have z0 := some_bytes (s := s) (by omega)
  obtain ⟨c0, hc0⟩ : ∃ c, (s[0]'h0).toNat = c := ⟨_, rfl⟩
  have z1 : (0 : Int) < (s.size : Int) := by omega
  rw [hc0] at hh
  have F : Calls Tryz.prog 79 #[.string s] w fun e w' => e = .returned (.tuple #[.int .i64 (N : Int), .int .i64 (e0 : Int)]) ∧ w' = w := by
    have hz : (((c0 : Int) == 48) && decide ((1 : Int) < (s.size : Int))) = false := by
      by_cases g : c0 = 48
      · have : ¬ 1 < s.size := fun k => hh ⟨g, k⟩
        rw [decide_eq_false (by omega), Bool.and_false]
      · rw [beq_false_of_ne (by omega), Bool.false_and]
    clear hh
    by_cases g : c0 = 48
    · have q0 : ((c0 : Int) == 48) = true := by simp; omega
      have q1 : ¬ (1 : Int) < (s.size : Int) := by
        rw [q0, Bool.true_and] at hz
        exact of_decide_eq_false hz
      clear hz g
      go_enter Tryz.func79, Tryz.ntmps79
      go_wp2_with fail
      go_loopw [4, 22] (fun u i w' => ∃ (k num : Nat), w' = w ∧ u = .int .i64 (num : Int) ∧ i = .int .i64 (k : Int) ∧ k ≤ s.size ∧ num ≤ 9223372036854775807 ∧ readA 9223372036854775807 (s.data.toList.drop k) num = (N, e0)) (fun _ i _ => s.size - (RowKit.intOf i).toNat)
      case atStart => exact ⟨0, 0, rfl, rfl, rfl, by omega, by omega, by simpa using hR⟩
      case round =>
        clear hR hc0 q0 z0 z1
        obtain ⟨k, num, rfl, rfl, rfl, hk, hn, hg⟩ := hrel
        by_cases hp : k < s.size
        · have t0 : (k : Int) < (s.size : Int) := by omega
          rw [drop_byte s hp, readA] at hg
          obtain ⟨c, hc⟩ : ∃ c, (s[k]'hp).toNat = c := ⟨_, rfl⟩
          have hc8 : c < 256 := by rw [← hc]; exact UInt8.toNat_lt _
          rw [hc] at hg
          by_cases c1 : (c : Int) < 48
          · have HG : Hid (N = 0 ∧ e0 = 112) := by
              rw [if_pos (by omega)] at hg
              simp only [Prod.mk.injEq] at hg
              exact ⟨hg.1.symm, hg.2.symm⟩
            clear hg
            go_wp2_with fail
            go_ret2
            exact ⟨by rw [HG.out.1, HG.out.2]; rfl, rfl⟩
          by_cases c2 : (57 : Int) < (c : Int)
          · have HG : Hid (N = 0 ∧ e0 = 112) := by
              rw [if_pos (by omega)] at hg
              simp only [Prod.mk.injEq] at hg
              exact ⟨hg.1.symm, hg.2.symm⟩
            clear hg
            go_wp2_with fail
            go_ret2
            exact ⟨by rw [HG.out.1, HG.out.2]; rfl, rfl⟩
          rw [if_neg (by omega)] at hg
          obtain ⟨d, hd⟩ : ∃ d, c - 48 = d := ⟨_, rfl⟩
          rw [hd] at hg
          obtain rfl : c = d + 48 := by omega
          have d9 : d ≤ 9 := by omega
          have r1 : ((d + 48 : Nat) : Int) - 48 = (d : Int) := by omega
          obtain ⟨m, hm⟩ : ∃ m : Nat, (9223372036854775807 - d) / 10 = m := ⟨_, rfl⟩
          have r2 : (9223372036854775807 - (d : Int)) / 10 = (m : Int) := by omega
          have r3 : (9223372036854775807 - (d : Int)).tdiv 10 = (m : Int) := by rw [Int.tdiv_eq_ediv_of_nonneg (by omega)]; exact r2
          by_cases c3 : 9223372036854775807 < 10 * num + d
          · have t3 : (m : Int) < (num : Int) := by omega
            have HG : Hid (N = 0 ∧ e0 = 112) := by
              rw [if_pos c3] at hg
              simp only [Prod.mk.injEq] at hg
              exact ⟨hg.1.symm, hg.2.symm⟩
            clear hg hm
            go_wp2_with fail
            go_ret2
            exact ⟨by rw [HG.out.1, HG.out.2]; rfl, rfl⟩
          · have t3 : ¬ (m : Int) < (num : Int) := by omega
            rw [if_neg c3] at hg
            have HG : Hid (readA 9223372036854775807 (s.data.toList.drop (k + 1)) (10 * num + d) = (N, e0)) := hg
            clear hg hm
            go_wp2_with fail
            go_roundw
            case rel => exact ⟨k + 1, 10 * num + d, by first | trivial | rfl, by simp, by simp, by omega, by omega, HG.out⟩
            case measure => simp [RowKit.intOf]; omega
        · obtain rfl : k = s.size := by omega
          have HG : Hid (N = num ∧ e0 = 0) := by
            rw [size_eq, List.drop_length, readA, Prod.mk.injEq] at hg
            exact ⟨hg.1.symm, hg.2.symm⟩
          clear hg
          have t0 : ¬ (s.size : Int) < (s.size : Int) := by omega
          go_wp2_with fail
          go_ret2
          exact ⟨by rw [HG.out.1, HG.out.2]; rfl, rfl⟩
    · have q0 : ((c0 : Int) == 48) = false := beq_false_of_ne (by omega)
      clear hz g
      go_enter Tryz.func79, Tryz.ntmps79
      go_wp2_with fail
      go_loopw [4, 22] (fun u i w' => ∃ (k num : Nat), w' = w ∧ u = .int .i64 (num : Int) ∧ i = .int .i64 (k : Int) ∧ k ≤ s.size ∧ num ≤ 9223372036854775807 ∧ readA 9223372036854775807 (s.data.toList.drop k) num = (N, e0)) (fun _ i _ => s.size - (RowKit.intOf i).toNat)
      case atStart => exact ⟨0, 0, rfl, rfl, rfl, by omega, by omega, by simpa using hR⟩
      case round =>
        clear hR hc0 q0 z0 z1
        obtain ⟨k, num, rfl, rfl, rfl, hk, hn, hg⟩ := hrel
        by_cases hp : k < s.size
        · have t0 : (k : Int) < (s.size : Int) := by omega
          rw [drop_byte s hp, readA] at hg
          obtain ⟨c, hc⟩ : ∃ c, (s[k]'hp).toNat = c := ⟨_, rfl⟩
          have hc8 : c < 256 := by rw [← hc]; exact UInt8.toNat_lt _
          rw [hc] at hg
          by_cases c1 : (c : Int) < 48
          · have HG : Hid (N = 0 ∧ e0 = 112) := by
              rw [if_pos (by omega)] at hg
              simp only [Prod.mk.injEq] at hg
              exact ⟨hg.1.symm, hg.2.symm⟩
            clear hg
            go_wp2_with fail
            go_ret2
            exact ⟨by rw [HG.out.1, HG.out.2]; rfl, rfl⟩
          by_cases c2 : (57 : Int) < (c : Int)
          · have HG : Hid (N = 0 ∧ e0 = 112) := by
              rw [if_pos (by omega)] at hg
              simp only [Prod.mk.injEq] at hg
              exact ⟨hg.1.symm, hg.2.symm⟩
            clear hg
            go_wp2_with fail
            go_ret2
            exact ⟨by rw [HG.out.1, HG.out.2]; rfl, rfl⟩
          rw [if_neg (by omega)] at hg
          obtain ⟨d, hd⟩ : ∃ d, c - 48 = d := ⟨_, rfl⟩
          rw [hd] at hg
          obtain rfl : c = d + 48 := by omega
          have d9 : d ≤ 9 := by omega
          have r1 : ((d + 48 : Nat) : Int) - 48 = (d : Int) := by omega
          obtain ⟨m, hm⟩ : ∃ m : Nat, (9223372036854775807 - d) / 10 = m := ⟨_, rfl⟩
          have r2 : (9223372036854775807 - (d : Int)) / 10 = (m : Int) := by omega
          have r3 : (9223372036854775807 - (d : Int)).tdiv 10 = (m : Int) := by rw [Int.tdiv_eq_ediv_of_nonneg (by omega)]; exact r2
          by_cases c3 : 9223372036854775807 < 10 * num + d
          · have t3 : (m : Int) < (num : Int) := by omega
            have HG : Hid (N = 0 ∧ e0 = 112) := by
              rw [if_pos c3] at hg
              simp only [Prod.mk.injEq] at hg
              exact ⟨hg.1.symm, hg.2.symm⟩
            clear hg hm
            go_wp2_with fail
            go_ret2
            exact ⟨by rw [HG.out.1, HG.out.2]; rfl, rfl⟩
          · have t3 : ¬ (m : Int) < (num : Int) := by omega
            rw [if_neg c3] at hg
            have HG : Hid (readA 9223372036854775807 (s.data.toList.drop (k + 1)) (10 * num + d) = (N, e0)) := hg
            clear hg hm
            go_wp2_with fail
            go_roundw
            case rel => exact ⟨k + 1, 10 * num + d, by first | trivial | rfl, by simp, by simp, by omega, by omega, HG.out⟩
            case measure => simp [RowKit.intOf]; omega
        · obtain rfl : k = s.size := by omega
          have HG : Hid (N = num ∧ e0 = 0) := by
            rw [size_eq, List.drop_length, readA, Prod.mk.injEq] at hg
            exact ⟨hg.1.symm, hg.2.symm⟩
          clear hg
          have t0 : ¬ (s.size : Int) < (s.size : Int) := by omega
          go_wp2_with fail
          go_ret2
          exact ⟨by rw [HG.out.1, HG.out.2]; rfl, rfl⟩
  exact F
set_option maxHeartbeats 2000000 in
theorem number_bad (s : ByteArray) (w : World) (hs : s.size ≤ maxLen) (hh : s.size = 0 ∨ (∃ h0 : 0 < s.size, (s[0]'h0).toNat = 48 ∧ 1 < s.size)) :
    Calls Tryz.prog 79 #[.string s] w fun e w' => e = .returned (.tuple #[.int .i64 0, .int .i64 112]) ∧ w' = w := by
  rcases hh with h | ⟨h0, hc, h1⟩
  · have e := no_bytes h
    subst e
    clear h hs
    go_enter Tryz.func79, Tryz.ntmps79
    go_wp2_with fail
    go_ret2
    exact ⟨rfl, rfl⟩
  · have z0 := some_bytes (s := s) (by omega)
    have z1 : (0 : Int) < (s.size : Int) := by omega
    have z2 : (1 : Int) < (s.size : Int) := by omega
    go_enter Tryz.func79, Tryz.ntmps79
    go_wp2_with fail
    go_ret2
    exact ⟨rfl, rfl⟩
/-- Number of any text. -/
theorem number_any (s : ByteArray) (w : World) (hs : s.size ≤ maxLen) :
    Calls Tryz.prog 79 #[.string s] w fun e w' => e = .returned (.tuple #[.int .i64 ((numE s.data.toList).1 : Int), .int .i64 ((numE s.data.toList).2 : Int)]) ∧ w' = w := by
  by_cases h0 : 0 < s.size
  · by_cases hh : (s[0]'h0).toNat = 48 ∧ 1 < s.size
    · have e : numE s.data.toList = (0, 112) := by
        unfold numE
        rw [if_pos (.inr ⟨by rw [head_byte s h0]; exact UInt8.toNat_inj.1 hh.1, by rw [← size_eq]; exact hh.2⟩)]
      rw [e]
      exact number_bad s w hs (.inr ⟨h0, hh⟩)
    · have e : numE s.data.toList = readA 9223372036854775807 s.data.toList 0 := by
        unfold numE
        rw [if_neg]
        rintro (g | ⟨g1, g2⟩)
        · rw [size_eq, g] at h0
          simp at h0
        · rw [head_byte s h0] at g1
          exact hh ⟨by rw [g1]; rfl, by rw [size_eq]; exact g2⟩
      rw [e]
      exact number_good s w hs h0 hh
  · have e : numE s.data.toList = (0, 112) := by
      have := no_bytes (s := s) (by omega)
      rw [this]
      rfl
    rw [e]
    exact number_bad s w hs (.inl (by omega))
end Go.Proofs.YtdbkoflejimibaaGreatDoor
/-
  Lists of numbers from 0 on in memory that grow by append.
-/
namespace Go.Proofs.YtdbkoflejimibaaGreatDoor
open Go.ChangeShapes Go.WideShapes Go.ChangeAt Go.RowKit Go.Lib

/-- The cells of a list of numbers. -/
def nts (L : List Nat) : List Value := L.map fun n : Nat => .int .i64 (n : Int)
theorem nts_more (L : List Nat) (n : Nat) : nts (L ++ [n]) = nts L ++ [.int .i64 (n : Int)] := by simp [nts]
theorem infoI : (Tryz.prog.info? 3).map (fun i => (i.zero, i.size, i.bytes)) = some (some (.int .i64 0), 1, 8) := by kernel_rfl
/-- A list of numbers that grows in memory newer than w0. -/
structure GrowsI (w0 : World) (w : World) (v : Value) (L : List Nat) : Prop where
  own : w.ownsRow w0.heap.size 3 1 v L.length (nts L)
  below : Below w0.heap.size w0 w
theorem GrowsI.none (w0 w : World) (h : Below w0.heap.size w0 w) : GrowsI w0 w (.slice none 0 0) [] := ⟨World.ownsRow_nil _ _ _ _, h⟩
theorem GrowsI.still {w0 w w' : World} {v : Value} {L : List Nat} (h : GrowsI w0 w v L) (k : Below w.heap.size w w') : GrowsI w0 w' v L :=
  ⟨own_below h.own k, h.below.trans (k.mono h.below.size)⟩
theorem GrowsI.more {w0 w w' : World} {v v' : Value} {L : List Nat} {n : Nat} (h : GrowsI w0 w v L) (hg : w.grownBy w' v.ownBlock) (hown : w'.ownsRow w0.heap.size 3 1 v' (L.length + 1) (nts L ++ [.int .i64 (n : Int)])) : GrowsI w0 w' v' (L ++ [n]) := by
  have BG := But.of_grown hg
  refine ⟨by rw [nts_more, List.length_append]; exact hown, h.below.trans (BG.below h.below.size (fun k hk => (h.own.lt k hk).1))⟩
theorem GrowsI.shape {w0 w : World} {v : Value} {L : List Nat} (h : GrowsI w0 w v L) : ∃ a cap, v = .slice a L.length cap := own_shape h.own
theorem GrowsI.row {w0 w : World} {v : Value} {L : List Nat} (h : GrowsI w0 w v L) : Row w v L.length fun i => .int .i64 ((L.getD i 0 : Nat) : Int) := by
  refine row_of_own h.own _ ?_
  intro i hi
  simp [nts, hi]
theorem cell_int_new (w : World) (x : Value) (t : TypeId) : ∀ j u, ([x] : List Value)[j]? = some u → (w.alloc (.cells #[x] t)).cell? ((⟨w.heap.size, 0, none⟩ : Addr).add j) = some u := by
  intro j u hj
  rw [Addr.add_lit, Nat.zero_add]
  match j, hj with
  | 0, hj => simp at hj; subst hj; simp
  | j + 1, hj => simp at hj
/-- The cells of a list of any numbers. -/
def its (L : List Int) : List Value := L.map fun n => .int .i64 n
theorem its_more (L : List Int) (n : Int) : its (L ++ [n]) = its L ++ [.int .i64 n] := by simp [its]
theorem its_row {w : World} {base : Nat} {v : Value} {L : List Int} (h : w.ownsRow base 3 1 v L.length (its L)) : Row w v L.length fun i => .int .i64 (L.getD i 0) := by
  refine row_of_own h _ ?_
  intro i hi
  simp [its, hi]
end Go.Proofs.YtdbkoflejimibaaGreatDoor
/-
  A map from numbers to fields (a text, a mark) in memory: what it holds, told by a function.
-/
namespace Go.Proofs.YtdbkoflejimibaaGreatDoor
open Go.ChangeShapes Go.WideShapes Go.ChangeAt Go.RowKit Go.Lib

/-- How one field reads. -/
def fldElem : Value → Option (DataW Unit × List MemPlace)
  | .agg ⟨[.string s, .bool b]⟩ => some (.agg [.lit (.string s.data.toList), .lit (.bool b)], [])
  | _ => none
theorem fldElem_mk (s : ByteArray) (b : Bool) : fldElem (.agg #[.string s, .bool b]) = some (.agg [.lit (.string s.data.toList), .lit (.bool b)], []) := rfl
theorem bytes_of_list {a b : ByteArray} (h : a.data.toList = b.data.toList) : a = b := by
  obtain ⟨⟨x⟩⟩ := a
  obtain ⟨⟨y⟩⟩ := b
  simp only at h
  rw [h]
theorem fldElem_inv {v : Value} {z : DataW Unit × List MemPlace} (h : fldElem v = some z) : ∃ s b, v = .agg #[.string s, .bool b] ∧ z = (.agg [.lit (.string s.data.toList), .lit (.bool b)], []) := by
  unfold fldElem at h
  split at h
  · rename_i s b
    exact ⟨s, b, rfl, (Option.some.inj h).symm⟩
  · cases h
theorem fldElem_at {v : Value} {s : ByteArray} {b : Bool} {ps : List MemPlace} (h : fldElem v = some (.agg [.lit (.string s.data.toList), .lit (.bool b)], ps)) : v = .agg #[.string s, .bool b] := by
  obtain ⟨s', b', rfl, e⟩ := fldElem_inv h
  simp only [Prod.mk.injEq, DataW.agg.injEq, List.cons.injEq, DataW.lit.injEq, Lit.string.injEq, Lit.bool.injEq] at e
  rw [bytes_of_list e.1.1, e.1.2.1]
theorem intKeys : Go.Maps.Keyed Tryz.prog 3 := Go.Maps.int_keyed Tryz.underlying3
theorem zeroFld (w : World) : (zeroValue 111).run Tryz.prog w = .ok (.agg #[.string ⟨#[]⟩, .bool false]) w := by kernel_rfl
/-- What is told of a field that may be there. -/
def fldV (o : Option (ByteArray × Bool)) : Value := match o with
  | some (s, b) => .agg #[.string s, .bool b]
  | none => .agg #[.string ⟨#[]⟩, .bool false]
/-- The datum D tells what L tells. -/
def Tells (D : DataW Unit) (L : Int → Option (ByteArray × Bool)) : Prop := ∀ t : Int, match L t with
  | none => Maps.has D (.int .i64 t) = false
  | some (s, b) => Maps.has D (.int .i64 t) = true ∧ ∀ z, D.atKey (.int .i64 t) z = .agg [.lit (.string s.data.toList), .lit (.bool b)]
/-- Block bm is a map of at most n entries that holds what L tells. -/
def FMap (w : World) (bm n : Nat) (L : Int → Option (ByteArray × Bool)) : Prop := ∃ D : DataW Unit, w.ownsMap Tryz.prog 3 fldElem bm n D ∧ Tells D L
theorem FMap.made (w : World) : FMap (w.alloc (.map #[] 0)) w.heap.size 0 (fun _ => none) := ⟨.map [], World.ownsMap_made _ _ _ _, fun _ => rfl⟩
theorem FMap.lt {w : World} {bm n : Nat} {L : Int → Option (ByteArray × Bool)} (h : FMap w bm n L) : bm < w.heap.size := by
  obtain ⟨D, h1, _⟩ := h
  exact h1.lt
theorem FMap.kept {w w' : World} {bm n : Nat} {L : Int → Option (ByteArray × Bool)} {S : Nat → Prop} (h : FMap w bm n L) (k : But S w w') (hS : ¬ S bm) : FMap w' bm n L := by
  have lt := h.lt
  obtain ⟨D, ⟨es, clock, hb, F, hs, hD⟩, h2⟩ := h
  exact ⟨D, ⟨es, clock, by rw [k.block bm lt hS]; exact hb, F, hs, hD⟩, h2⟩
theorem FMap.still {w w' : World} {bm n : Nat} {L : Int → Option (ByteArray × Bool)} (h : FMap w bm n L) (k : Below w.heap.size w w') : FMap w' bm n L := h.kept (But.of_below (S := fun _ => False) k) id
theorem FMap.wide {w : World} {bm n m : Nat} {L : Int → Option (ByteArray × Bool)} (h : FMap w bm n L) (hm : n ≤ m) : FMap w bm m L := by
  obtain ⟨D, h1, h2⟩ := h
  exact ⟨D, h1.mono hm, h2⟩
theorem keyI {t : Int} (h1 : -9223372036854775808 ≤ t) (h2 : t ≤ 9223372036854775807) : keyOf Tryz.prog 3 (.int .i64 t) = some (.int .i64 t) := Go.Maps.keyOf_int_mk Tryz.underlying3 (WalkArith.wf_i64 (by omega))
theorem FMap.look_ok {w : World} {bm n : Nat} {L : Int → Option (ByteArray × Bool)} (h : FMap w bm n L) (t : Int) (h1 : -9223372036854775808 ≤ t) (h2 : t ≤ 9223372036854775807) :
    (Instr.lookup 107 (.map (some bm)) (.int .i64 t) true).run Tryz.prog w = .ok (.tuple #[fldV (L t), .bool (L t).isSome]) w := by
  obtain ⟨D, ho, hT⟩ := h
  obtain ⟨v, ps, hrun, hv⟩ := ho.look_ok intKeys Tryz.underlying107 (zeroFld w) (fldElem_mk _ _) (keyI h1 h2)
  have := hT t
  cases hL : L t with
  | none =>
    rw [hL] at this
    simp only at this
    rw [Maps.atKey_of_not_has this] at hv
    rw [this, fldElem_at hv] at hrun
    exact hrun
  | some p =>
    obtain ⟨s, b⟩ := p
    rw [hL] at this
    simp only at this
    rw [this.2] at hv
    rw [this.1, fldElem_at hv] at hrun
    exact hrun
theorem FMap.look {w : World} {bm n : Nat} {L : Int → Option (ByteArray × Bool)} (h : FMap w bm n L) (t : Int) (h1 : -9223372036854775808 ≤ t) (h2 : t ≤ 9223372036854775807) :
    (Instr.lookup 107 (.map (some bm)) (.int .i64 t) false).run Tryz.prog w = .ok (fldV (L t)) w := by
  obtain ⟨D, ho, hT⟩ := h
  obtain ⟨v, ps, hrun, hv⟩ := ho.lookup intKeys Tryz.underlying107 (zeroFld w) (fldElem_mk _ _) (keyI h1 h2)
  have := hT t
  cases hL : L t with
  | none =>
    rw [hL] at this
    simp only at this
    rw [Maps.atKey_of_not_has this] at hv
    rw [fldElem_at hv] at hrun
    exact hrun
  | some p =>
    obtain ⟨s, b⟩ := p
    rw [hL] at this
    simp only at this
    rw [this.2] at hv
    rw [fldElem_at hv] at hrun
    exact hrun
/-- L with another field at t. -/
def updI (L : Int → Option (ByteArray × Bool)) (t : Int) (p : ByteArray × Bool) : Int → Option (ByteArray × Bool) := fun u => if u = t then some p else L u
theorem updI_same (L : Int → Option (ByteArray × Bool)) (t : Int) (p : ByteArray × Bool) : updI L t p t = some p := if_pos rfl
theorem updI_other (L : Int → Option (ByteArray × Bool)) {t u : Int} (p : ByteArray × Bool) (h : u ≠ t) : updI L t p u = L u := if_neg h
theorem Tells.put {D : DataW Unit} {L : Int → Option (ByteArray × Bool)} (h : Tells D L) (hD : Maps.IsMap D) (t : Int) (s : ByteArray) (b : Bool) : Tells (D.put (.int .i64 t) (.agg [.lit (.string s.data.toList), .lit (.bool b)])) (updI L t (s, b)) := by
  intro u
  by_cases e : u = t
  · subst e
    rw [updI_same]
    exact ⟨Maps.has_put_same hD (by simp [WideAt.IsKeyLit]) _, fun z => Maps.atKey_put_same hD (by simp [WideAt.IsKeyLit]) _ _⟩
  · rw [updI_other L _ e]
    have hne : (Lit.int .i64 u) ≠ .int .i64 t := fun k => e (by cases k; rfl)
    have := h u
    cases hL : L u with
    | none =>
      rw [hL] at this
      simp only at this ⊢
      rw [Maps.has_put_other hne]
      exact this
    | some p =>
      obtain ⟨s', b'⟩ := p
      rw [hL] at this
      simp only at this ⊢
      rw [Maps.has_put_other hne]
      exact ⟨this.1, fun z => by rw [Maps.atKey_put_other hne]; exact this.2 z⟩
/-- A store: the same block holds one field more, or another. -/
theorem FMap.store {w : World} {bm n : Nat} {L : Int → Option (ByteArray × Bool)} (h : FMap w bm n L) (hn : n ≤ 1000000) (t : Int) (h1 : -9223372036854775808 ≤ t) (h2 : t ≤ 9223372036854775807) (s : ByteArray) (b : Bool) :
    ∃ w', (Instr.mapUpdate 107 (.map (some bm)) (.int .i64 t) (.agg #[.string s, .bool b])).run Tryz.prog w = .ok () w' ∧ FMap w' bm (n + 1) (updI L t (s, b)) ∧ But (fun k => k = bm) w w' := by
  obtain ⟨D, ho, hT⟩ := h
  obtain ⟨w', hrun, ho', ht⟩ := ho.store intKeys Tryz.underlying107 (show n < maxLen by unfold maxLen; omega) (keyI h1 h2) (fldElem_mk s b)
  exact ⟨w', hrun, ⟨_, ho', hT.put ho.isMap t s b⟩, (But.of_grown ht.grown).mono (fun i _ e => (Option.some.inj e).symm)⟩
/-- The same, whatever was drawn. -/
theorem FMap.stores {w : World} {bm n : Nat} {L : Int → Option (ByteArray × Bool)} (h : FMap w bm n L) (hn : n ≤ 1000000) (t : Int) (h1 : -9223372036854775808 ≤ t) (h2 : t ≤ 9223372036854775807) (s : ByteArray) (b : Bool) :
    ∃ W : Nat → World, (∀ m, (Instr.mapUpdate 107 (.map (some bm)) (.int .i64 t) (.agg #[.string s, .bool b])).run Tryz.prog (w.drewN m) = .ok () (W m)) ∧ ∀ m, FMap (W m) bm (n + 1) (updI L t (s, b)) ∧ But (fun k => k = bm) w (W m) := by
  have := fun m => (h.still (below_drewN w.heap.size m w)).store hn t h1 h2 s b
  refine ⟨fun m => Classical.choose (this m), fun m => (Classical.choose_spec (this m)).1, fun m => ⟨(Classical.choose_spec (this m)).2.1, ?_⟩⟩
  exact (But.of_below (below_drewN w.heap.size m w)).trans (Classical.choose_spec (this m)).2.2 (fun _ _ e => e)
end Go.Proofs.YtdbkoflejimibaaGreatDoor
/-
  A body's form in memory, and the contracts of what only looks at it: made, Kind, Has, Done.
-/
namespace Go.Proofs.YtdbkoflejimibaaGreatDoor
open Go.ChangeShapes Go.WideShapes Go.ChangeAt Go.RowKit Go.Lib

/-- A form at block fb: its map at block bm, its tags' slice tv, the first error and its tag; all of it from block n0 on. -/
structure Frm (n0 : Nat) (w : World) (fb bm n : Nat) (tv : Value) (tags : List Int) (L : Int → Option (ByteArray × Bool)) (at_ e : Int) : Prop where
  c0 : w.cell? ⟨fb, 0, none⟩ = some (.map (some bm))
  c1 : w.cell? ⟨fb, 1, none⟩ = some tv
  c2 : w.cell? ⟨fb, 2, none⟩ = some (.int .i64 at_)
  c3 : w.cell? ⟨fb, 3, none⟩ = some (.int .i64 e)
  f1 : w.frozen? ⟨fb, 1, none⟩ = false
  f2 : w.frozen? ⟨fb, 2, none⟩ = false
  f3 : w.frozen? ⟨fb, 3, none⟩ = false
  map : FMap w bm n L
  own : w.ownsRow n0 3 1 tv tags.length (its tags)
  lof : n0 ≤ fb
  lom : n0 ≤ bm
  ne : bm ≠ fb
  nf : tv.ownBlock ≠ some fb
theorem Frm.lt {n0 : Nat} {w : World} {fb bm n : Nat} {tv : Value} {tags : List Int} {L : Int → Option (ByteArray × Bool)} {at_ e : Int} (h : Frm n0 w fb bm n tv tags L at_ e) : fb < w.heap.size := World.block_lt_of_cell? _ _ h.c0
theorem Frm.nm {n0 : Nat} {w : World} {fb bm n : Nat} {tv : Value} {tags : List Int} {L : Int → Option (ByteArray × Bool)} {at_ e : Int} (h : Frm n0 w fb bm n tv tags L at_ e) : tv.ownBlock ≠ some bm := by
  intro k
  obtain ⟨D, ⟨es, clock, hb, _⟩, _⟩ := h.map
  rcases h.own.2 with ⟨rfl, _⟩ | ⟨g, cap, cur, rfl, _, hg, _⟩
  · simp [Value.ownBlock] at k
  · simp only [Value.ownBlock, Option.some.injEq] at k
    subst k
    rw [hb] at hg
    simp at hg
theorem Frm.kept {n0 : Nat} {w w' : World} {fb bm n : Nat} {tv : Value} {tags : List Int} {L : Int → Option (ByteArray × Bool)} {at_ e : Int} {S : Nat → Prop} (h : Frm n0 w fb bm n tv tags L at_ e) (k : But S w w') (hS : ∀ i, n0 ≤ i → i < w.heap.size → ¬ S i) : Frm n0 w' fb bm n tv tags L at_ e where
  c0 := (k.cell h.lt (hS _ h.lof h.lt)).trans h.c0
  c1 := (k.cell h.lt (hS _ h.lof h.lt)).trans h.c1
  c2 := (k.cell h.lt (hS _ h.lof h.lt)).trans h.c2
  c3 := (k.cell h.lt (hS _ h.lof h.lt)).trans h.c3
  f1 := (k.frozen h.lt (hS _ h.lof h.lt)).trans h.f1
  f2 := (k.frozen h.lt (hS _ h.lof h.lt)).trans h.f2
  f3 := (k.frozen h.lt (hS _ h.lof h.lt)).trans h.f3
  map := h.map.kept k (hS _ h.lom h.map.lt)
  own := own_kept h.own k (fun g hg => hS g (h.own.lt g hg).1 (h.own.lt g hg).2)
  lof := h.lof
  lom := h.lom
  ne := h.ne
  nf := h.nf
theorem Frm.still {n0 : Nat} {w w' : World} {fb bm n : Nat} {tv : Value} {tags : List Int} {L : Int → Option (ByteArray × Bool)} {at_ e : Int} (h : Frm n0 w fb bm n tv tags L at_ e) (k : Below w.heap.size w w') : Frm n0 w' fb bm n tv tags L at_ e :=
  h.kept (But.of_below (S := fun _ => False) k) (fun _ _ _ => id)

theorem map_some (bm : Nat) (w : World) : (binOp .neq 107 (.map (some bm)) (.map none)).run Tryz.prog w = .ok (.bool true) w := run_neq_map_nil (P := Tryz.prog) w _ _ _ (some bm) Tryz.underlying107
theorem map_none (w : World) : (binOp .neq 107 (.map none) (.map none)).run Tryz.prog w = .ok (.bool false) w := run_neq_map_nil (P := Tryz.prog) w _ _ _ none Tryz.underlying107
set_option maxHeartbeats 1000000 in
theorem made_yes {n0 : Nat} {w : World} {fb bm n : Nat} {tv : Value} {tags : List Int} {L : Int → Option (ByteArray × Bool)} {at_ e : Int} (h : Frm n0 w fb bm n tv tags L at_ e) :
    Calls Tryz.prog 49 #[.pointer (some ⟨fb, 0, none⟩)] w fun e w' => e = .returned (.bool true) ∧ w' = w := by
  have c0 := h.c0
  have m1 := map_some bm
  clear h
  go_enter Tryz.func49, Tryz.ntmps49
  go_wp2_with fail
  go_ret
  exact ⟨rfl, rfl⟩
/-- No form: nil, or one that Read did not make. -/
def NoFrm (w : World) (p : Value) : Prop := p = .pointer none ∨ ∃ fb, p = .pointer (some ⟨fb, 0, none⟩) ∧ w.cell? ⟨fb, 0, none⟩ = some (.map none)
theorem NoFrm.still {w w' : World} {p : Value} (h : NoFrm w p) (k : Below w.heap.size w w') : NoFrm w' p := by
  rcases h with h | ⟨fb, h, c⟩
  · exact .inl h
  · exact .inr ⟨fb, h, (k.cell (World.block_lt_of_cell? _ _ c)).trans c⟩
set_option maxHeartbeats 1000000 in
theorem made_no {w : World} {p : Value} (h : NoFrm w p) :
    Calls Tryz.prog 49 #[p] w fun e w' => e = .returned (.bool false) ∧ w' = w := by
  rcases h with rfl | ⟨fb, rfl, c⟩
  · go_enter Tryz.func49, Tryz.ntmps49
    go_wp2_with fail
    go_ret
    exact ⟨rfl, rfl⟩
  · have m1 := map_none
    go_enter Tryz.func49, Tryz.ntmps49
    go_wp2_with fail
    go_ret
    exact ⟨rfl, rfl⟩
end Go.Proofs.YtdbkoflejimibaaGreatDoor
/-
  Contracts of what only looks at a form: Kind, Has, Done.
-/
namespace Go.Proofs.YtdbkoflejimibaaGreatDoor
open Go.ChangeShapes Go.WideShapes Go.ChangeAt Go.RowKit Go.Lib

theorem fldV_shape (o : Option (ByteArray × Bool)) : ∃ s b, fldV o = .agg #[.string s, .bool b] := by
  cases o with
  | none => exact ⟨_, _, rfl⟩
  | some p => exact ⟨_, _, rfl⟩
theorem fld0 (s : ByteArray) (b : Bool) (w : World) : (Instr.field 111 (.agg #[.string s, .bool b]) 0).run Tryz.prog w = .ok (.string s) w := by kernel_rfl
theorem fld1 (s : ByteArray) (b : Bool) (w : World) : (Instr.field 111 (.agg #[.string s, .bool b]) 1).run Tryz.prog w = .ok (.bool b) w := by kernel_rfl
set_option maxHeartbeats 1000000 in
theorem kind_yes {n0 : Nat} {w : World} {fb bm n : Nat} {tv : Value} {tags : List Int} {L : Int → Option (ByteArray × Bool)} {at_ e0 : Int} (h : Frm n0 w fb bm n tv tags L at_ e0) (s : ByteArray) (b : Bool) (hL : L 35 = some (s, b)) :
    Calls Tryz.prog 30 #[.pointer (some ⟨fb, 0, none⟩)] w fun e w' => e = .returned (.string s) ∧ w' = w := by
  have F := made_yes h
  have lk := h.map.look 35 (by omega) (by omega)
  rw [hL, show fldV (some (s, b)) = .agg #[.string s, .bool b] from rfl] at lk
  have c0 := h.c0
  have g0 := fld0 s b
  clear h hL
  go_enter Tryz.func30, Tryz.ntmps30
  go_wp2_with fail
  refine F.mono ?_
  rintro e w1 ⟨rfl, rfl⟩
  go_wp2_with fail
  go_ret
  exact ⟨rfl, rfl⟩
set_option maxHeartbeats 1000000 in
theorem has_yes {n0 : Nat} {w : World} {fb bm n : Nat} {tv : Value} {tags : List Int} {L : Int → Option (ByteArray × Bool)} {at_ e0 : Int} (h : Frm n0 w fb bm n tv tags L at_ e0) (t : Int) (h1 : -9223372036854775808 ≤ t) (h2 : t ≤ 9223372036854775807) :
    Calls Tryz.prog 48 #[.pointer (some ⟨fb, 0, none⟩), .int .i64 t] w fun e w' => e = .returned (.bool (L t).isSome) ∧ Below w.heap.size w w' := by
  have F := made_yes h
  have lk := h.map.look_ok t h1 h2
  obtain ⟨s, b, e1⟩ := fldV_shape (L t)
  rw [e1] at lk
  generalize (L t).isSome = x at *
  have c0 := h.c0
  clear h e1
  go_enter Tryz.func48, Tryz.ntmps48
  go_wp2_with fail
  refine F.mono ?_
  rintro e w1 ⟨rfl, rfl⟩
  go_wp2_with fail
  go_ret
  exact ⟨rfl, (Below.refl _ _).alloc (Nat.le_refl _) _⟩
/-- Whether a field counts as asked for. -/
def askedB (L : Int → Option (ByteArray × Bool)) (t : Int) : Bool := match L t with
  | some (_, b) => b
  | none => false
theorem fldV_asked (L : Int → Option (ByteArray × Bool)) (t : Int) : ∃ s, fldV (L t) = .agg #[.string s, .bool (askedB L t)] := by
  unfold askedB
  cases L t with
  | none => exact ⟨_, rfl⟩
  | some p => exact ⟨p.1, rfl⟩
/-- The first field that was not asked for. -/
def spareE (L : Int → Option (ByteArray × Bool)) : List Int → Int × Int
  | [] => (0, 0)
  | t :: r => if askedB L t = true then spareE L r else (t, 113)
set_option maxHeartbeats 2000000 in
theorem done_err {n0 : Nat} {w : World} {fb bm n : Nat} {tv : Value} {tags : List Int} {L : Int → Option (ByteArray × Bool)} {at_ e0 : Int} (h : Frm n0 w fb bm n tv tags L at_ e0) (he : e0 ≠ 0) :
    Calls Tryz.prog 57 #[.pointer (some ⟨fb, 0, none⟩)] w fun e w' => e = .returned (.tuple #[.int .i64 at_, .int .i64 e0]) ∧ Below w.heap.size w w' := by
  have F := made_yes h
  have c2 := h.c2
  have c3 := h.c3
  have t : (e0 == 0) = false := beq_false_of_ne he
  clear h
  go_enter Tryz.func57, Tryz.ntmps57
  go_wp2_with fail
  refine F.mono ?_
  rintro e w1 ⟨rfl, rfl⟩
  go_wp2_with fail
  go_quiet (fail)
  go_wp2_with fail
  go_ret2
  exact ⟨rfl, below_drewN _ _ _⟩
set_option maxRecDepth 1000000 in
set_option maxHeartbeats 4000000 in
theorem done_ok {n0 : Nat} {w : World} {fb bm n : Nat} {tv : Value} {tags : List Int} {L : Int → Option (ByteArray × Bool)} {at_ : Int} (h : Frm n0 w fb bm n tv tags L at_ 0) (hr : ∀ t ∈ tags, -9223372036854775808 ≤ t ∧ t ≤ 9223372036854775807) :
    Calls Tryz.prog 57 #[.pointer (some ⟨fb, 0, none⟩)] w fun e w' => e = .returned (.tuple #[.int .i64 (spareE L tags).1, .int .i64 (spareE L tags).2]) ∧ w' = w := by
  have F := made_yes h
  have c0 := h.c0
  have c1 := h.c1
  have c3 := h.c3
  have lk := h.map.look
  obtain ⟨a, cap, rfl, r1, r2, r3⟩ := its_row h.own
  obtain ⟨A, E, hD⟩ : ∃ A E, spareE L tags = (A, E) := ⟨_, _, rfl⟩
  rw [hD]
  unfold maxLen at r2
  dsimp only
  clear h
  go_enter Tryz.func57, Tryz.ntmps57
  go_wp2_with fail
  refine F.mono ?_
  rintro e w1 ⟨rfl, rfl⟩
  go_wp2_with fail
  go_loopw [27] (fun i wr => ∃ k : Nat, i = .int .i64 (k : Int) ∧ k ≤ tags.length ∧ wr = w1 ∧ spareE L (tags.drop k) = (A, E)) (fun i _ => tags.length - (RowKit.intOf i).toNat)
  case atStart => exact ⟨0, rfl, Nat.zero_le _, rfl, hD⟩
  case round =>
    clear hD
    obtain ⟨k, rfl, hk, rfl, hg⟩ := hrel
    by_cases hp : k < tags.length
    · have t0 : (k : Int) < (tags.length : Int) := by omega
      obtain ⟨b, off, rfl, cc⟩ := r3 k hp
      have ek : tags.getD k 0 = tags[k] := by simp [hp]
      rw [ek] at cc
      have hm := hr tags[k] (List.getElem_mem hp)
      rw [List.drop_eq_getElem_cons hp, spareE] at hg
      have lk1 := lk tags[k] hm.1 hm.2
      obtain ⟨s, e1⟩ := fldV_asked L tags[k]
      rw [e1] at lk1
      have g1 := fld1 s
      generalize tags[k] = T at *
      clear r3 lk hr ek e1 F
      by_cases hb : askedB L T = true
      · rw [if_pos hb] at hg
        rw [hb] at lk1
        have HG : Hid (spareE L (tags.drop (k + 1)) = (A, E)) := hg
        clear hg hb
        go_wp2_with fail
        go_roundw
        case rel => exact ⟨k + 1, by simp, by omega, by first | trivial | rfl, HG.out⟩
        case measure => simp [RowKit.intOf]; omega
      · have hb' : askedB L T = false := by simpa using hb
        rw [if_neg hb] at hg
        rw [hb'] at lk1
        have HG : Hid ((T, (113 : Int)) = (A, E)) := hg
        clear hg hb hb'
        go_wp2_with fail
        go_ret2
        have := HG.out
        simp only [Prod.mk.injEq] at this
        exact ⟨by rw [← this.1, ← this.2]; rfl, rfl⟩
    · obtain rfl : k = tags.length := by omega
      have t0 : ¬ (tags.length : Int) < (tags.length : Int) := by omega
      rw [List.drop_length, spareE] at hg
      have HG : Hid (((0 : Int), (0 : Int)) = (A, E)) := hg
      clear hg
      go_wp2_with fail
      go_ret2
      have := HG.out
      simp only [Prod.mk.injEq] at this
      exact ⟨by rw [← this.1, ← this.2]; rfl, rfl⟩
end Go.Proofs.YtdbkoflejimibaaGreatDoor
/-
  Contracts of body's take, at numbers and at texts, out of the contract of what reads a value.
-/
namespace Go.Proofs.YtdbkoflejimibaaGreatDoor
open Go.ChangeShapes Go.WideShapes Go.ChangeAt Go.RowKit Go.Lib

/-- The blocks that an ask may write. -/
abbrev Two (fb bm : Nat) : Nat → Prop := fun k => k = fb ∨ k = bm
/-- The form with another error, written in both cells. -/
theorem Frm.fail {n0 : Nat} {w : World} {fb bm n : Nat} {tv : Value} {tags : List Int} {L : Int → Option (ByteArray × Bool)} {at_ e : Int} (h : Frm n0 w fb bm n tv tags L at_ e) (t e1 : Int) :
    Frm n0 ((w.setCell ⟨fb, 2, none⟩ (.int .i64 t)).setCell ⟨fb, 3, none⟩ (.int .i64 e1)) fb bm n tv tags L t e1 where
  c0 := by rw [World.cell?_setCell_other, World.cell?_setCell_other]; exact h.c0; all_goals simp
  c1 := by rw [World.cell?_setCell_other, World.cell?_setCell_other]; exact h.c1; all_goals simp
  c2 := by rw [World.cell?_setCell_other]; exact World.cell?_setCell_same _ _ _ h.c2; simp
  c3 := World.cell?_setCell_same _ _ _ (show (w.setCell ⟨fb, 2, none⟩ (.int .i64 t)).cell? ⟨fb, 3, none⟩ = some (.int .i64 e) by rw [World.cell?_setCell_other]; exact h.c3; simp)
  f1 := by rw [World.frozen?_setCell, World.frozen?_setCell]; exact h.f1
  f2 := by rw [World.frozen?_setCell, World.frozen?_setCell]; exact h.f2
  f3 := by rw [World.frozen?_setCell, World.frozen?_setCell]; exact h.f3
  map := h.map.kept (S := fun k => k = fb) (((But.refl (fun k => k = fb) w).setCell fb 2 _ (fun _ => rfl)).setCell fb 3 _ (fun _ => rfl)) h.ne
  own := own_kept (S := fun k => k = fb) h.own (((But.refl (fun k => k = fb) w).setCell fb 2 _ (fun _ => rfl)).setCell fb 3 _ (fun _ => rfl)) (fun g hg e => h.nf (by rw [hg, e]))
  lof := h.lof
  lom := h.lom
  ne := h.ne
  nf := h.nf
/-- The form with another field in its map. -/
theorem Frm.stored {n0 : Nat} {w w' : World} {fb bm n m : Nat} {tv : Value} {tags : List Int} {L L' : Int → Option (ByteArray × Bool)} {at_ e : Int} (h : Frm n0 w fb bm n tv tags L at_ e) (k : But (fun i => i = bm) w w') (hm : FMap w' bm m L') :
    Frm n0 w' fb bm m tv tags L' at_ e where
  c0 := (k.cell h.lt (fun e => h.ne e.symm)).trans h.c0
  c1 := (k.cell h.lt (fun e => h.ne e.symm)).trans h.c1
  c2 := (k.cell h.lt (fun e => h.ne e.symm)).trans h.c2
  c3 := (k.cell h.lt (fun e => h.ne e.symm)).trans h.c3
  f1 := (k.frozen h.lt (fun e => h.ne e.symm)).trans h.f1
  f2 := (k.frozen h.lt (fun e => h.ne e.symm)).trans h.f2
  f3 := (k.frozen h.lt (fun e => h.ne e.symm)).trans h.f3
  map := hm
  own := own_kept h.own k (fun g hg e => h.nm (by rw [hg, e]))
  lof := h.lof
  lom := h.lom
  ne := h.ne
  nf := h.nf

set_option maxRecDepth 1000000 in
set_option maxHeartbeats 4000000 in
theorem takeI_good {n0 : Nat} {w : World} {fb bm n : Nat} {tv : Value} {tags : List Int} {L : Int → Option (ByteArray × Bool)} {at_ : Int} (h : Frm n0 w fb bm n tv tags L at_ 0) (hn : n ≤ 1000000) (t : Int) (h1 : -9223372036854775808 ≤ t) (h2 : t ≤ 9223372036854775807) (s : ByteArray) (b : Bool) (hL : L t = some (s, b)) (b1 b2 : Nat) (x : Int)
    (R : ∀ w1, Below w.heap.size w w1 → Calls Tryz.prog 78 #[.string s, .pointer (some ⟨b1, 0, none⟩), .pointer (some ⟨b2, 0, none⟩)] w1 fun e w2 => e = .returned (.tuple #[.int .i64 x, .int .i64 0]) ∧ Below w1.heap.size w1 w2) :
    Calls Tryz.prog 77 #[.pointer (some ⟨fb, 0, none⟩), .int .i64 t, .func (.func 78) #[] #[.pointer (some ⟨b1, 0, none⟩), .pointer (some ⟨b2, 0, none⟩)]] w fun e w' => e = .returned (.int .i64 x) ∧ Frm n0 w' fb bm (n + 1) tv tags (updI L t (s, true)) at_ 0 ∧ But (Two fb bm) w w' := by
  have F := made_yes h
  have lk := h.map.look_ok t h1 h2
  rw [hL, show fldV (some (s, b)) = .agg #[.string s, .bool b] from rfl, show (some (s, b)).isSome = true from rfl] at lk
  have c0 := h.c0
  have c3 := h.c3
  have lt := h.lt
  have HF : Hid (Frm n0 w fb bm n tv tags L at_ 0) := h
  have HL : Hid (L t = some (s, b)) := hL
  have A1 : Below w.heap.size w (w.alloc (.cells #[.string s, .bool b] 111)) := (Below.refl _ w).alloc (Nat.le_refl _) _
  have R1 := R _ A1
  clear h hL R
  go_enter Tryz.func77, Tryz.ntmps77
  go_wp2_with fail
  refine F.mono ?_
  rintro e w1 ⟨rfl, rfl⟩
  clear F
  go_wp2_with fail
  refine R1.mono ?_
  rintro e w2 ⟨rfl, hb⟩
  clear R1
  have o0 : w2.cell? ⟨w1.heap.size, 0, none⟩ = some (.string s) := (hb.cell (p := ⟨w1.heap.size, 0, none⟩) (by simp)).trans (by simp)
  have o1 : w2.cell? ⟨w1.heap.size, 1, none⟩ = some (.bool b) := (hb.cell (p := ⟨w1.heap.size, 1, none⟩) (by simp)).trans (by simp)
  have of1 : w2.frozen? ⟨w1.heap.size, 1, none⟩ = false := (hb.frozen (p := ⟨w1.heap.size, 1, none⟩) (by simp)).trans (by simp)
  have B2 : Below w1.heap.size w1 w2 := A1.trans (hb.mono (by simp))
  obtain ⟨w3, hw3⟩ : ∃ w3, w3 = w2.setCell ⟨w1.heap.size, 1, none⟩ (.bool true) := ⟨_, rfl⟩
  have B3 : Below w1.heap.size w1 w3 := by rw [hw3]; exact B2.setCell (Nat.le_refl _) _
  have G3 := HF.out.still B3
  have q0 : w3.cell? ⟨w1.heap.size, 0, none⟩ = some (.string s) := by rw [hw3, World.cell?_setCell_other]; exact o0; simp
  have q1 : w3.cell? ⟨w1.heap.size, 1, none⟩ = some (.bool true) := by rw [hw3]; exact World.cell?_setCell_same _ _ _ o1
  obtain ⟨W, hW, hW2⟩ := G3.map.stores hn t h1 h2 s true
  have d0 := G3.c0
  have HG : Hid (Frm n0 w3 fb bm n tv tags L at_ 0) := G3
  have HW : Hid (∀ m, FMap (W m) bm (n + 1) (updI L t (s, true)) ∧ But (fun k => k = bm) w3 (W m)) := hW2
  have HB : Hid (Below w1.heap.size w1 w3) := B3
  clear hW2 G3 B3 B2 hb c0 c3 lk A1
  have HW3 : Hid (w3 = w2.setCell ⟨w1.heap.size, 1, none⟩ (.bool true)) := hw3
  clear hw3
  go_wp2_with fail
  rw [← HW3.out]
  clear o0 o1 of1
  have hW1 : (Instr.mapUpdate 107 (.map (some bm)) (.int .i64 t) (.agg #[.string s, .bool true])).run Tryz.prog w3.drew = .ok () (W 1) := hW 1
  clear hW HW3
  go_region
  go_wp2_with fail
  go_ret
  exact ⟨rfl, HG.out.stored (HW.out 1).2 (HW.out 1).1, (But.of_below HB.out).trans (HW.out 1).2 (fun _ _ e => .inr e)⟩
set_option maxRecDepth 1000000 in
set_option maxHeartbeats 4000000 in
theorem takeI_bad {n0 : Nat} {w : World} {fb bm n : Nat} {tv : Value} {tags : List Int} {L : Int → Option (ByteArray × Bool)} {at_ : Int} (h : Frm n0 w fb bm n tv tags L at_ 0) (t : Int) (h1 : -9223372036854775808 ≤ t) (h2 : t ≤ 9223372036854775807) (s : ByteArray) (b : Bool) (hL : L t = some (s, b)) (b1 b2 : Nat) (x e1 : Int) (he : e1 ≠ 0)
    (R : ∀ w1, Below w.heap.size w w1 → Calls Tryz.prog 78 #[.string s, .pointer (some ⟨b1, 0, none⟩), .pointer (some ⟨b2, 0, none⟩)] w1 fun e w2 => e = .returned (.tuple #[.int .i64 x, .int .i64 e1]) ∧ Below w1.heap.size w1 w2) :
    Calls Tryz.prog 77 #[.pointer (some ⟨fb, 0, none⟩), .int .i64 t, .func (.func 78) #[] #[.pointer (some ⟨b1, 0, none⟩), .pointer (some ⟨b2, 0, none⟩)]] w fun e w' => e = .returned (.int .i64 0) ∧ Frm n0 w' fb bm n tv tags L t e1 ∧ But (Two fb bm) w w' := by
  have F := made_yes h
  have lk := h.map.look_ok t h1 h2
  rw [hL, show fldV (some (s, b)) = .agg #[.string s, .bool b] from rfl, show (some (s, b)).isSome = true from rfl] at lk
  have c0 := h.c0
  have c3 := h.c3
  have lt := h.lt
  have HF : Hid (Frm n0 w fb bm n tv tags L at_ 0) := h
  have A1 : Below w.heap.size w (w.alloc (.cells #[.string s, .bool b] 111)) := (Below.refl _ w).alloc (Nat.le_refl _) _
  have R1 := R _ A1
  have te : (e1 == 0) = false := beq_false_of_ne he
  clear h hL R
  go_enter Tryz.func77, Tryz.ntmps77
  go_wp2_with fail
  refine F.mono ?_
  rintro e w1 ⟨rfl, rfl⟩
  clear F
  go_wp2_with fail
  refine R1.mono ?_
  rintro e w2 ⟨rfl, hb⟩
  clear R1
  have B2 : Below w1.heap.size w1 w2 := A1.trans (hb.mono (by simp))
  have G2 := HF.out.still B2
  have d0 := G2.c0
  have d2 := G2.c2
  have d3 := G2.c3
  have g2 := G2.f2
  have g3 := G2.f3
  have HG : Hid (Frm n0 w2 fb bm n tv tags L at_ 0) := G2
  have HB : Hid (Below w1.heap.size w1 w2) := B2
  clear G2 B2 hb c0 c3 lk A1
  go_wp2_with fail
  go_ret
  exact ⟨rfl, HG.out.fail t e1, (((But.of_below HB.out).setCell fb 2 _ (fun _ => .inl rfl)).setCell fb 3 _ (fun _ => .inl rfl))⟩
set_option maxRecDepth 1000000 in
set_option maxHeartbeats 4000000 in
theorem takeS_good {n0 : Nat} {w : World} {fb bm n : Nat} {tv : Value} {tags : List Int} {L : Int → Option (ByteArray × Bool)} {at_ : Int} (h : Frm n0 w fb bm n tv tags L at_ 0) (hn : n ≤ 1000000) (t : Int) (h1 : -9223372036854775808 ≤ t) (h2 : t ≤ 9223372036854775807) (s : ByteArray) (b : Bool) (hL : L t = some (s, b)) (x : ByteArray)
    (R : ∀ w1, Below w.heap.size w w1 → Calls Tryz.prog 76 #[.string s] w1 fun e w2 => e = .returned (.tuple #[.string x, .int .i64 0]) ∧ Below w1.heap.size w1 w2) :
    Calls Tryz.prog 75 #[.pointer (some ⟨fb, 0, none⟩), .int .i64 t, .func (.func 76) #[] #[]] w fun e w' => e = .returned (.string x) ∧ Frm n0 w' fb bm (n + 1) tv tags (updI L t (s, true)) at_ 0 ∧ But (Two fb bm) w w' := by
  have F := made_yes h
  have lk := h.map.look_ok t h1 h2
  rw [hL, show fldV (some (s, b)) = .agg #[.string s, .bool b] from rfl, show (some (s, b)).isSome = true from rfl] at lk
  have c0 := h.c0
  have c3 := h.c3
  have lt := h.lt
  have HF : Hid (Frm n0 w fb bm n tv tags L at_ 0) := h
  have HL : Hid (L t = some (s, b)) := hL
  have A1 : Below w.heap.size w (w.alloc (.cells #[.string s, .bool b] 111)) := (Below.refl _ w).alloc (Nat.le_refl _) _
  have R1 := R _ A1
  clear h hL R
  go_enter Tryz.func75, Tryz.ntmps75
  go_wp2_with fail
  refine F.mono ?_
  rintro e w1 ⟨rfl, rfl⟩
  clear F
  go_wp2_with fail
  refine R1.mono ?_
  rintro e w2 ⟨rfl, hb⟩
  clear R1
  have o0 : w2.cell? ⟨w1.heap.size, 0, none⟩ = some (.string s) := (hb.cell (p := ⟨w1.heap.size, 0, none⟩) (by simp)).trans (by simp)
  have o1 : w2.cell? ⟨w1.heap.size, 1, none⟩ = some (.bool b) := (hb.cell (p := ⟨w1.heap.size, 1, none⟩) (by simp)).trans (by simp)
  have of1 : w2.frozen? ⟨w1.heap.size, 1, none⟩ = false := (hb.frozen (p := ⟨w1.heap.size, 1, none⟩) (by simp)).trans (by simp)
  have B2 : Below w1.heap.size w1 w2 := A1.trans (hb.mono (by simp))
  obtain ⟨w3, hw3⟩ : ∃ w3, w3 = w2.setCell ⟨w1.heap.size, 1, none⟩ (.bool true) := ⟨_, rfl⟩
  have B3 : Below w1.heap.size w1 w3 := by rw [hw3]; exact B2.setCell (Nat.le_refl _) _
  have G3 := HF.out.still B3
  have q0 : w3.cell? ⟨w1.heap.size, 0, none⟩ = some (.string s) := by rw [hw3, World.cell?_setCell_other]; exact o0; simp
  have q1 : w3.cell? ⟨w1.heap.size, 1, none⟩ = some (.bool true) := by rw [hw3]; exact World.cell?_setCell_same _ _ _ o1
  obtain ⟨W, hW, hW2⟩ := G3.map.stores hn t h1 h2 s true
  have d0 := G3.c0
  have HG : Hid (Frm n0 w3 fb bm n tv tags L at_ 0) := G3
  have HW : Hid (∀ m, FMap (W m) bm (n + 1) (updI L t (s, true)) ∧ But (fun k => k = bm) w3 (W m)) := hW2
  have HB : Hid (Below w1.heap.size w1 w3) := B3
  clear hW2 G3 B3 B2 hb c0 c3 lk A1
  have HW3 : Hid (w3 = w2.setCell ⟨w1.heap.size, 1, none⟩ (.bool true)) := hw3
  clear hw3
  go_wp2_with fail
  rw [← HW3.out]
  clear o0 o1 of1
  have hW1 : (Instr.mapUpdate 107 (.map (some bm)) (.int .i64 t) (.agg #[.string s, .bool true])).run Tryz.prog w3.drew = .ok () (W 1) := hW 1
  clear hW HW3
  go_region
  go_wp2_with fail
  go_ret
  exact ⟨rfl, HG.out.stored (HW.out 1).2 (HW.out 1).1, (But.of_below HB.out).trans (HW.out 1).2 (fun _ _ e => .inr e)⟩
set_option maxRecDepth 1000000 in
set_option maxHeartbeats 4000000 in
theorem takeS_bad {n0 : Nat} {w : World} {fb bm n : Nat} {tv : Value} {tags : List Int} {L : Int → Option (ByteArray × Bool)} {at_ : Int} (h : Frm n0 w fb bm n tv tags L at_ 0) (t : Int) (h1 : -9223372036854775808 ≤ t) (h2 : t ≤ 9223372036854775807) (s : ByteArray) (b : Bool) (hL : L t = some (s, b)) (x : ByteArray) (e1 : Int) (he : e1 ≠ 0)
    (R : ∀ w1, Below w.heap.size w w1 → Calls Tryz.prog 76 #[.string s] w1 fun e w2 => e = .returned (.tuple #[.string x, .int .i64 e1]) ∧ Below w1.heap.size w1 w2) :
    Calls Tryz.prog 75 #[.pointer (some ⟨fb, 0, none⟩), .int .i64 t, .func (.func 76) #[] #[]] w fun e w' => e = .returned (.string ⟨#[]⟩) ∧ Frm n0 w' fb bm n tv tags L t e1 ∧ But (Two fb bm) w w' := by
  have F := made_yes h
  have lk := h.map.look_ok t h1 h2
  rw [hL, show fldV (some (s, b)) = .agg #[.string s, .bool b] from rfl, show (some (s, b)).isSome = true from rfl] at lk
  have c0 := h.c0
  have c3 := h.c3
  have lt := h.lt
  have HF : Hid (Frm n0 w fb bm n tv tags L at_ 0) := h
  have A1 : Below w.heap.size w (w.alloc (.cells #[.string s, .bool b] 111)) := (Below.refl _ w).alloc (Nat.le_refl _) _
  have R1 := R _ A1
  have te : (e1 == 0) = false := beq_false_of_ne he
  clear h hL R
  go_enter Tryz.func75, Tryz.ntmps75
  go_wp2_with fail
  refine F.mono ?_
  rintro e w1 ⟨rfl, rfl⟩
  clear F
  go_wp2_with fail
  refine R1.mono ?_
  rintro e w2 ⟨rfl, hb⟩
  clear R1
  have B2 : Below w1.heap.size w1 w2 := A1.trans (hb.mono (by simp))
  have G2 := HF.out.still B2
  have d0 := G2.c0
  have d2 := G2.c2
  have d3 := G2.c3
  have g2 := G2.f2
  have g3 := G2.f3
  have HG : Hid (Frm n0 w2 fb bm n tv tags L at_ 0) := G2
  have HB : Hid (Below w1.heap.size w1 w2) := B2
  clear G2 B2 hb c0 c3 lk A1
  go_wp2_with fail
  go_ret
  exact ⟨rfl, HG.out.fail t e1, (((But.of_below HB.out).setCell fb 2 _ (fun _ => .inl rfl)).setCell fb 3 _ (fun _ => .inl rfl))⟩
end Go.Proofs.YtdbkoflejimibaaGreatDoor
