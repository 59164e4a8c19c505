/-
  What the library's functions answer here: strconv.Itoa, strings.Clone, strings.HasPrefix, utf8.RuneLen, strings.Builder; the table of the powers of ten stays as it is.
-/
import Derived.Lib.AppendIntMem
import Derived.BigQuiet
import Derived.Deep.QuietTactic
import Derived.Laws.RangeAny
import Derived.WalkMore
import Derived.Laws.IdiomStrings
import Derived.Deep.RegionHeld3
import Derived.WalkSpells
import Derived.WalkLawsBesides
import Derived.ProofKit
import Derived.OpenShut
import Derived.Outline
import Derived.Test.YtdbkoflejimibaaGreatDoorGA
import Derived.Test.YtdbkoflejimibaaGreatDoorShelf
namespace Go.Proofs.YtdbkoflejimibaaGreatDoor
open Go.ChangeShapes Go.WideShapes Go.ChangeAt Go.RowKit Go.Lib

def powName : String := Rows.postDecodesRow.named.getD 1 ""
/-- The table of the powers of ten is laid. -/
def Pow (w : World) : Prop := TabIs Tryz.prog w powName .u64 pow10Tab
theorem pow_there : (Tryz.prog.globalNamed powName).isSome = true := by kernel_rfl
theorem Pow.below {w w' : World} {B : Nat} (h : Pow w) (hb : Below B w w') (hB : w.heap.size ≤ B) : Pow w' := by
  obtain ⟨g, hg⟩ := Option.isSome_iff_exists.1 pow_there
  have c := TabIs.cell h hg 0 (by rw [pow10Tab_length]; omega)
  exact var?_below hb hg (Nat.lt_of_lt_of_le (World.block_lt_of_cell? _ _ c) hB) h
theorem Pow.still {w w' : World} (h : Pow w) (hb : Below w.heap.size w w') : Pow w' := h.below hb (Nat.le_refl _)

theorem itoa_any (n : Nat) (hn : n ≤ 99999) {w : World} (h : Pow w) :
    Calls Tryz.prog 45 #[.int .i64 (n : Int)] w fun e w' => e = .returned (.string (mk (decDigits n))) ∧ Below w.heap.size w w' := by
  have := Any.strconv_Itoa Tryz.laysM171 (n : Int) (by omega) (by omega) w h
  refine Calls.mono this ?_
  rintro e w' ⟨rfl, k, os, rfl⟩
  exact ⟨by rw [itoa_nonneg]; rfl, below_grow _ _ (Nat.le_refl _) _ _⟩
theorem runeLen_any (r : Int) (w : World) : Calls Tryz.prog 86 #[.int .i32 r] w fun e w' => e = .returned (.int .i64 (runeLen r)) ∧ w' = w := Any.utf8_RuneLen Tryz.lays118 r w
theorem prefix_any (s p : ByteArray) (w : World) : Calls Tryz.prog 100 #[.string s, .string p] w fun e w' => e = .returned (.bool (hasPrefix s.data.toList p.data.toList)) ∧ w' = w := Any.strings_HasPrefix Tryz.lays99 s p w
set_option maxHeartbeats 1000000 in
theorem clone_any (s : ByteArray) (w : World) (hs : s.size ≤ 281474976710656) :
    Calls Tryz.prog 92 #[.string s] w fun e w' => e = .returned (.string s) ∧ Below w.heap.size w w' := by
  have F : ∀ w, Calls Tryz.prog 101 #[.string s] w fun e w' => e = .returned (.string s) ∧ Below w.heap.size w w' := fun w => Any.stringslite_Clone Tryz.laysM316 s w hs
  go_enter Tryz.func92, Tryz.ntmps92
  go_wp2_with fail
  refine (F _).mono ?_
  rintro e w1 ⟨rfl, hb⟩
  go_wp2_with fail
  go_ret
  exact ⟨rfl, hb⟩

/-- A builder at block b that holds the bytes l; it lies from block B on. -/
def Bld (B b : Nat) (l : List UInt8) (w : World) : Prop := IsBuilder 97 5 B b (byteCells l) w
theorem Bld.fresh (w : World) : Bld w.heap.size w.heap.size [] (w.alloc (.cells #[.pointer none, .slice none 0 0] 97)) := fresh_isBuilder _ _ w
theorem BuilderAt.still {T e : TypeId} {B b : Nat} {p : Value} {bs : List Value} {w w' : World} (h : BuilderAt T e B b p bs w) (hb : Below w.heap.size w w') : BuilderAt T e B b p bs w' := by
  have hlt := h.lt
  obtain ⟨hB, v, hv, hown, hne⟩ := h
  exact ⟨hB, v, by rw [hb.block b hlt]; exact hv, own_below hown hb, hne⟩
theorem Bld.still {B b : Nat} {l : List UInt8} {w w' : World} (h : Bld B b l w) (hb : Below w.heap.size w w') : Bld B b l w' :=
  Or.elim h (fun x => .inl (BuilderAt.still x hb)) (fun x => .inr (BuilderAt.still x hb))
theorem cells_more (l : List UInt8) (s : ByteArray) : byteCells l ++ strCells s = byteCells (l ++ s.data.toList) := by
  simp [byteCells, strCells]
theorem cells_length (l : List UInt8) : (byteCells l).length = l.length := by simp [byteCells]
theorem write_any {B b : Nat} {l : List UInt8} {w : World} (h : Bld B b l w) (s : ByteArray) (hl : l.length + s.size ≤ 140737488355328) (hB : B ≤ w.heap.size) :
    Calls Tryz.prog 40 #[.pointer (some ⟨b, 0, none⟩), .string s] w fun e w' => e = .returned (.tuple #[.int .i64 s.size, .nilIface]) ∧ Bld B b (l ++ s.data.toList) w' ∧ Below B w w' := by
  have := Any.Builder_WriteString Tryz.lays166 Tryz.Builder_Extra_166 B b (byteCells l) s w h (by rw [cells_length]; exact hl) hB
  refine Calls.mono this ?_
  rintro e w' ⟨rfl, h1, h2⟩
  rw [cells_more] at h1
  exact ⟨rfl, .inr h1, h2⟩
theorem string_any {B b : Nat} {l : List UInt8} {w : World} (h : Bld B b l w) (hB : B ≤ w.heap.size) :
    Calls Tryz.prog 41 #[.pointer (some ⟨b, 0, none⟩)] w fun e w' => e = .returned (.string (mk l)) ∧ Below B w w' := by
  refine Calls.mono (Any.Builder_String_any Tryz.lays169 Tryz.Builder_Extra_169 B b l w h hB) ?_
  rintro e w' ⟨rfl, h1⟩
  exact ⟨rfl, by first | exact h1 | exact h1.1 | exact h1.2 | exact h1.2.1⟩
end Go.Proofs.YtdbkoflejimibaaGreatDoor
/-
  Contracts of tag's barred, run, readTag, readValue and Next: how far a value goes, which tag stands at the beginning of a text, which field.
-/
namespace Go.Proofs.YtdbkoflejimibaaGreatDoor
open Go.ChangeShapes Go.WideShapes Go.ChangeAt Go.RowKit Go.Lib

set_option maxHeartbeats 1000000 in
theorem barred_any (c : Nat) (w : World) :
    Calls Tryz.prog 87 #[.int .i32 (c : Int)] w fun e w' => e = .returned (.bool (!mayB c)) ∧ w' = w := by
  by_cases h1 : (c : Int) < 32
  · go_enter Tryz.func87, Tryz.ntmps87
    go_wp2
    go_ret
    exact ⟨by rw [mayB, decide_eq_false (by omega)]; rfl, rfl⟩
  by_cases h2 : c = 127
  · subst h2
    go_enter Tryz.func87, Tryz.ntmps87
    go_wp2
    go_ret
    exact ⟨rfl, rfl⟩
  by_cases h4 : c = 65533
  · subst h4
    go_enter Tryz.func87, Tryz.ntmps87
    go_wp2
    go_ret
    exact ⟨rfl, rfl⟩
  have k2 : ((c : Int) == 127) = false := beq_false_of_ne (by omega)
  have k4 : ((c : Int) == 65533) = false := beq_false_of_ne (by omega)
  go_enter Tryz.func87, Tryz.ntmps87
  go_wp2
  go_ret
  exact ⟨by rw [mayB, decide_eq_true (by omega)]; rfl, rfl⟩

theorem width_four (s : ByteArray) (pos : Nat) : (Utf8.decode s pos).2 ≤ 4 := by
  rw [decode_N]
  rcases decodeN_shape (s.data.toList.length - pos) (s.data.toList.getD pos 0).toNat (s.data.toList.getD (pos + 1) 0).toNat (s.data.toList.getD (pos + 2) 0).toNat (s.data.toList.getD (pos + 3) 0).toNat with ⟨c, e⟩ | ⟨c1, c2, c3, cv, e⟩ | ⟨c1, c2, c3, c4, cv, cs, e⟩ | ⟨c1, c2, c3, c4, c5, cv, cw, e⟩ | e
  all_goals (rw [e]; dsimp only; omega)
theorem run_end {l : List UInt8} {pos : Nat} (hp : pos ≤ 512) (h : mayB (decodeL (l.drop pos)).1 = true → 512 < pos + (decodeL (l.drop pos)).2) : runM (512 - pos) (l.drop pos) = 0 := by
  by_cases e : l.drop pos = []
  · rw [e, runM_nil]
  · rw [runM_step _ e, if_neg]
    rintro ⟨a, b⟩
    have := h a
    omega
theorem run_on {l : List UInt8} {pos : Nat} (hne : pos < l.length) (h : mayB (decodeL (l.drop pos)).1 = true) (hp : pos + (decodeL (l.drop pos)).2 ≤ 512) :
    pos + runM (512 - pos) (l.drop pos) = pos + (decodeL (l.drop pos)).2 + runM (512 - (pos + (decodeL (l.drop pos)).2)) (l.drop (pos + (decodeL (l.drop pos)).2)) := by
  have e : l.drop pos ≠ [] := by
    intro e
    have := congrArg List.length e
    rw [List.length_drop, List.length_nil] at this
    omega
  rw [runM_step _ e, if_pos ⟨h, by omega⟩, List.drop_drop, Nat.sub_sub]
  omega
set_option maxRecDepth 1000000 in
set_option maxHeartbeats 2000000 in
theorem run_any (s : ByteArray) (w : World) :
    Calls Tryz.prog 71 #[.string s] w fun e w' => e = .returned (.int .i64 (runM 512 s.data.toList : Int)) ∧ Below w.heap.size w w' := by
  have B : ∀ pos, Below w.heap.size w (w.iter s pos) := fun pos => (Below.refl _ w).alloc (Nat.le_refl _) _
  obtain ⟨M, hM⟩ : ∃ M, runM 512 s.data.toList = M := ⟨_, rfl⟩
  rw [hM]
  go_enter Tryz.func71, Tryz.ntmps71
  go_wp2_with fail
  go_step3
  go_wp2_with fail
  go_step3
  go_wp2_with fail
  go_loopw [3] (fun n w' => ∃ (pos : Nat), w' = w.iter s pos ∧ n = .int .i64 (pos : Int) ∧ pos ≤ 512 ∧ pos + runM (512 - pos) (s.data.toList.drop pos) = M) (fun _ w' => s.size - w'.iterPos w.heap.size)
  case atStart => exact ⟨0, rfl, rfl, by omega, by simpa using hM⟩
  case round =>
    clear hM
    obtain ⟨pos, rfl, rfl, hk, hg⟩ := hrel
    by_cases hp : pos < s.size
    · have hnx : ∀ ty, (Instr.next (.pointer (some ⟨w.heap.size, 0, none⟩)) true ty).run Tryz.prog (w.iter s pos) = _ := fun ty => run_next_any w s pos ty hp
      have hd := decodeL_drop s pos
      have hw := width_pos s pos
      have hle := Go.decode_le s pos
      have HG : Hid (pos + runM (512 - pos) (s.data.toList.drop pos) = M) := hg
      have HD : Hid (decodeL (s.data.toList.drop pos) = Utf8.decode s pos) := hd
      clear hg hd
      have F := barred_any (Utf8.decode s pos).1
      have G := runeLen_any ((Utf8.decode s pos).1 : Int)
      cases hc : mayB (Utf8.decode s pos).1
      · rw [hc, Bool.not_false] at F
        have HE : Hid (M = pos) := by
          have := run_end (l := s.data.toList) (pos := pos) hk (by rw [HD.out, hc]; intro e; cases e)
          show M = pos
          rw [← HG.out, this]
          rfl
        obtain ⟨q, hq⟩ : ∃ q, runeLen ((Utf8.decode s pos).1 : Int) = q := ⟨_, rfl⟩
        rw [hq] at G
        have hq' : -1 ≤ q ∧ q ≤ 4 := by rw [← hq]; unfold runeLen; repeat' split <;> omega
        clear hq
        generalize (Utf8.decode s pos).1 = c at *
        go_wp2_with fail
        refine (G _).mono ?_
        rintro e w1 ⟨rfl, rfl⟩
        go_wp2_with fail
        refine (F _).mono ?_
        rintro e w1 ⟨rfl, rfl⟩
        go_wp2_with fail
        try rw [Exit.noGoto_ret]
        go_ret
        exact ⟨by rw [HE.out]; rfl, B _⟩
      · rw [hc, Bool.not_true] at F
        have hq : runeLen ((Utf8.decode s pos).1 : Int) = ((Utf8.decode s pos).2 : Int) := by
          have := runeLen_decode (s.data.toList.drop pos) (by rw [HD.out]; exact may_right hc)
          rw [HD.out] at this
          exact this
        rw [hq] at G
        clear hq
        obtain ⟨wd, hwd⟩ : ∃ wd, (Utf8.decode s pos).2 = wd := ⟨_, rfl⟩
        have h4 : wd ≤ 4 := by rw [← hwd]; exact width_four s pos
        by_cases hlt : 512 < pos + wd
        · have t : (512 : Int) < (pos : Int) + (wd : Int) := by omega
          have HE : Hid (M = pos) := by
            have := run_end (l := s.data.toList) (pos := pos) hk (by rw [HD.out, hwd]; intro _; exact hlt)
            show M = pos
            rw [← HG.out, this]
            rfl
          rw [hwd] at G hw
          generalize (Utf8.decode s pos).1 = c at *
          go_wp2_with fail
          refine (G _).mono ?_
          rintro e w1 ⟨rfl, rfl⟩
          go_wp2_with fail
          refine (F _).mono ?_
          rintro e w1 ⟨rfl, rfl⟩
          go_wp2_with fail
          try rw [Exit.noGoto_ret]
          go_ret
          exact ⟨by rw [HE.out]; rfl, B _⟩
        · have t : ¬ (512 : Int) < (pos : Int) + (wd : Int) := by omega
          have HE : Hid (pos + wd + runM (512 - (pos + wd)) (s.data.toList.drop (pos + wd)) = M) := by
            have := run_on (l := s.data.toList) (pos := pos) (by rw [← size_eq]; exact hp) (by rw [HD.out]; exact hc) (by rw [HD.out, hwd]; omega)
            rw [HD.out, hwd] at this
            show _ = M
            rw [← HG.out, this]
          rw [hwd] at G hw hnx
          have HW : Hid ((Utf8.decode s pos).2 = wd) := hwd
          clear hwd
          generalize (Utf8.decode s pos).1 = c at *
          go_wp2_with fail
          refine (G _).mono ?_
          rintro e w1 ⟨rfl, rfl⟩
          go_wp2_with fail
          refine (F _).mono ?_
          rintro e w1 ⟨rfl, rfl⟩
          go_wp2_with fail
          go_roundw
          case rel => exact ⟨pos + wd, rfl, by simp, by omega, HE.out⟩
          case measure => simp; omega
    · have hnx : ∀ ty, (Instr.next (.pointer (some ⟨w.heap.size, 0, none⟩)) true ty).run Tryz.prog (w.iter s pos) = _ := fun ty => run_next_end w s pos ty hp
      have he : s.data.toList.drop pos = [] := List.drop_eq_nil_of_le (by rw [← size_eq]; omega)
      rw [he, runM_nil] at hg
      have HG : Hid (M = pos) := hg.symm
      clear hg he
      go_wp2_with fail
      rw [Exit.noGoto_ret]
      go_ret
      exact ⟨by rw [HG.out]; rfl, B _⟩

set_option maxRecDepth 1000000 in
set_option maxHeartbeats 2000000 in
theorem readTag_any (s : ByteArray) (w : World) (hs : s.size ≤ maxLen) :
    Calls Tryz.prog 90 #[.string s] w fun e w' => e = .returned (.tuple #[.int .i64 ((tagR s.data.toList 0 0).1 : Int), .int .i64 ((tagR s.data.toList 0 0).2.1 : Int), .int .i64 ((tagR s.data.toList 0 0).2.2 : Int)]) ∧ w' = w := by
  obtain ⟨N, b, e0, hR⟩ : ∃ N b e0, tagR s.data.toList 0 0 = (N, b, e0) := ⟨_, _, _, rfl⟩
  rw [hR]
  dsimp only
  unfold maxLen at hs
  go_enter Tryz.func90, Tryz.ntmps90
  go_wp2_with fail
  go_loopw [2, 9] (fun u i w' => ∃ (k num : Nat), w' = w ∧ u = .int .i64 (num : Int) ∧ i = .int .i64 (k : Int) ∧ k ≤ s.size ∧ num ≤ 99999 ∧ tagR (s.data.toList.drop k) k num = (N, b, e0)) (fun _ i _ => s.size - (RowKit.intOf i).toNat)
  case atStart => exact ⟨0, 0, rfl, rfl, rfl, by omega, by omega, by simpa using hR⟩
  case round =>
    clear hR
    obtain ⟨k, num, rfl, rfl, rfl, hk, hn, hg⟩ := hrel
    by_cases hp : k < s.size
    · have t0 : (k : Int) < (s.size : Int) := by omega
      rw [drop_byte s hp, tagR] at hg
      obtain ⟨c, hc⟩ : ∃ c, (s[k]'hp).toNat = c := ⟨_, rfl⟩
      have hc8 : c < 256 := by rw [← hc]; exact UInt8.toNat_lt _
      rw [hc] at hg
      have h61 : ((⟨#[61]⟩ : ByteArray)[0]'(by decide)).toNat = 61 := rfl
      by_cases k0 : k = 0
      · subst k0
        by_cases c1 : (c : Int) < 48
        · have HG : Hid (N = 0 ∧ b = 0 ∧ e0 = 80) := by
            rw [if_neg (by omega), if_pos (by omega)] at hg
            simp only [Prod.mk.injEq] at hg
            exact ⟨hg.1.symm, hg.2.1.symm, hg.2.2.symm⟩
          clear hg
          go_wp2_with fail
          go_ret3
          exact ⟨by rw [HG.out.1, HG.out.2.1, HG.out.2.2]; rfl, rfl⟩
        by_cases c2 : (57 : Int) < (c : Int)
        · have HG : Hid (N = 0 ∧ b = 0 ∧ e0 = 80) := by
            rw [if_neg (by omega), if_pos (by omega)] at hg
            simp only [Prod.mk.injEq] at hg
            exact ⟨hg.1.symm, hg.2.1.symm, hg.2.2.symm⟩
          clear hg
          go_wp2_with fail
          go_ret3
          exact ⟨by rw [HG.out.1, HG.out.2.1, HG.out.2.2]; rfl, rfl⟩
        by_cases c3 : c = 48
        · have HG : Hid (N = 0 ∧ b = 0 ∧ e0 = 80) := by
            rw [if_neg (by omega), if_pos (by omega)] at hg
            simp only [Prod.mk.injEq] at hg
            exact ⟨hg.1.symm, hg.2.1.symm, hg.2.2.symm⟩
          clear hg
          subst c3
          go_wp2_with fail
          go_ret3
          exact ⟨by rw [HG.out.1, HG.out.2.1, HG.out.2.2]; rfl, rfl⟩
        have t4 : ((c : Int) == 48) = false := beq_false_of_ne (by omega)
        by_cases hov : 99999 < 10 * num + (c - 48)
        · have t5 : (99999 : Int) < 10 * (num : Int) + ((c : Int) - 48) := by omega
          have HG : Hid (N = 0 ∧ b = 0 ∧ e0 = 80) := by
            rw [if_neg (by omega), if_neg (by omega), if_pos hov] at hg
            simp only [Prod.mk.injEq] at hg
            exact ⟨hg.1.symm, hg.2.1.symm, hg.2.2.symm⟩
          clear hg
          go_wp2_with fail
          go_ret3
          exact ⟨by rw [HG.out.1, HG.out.2.1, HG.out.2.2]; rfl, rfl⟩
        · have t5 : ¬ (99999 : Int) < 10 * (num : Int) + ((c : Int) - 48) := by omega
          rw [if_neg (by omega), if_neg (by omega), if_neg hov] at hg
          have HG : Hid (tagR (List.drop (0 + 1) s.data.toList) (0 + 1) (10 * num + (c - 48)) = (N, b, e0)) := hg
          clear hg
          go_wp2_with fail
          go_roundw
          case rel => exact ⟨0 + 1, 10 * num + (c - 48), trivial, by congr 1; omega, by simp, by omega, by omega, HG.out⟩
          case measure => simp [RowKit.intOf]; omega
      · have t1 : ((k : Int) == 0) = false := beq_false_of_ne (by omega)
        have t2 : (0 : Int) < (k : Int) := by omega
        by_cases c0 : c = 61
        · have HG : Hid (N = num ∧ b = k + 1 ∧ e0 = 0) := by
            rw [if_pos (by omega)] at hg
            simp only [Prod.mk.injEq] at hg
            exact ⟨hg.1.symm, hg.2.1.symm, hg.2.2.symm⟩
          clear hg
          have t4 : ((c : Int) == 61) = true := by simp [c0]
          clear c0
          go_wp2_with fail
          go_ret3
          exact ⟨by rw [HG.out.1, HG.out.2.1, HG.out.2.2]; rfl, rfl⟩
        have t4 : ((c : Int) == 61) = false := beq_false_of_ne (by omega)
        by_cases c1 : (c : Int) < 48
        · have HG : Hid (N = 0 ∧ b = 0 ∧ e0 = 80) := by
            rw [if_neg (by omega), if_pos (by omega)] at hg
            simp only [Prod.mk.injEq] at hg
            exact ⟨hg.1.symm, hg.2.1.symm, hg.2.2.symm⟩
          clear hg
          go_wp2_with fail
          go_ret3
          exact ⟨by rw [HG.out.1, HG.out.2.1, HG.out.2.2]; rfl, rfl⟩
        by_cases c2 : (57 : Int) < (c : Int)
        · have HG : Hid (N = 0 ∧ b = 0 ∧ e0 = 80) := by
            rw [if_neg (by omega), if_pos (by omega)] at hg
            simp only [Prod.mk.injEq] at hg
            exact ⟨hg.1.symm, hg.2.1.symm, hg.2.2.symm⟩
          clear hg
          go_wp2_with fail
          go_ret3
          exact ⟨by rw [HG.out.1, HG.out.2.1, HG.out.2.2]; rfl, rfl⟩
        by_cases hov : 99999 < 10 * num + (c - 48)
        · have t5 : (99999 : Int) < 10 * (num : Int) + ((c : Int) - 48) := by omega
          have HG : Hid (N = 0 ∧ b = 0 ∧ e0 = 80) := by
            rw [if_neg (by omega), if_neg (by omega), if_pos hov] at hg
            simp only [Prod.mk.injEq] at hg
            exact ⟨hg.1.symm, hg.2.1.symm, hg.2.2.symm⟩
          clear hg
          go_wp2_with fail
          go_ret3
          exact ⟨by rw [HG.out.1, HG.out.2.1, HG.out.2.2]; rfl, rfl⟩
        · have t5 : ¬ (99999 : Int) < 10 * (num : Int) + ((c : Int) - 48) := by omega
          rw [if_neg (by omega), if_neg (by omega), if_neg hov] at hg
          have HG : Hid (tagR (List.drop (k + 1) s.data.toList) (k + 1) (10 * num + (c - 48)) = (N, b, e0)) := hg
          clear hg
          go_wp2_with fail
          go_roundw
          case rel => exact ⟨k + 1, 10 * num + (c - 48), trivial, by congr 1; omega, by simp, by omega, by omega, HG.out⟩
          case measure => simp [RowKit.intOf]; omega
    · obtain rfl : k = s.size := by omega
      have t0 : ¬ (s.size : Int) < (s.size : Int) := by omega
      have he : s.data.toList.drop s.size = [] := List.drop_eq_nil_of_le (by rw [← size_eq]; omega)
      rw [he, tagR] at hg
      have HG : Hid (N = 0 ∧ b = 0 ∧ e0 = 82) := by
        simp only [Prod.mk.injEq] at hg
        exact ⟨hg.1.symm, hg.2.1.symm, hg.2.2.symm⟩
      clear hg he
      go_wp2_with fail
      go_ret3
      exact ⟨by rw [HG.out.1, HG.out.2.1, HG.out.2.2]; rfl, rfl⟩
end Go.Proofs.YtdbkoflejimibaaGreatDoor
/-
  Contracts of tag's readValue and Next: the field at the beginning of a text.
-/
namespace Go.Proofs.YtdbkoflejimibaaGreatDoor
open Go.ChangeShapes Go.WideShapes Go.ChangeAt Go.RowKit Go.Lib

/-- The value at the beginning of a text, an error's number. -/
def valL (l : List UInt8) : List UInt8 × Nat :=
  if runM 512 l = l.length then ([], 82) else if runM 512 l = 0 ∨ l.getD (runM 512 l) 0 ≠ 1 then ([], 81) else (l.take (runM 512 l), 0)
theorem prefix_one {l : List UInt8} (h : l ≠ []) : hasPrefix l [1] = decide (l.getD 0 0 = 1) := by
  cases l with
  | nil => exact absurd rfl h
  | cons x r =>
    unfold hasPrefix
    simp [List.isPrefixOf]
    rw [Bool.eq_iff_iff]
    simp
    exact eq_comm
set_option maxRecDepth 1000000 in
set_option maxHeartbeats 2000000 in
theorem readValue_any (s : ByteArray) (w : World) :
    Calls Tryz.prog 91 #[.string s] w fun e w' => e = .returned (.tuple #[.string (mk (valL s.data.toList).1), .int .i64 ((valL s.data.toList).2 : Int)]) ∧ Below w.heap.size w w' := by
  have F := run_any s
  have hle := runM_le 512 s.data.toList
  have hsz := size_eq s
  unfold valL
  obtain ⟨M, hM⟩ : ∃ M, runM 512 s.data.toList = M := ⟨_, rfl⟩
  rw [hM] at F hle ⊢
  rw [← hsz] at hle ⊢
  have HZ : Hid (s.size = s.data.toList.length) := hsz
  clear hM hsz
  by_cases h1 : M = s.size
  · subst h1
    rw [if_pos rfl]
    have t1 : ((s.size : Int) == (s.size : Int)) = true := by simp
    go_enter Tryz.func91, Tryz.ntmps91
    go_wp2_with fail
    refine (F _).mono ?_
    rintro e w1 ⟨rfl, hb⟩
    go_wp2_with fail
    go_ret2
    exact ⟨rfl, hb⟩
  · rw [if_neg h1]
    have t1 : ((M : Int) == (s.size : Int)) = false := beq_false_of_ne (by omega)
    by_cases h2 : M = 0
    · subst h2
      rw [if_pos (.inl rfl)]
      have t2 : ((0 : Int) == (s.size : Int)) = false := beq_false_of_ne (by omega)
      go_enter Tryz.func91, Tryz.ntmps91
      go_wp2_with fail
      refine (F _).mono ?_
      rintro e w1 ⟨rfl, hb⟩
      go_wp2_with fail
      go_ret2
      exact ⟨rfl, hb⟩
    · have t2 : ((M : Int) == 0) = false := beq_false_of_ne (by omega)
      have t3 : M ≤ s.size := hle.1
      have t4 : (M : Int) ≤ (s.size : Int) := by omega
      have G := prefix_any (s.extract M s.size) ⟨#[1]⟩
      have hp : hasPrefix (s.extract M s.size).data.toList ((⟨#[1]⟩ : ByteArray)).data.toList = decide (s.data.toList.getD M 0 = 1) := by
        rw [ext_tail, mk_list]
        show hasPrefix _ [1] = _
        rw [prefix_one, getD_dropU, Nat.add_zero]
        intro e
        have := congrArg List.length e
        rw [List.length_drop, ← HZ.out, List.length_nil] at this
        omega
      rw [hp] at G
      have HE : Hid (s.extract 0 M = mk (s.data.toList.take M)) := ext_head s M
      have H1 : Hid (¬ M = s.size) := h1
      have H2 : Hid (¬ M = 0) := h2
      clear hp h1 h2
      by_cases h3 : s.data.toList.getD M 0 = 1
      · rw [if_neg (by
          rintro (e | e)
          · exact H2.out e
          · exact e h3)]
        rw [decide_eq_true h3] at G
        clear h3
        go_enter Tryz.func91, Tryz.ntmps91
        go_wp2_with fail
        refine (F _).mono ?_
        rintro e w1 ⟨rfl, hb⟩
        go_wp2_with fail
        refine (G _).mono ?_
        rintro e w2 ⟨rfl, rfl⟩
        go_wp2_with fail
        go_ret2
        exact ⟨by rw [← HE.out]; rfl, hb⟩
      · rw [if_pos (.inr h3)]
        rw [decide_eq_false h3] at G
        clear h3
        go_enter Tryz.func91, Tryz.ntmps91
        go_wp2_with fail
        refine (F _).mono ?_
        rintro e w1 ⟨rfl, hb⟩
        go_wp2_with fail
        refine (G _).mono ?_
        rintro e w2 ⟨rfl, rfl⟩
        go_wp2_with fail
        go_ret2
        exact ⟨rfl, hb⟩

theorem tag_begin {l : List UInt8} {N b : Nat} (h : tagR l 0 0 = (N, b, 0)) : b ≤ l.length ∧ N ≤ 99999 := by
  obtain ⟨m, h1, h2, _, _, _, h3⟩ := tag_read l 0 0 N b (fun _ => rfl) (fun h => by omega) h
  omega
theorem next_bad {l : List UInt8} (h : (tagR l 0 0).2.2 ≠ 0) : nextL l = (none8, 0, (tagR l 0 0).2.2) := by
  unfold nextL
  rw [if_neg h]
theorem next_good {l : List UInt8} {N b : Nat} (h : tagR l 0 0 = (N, b, 0)) : nextL l = if (valL (l.drop b)).2 = 0 then (((N : Int), mk (valL (l.drop b)).1), b + (valL (l.drop b)).1.length + 1, 0) else (none8, 0, (valL (l.drop b)).2) := by
  unfold nextL
  rw [h]
  dsimp only
  rw [if_pos rfl]
  unfold valL
  have hle := runM_le 512 (l.drop b)
  by_cases h1 : runM 512 (l.drop b) = (l.drop b).length
  · rw [if_pos h1, if_pos h1, if_neg (by decide)]
  · rw [if_neg h1, if_neg h1]
    by_cases h2 : runM 512 (l.drop b) = 0 ∨ (l.drop b).getD (runM 512 (l.drop b)) 0 ≠ 1
    · rw [if_pos h2, if_pos h2, if_neg (by decide)]
    · rw [if_neg h2, if_neg h2, if_pos rfl, List.length_take, Nat.min_eq_left hle.1]
theorem val_le (l : List UInt8) : (valL l).1.length ≤ 512 ∧ (valL l).1.length ≤ l.length := by
  unfold valL
  have hle := runM_le 512 l
  split
  · simp
  · split
    · simp
    · rw [List.length_take]; omega
set_option maxRecDepth 1000000 in
set_option maxHeartbeats 2000000 in
theorem next_any (s : ByteArray) (w : World) (hs : s.size ≤ 1000000) :
    Calls Tryz.prog 74 #[.string s] w fun e w' => e = .returned (.tuple #[.agg #[.int .i64 (nextL s.data.toList).1.1, .string (nextL s.data.toList).1.2], .int .i64 ((nextL s.data.toList).2.1 : Int), .int .i64 ((nextL s.data.toList).2.2 : Int)]) ∧ Below w.heap.size w w' := by
  have F := fun w => readTag_any s w (by unfold maxLen; omega)
  by_cases h0 : (tagR s.data.toList 0 0).2.2 = 0
  · obtain ⟨N, b, hR⟩ : ∃ N b, tagR s.data.toList 0 0 = (N, b, 0) := ⟨(tagR s.data.toList 0 0).1, (tagR s.data.toList 0 0).2.1, Prod.ext rfl (Prod.ext rfl h0)⟩
    rw [next_good hR]
    obtain ⟨hb, hN⟩ := tag_begin hR
    rw [hR] at F
    dsimp only at F
    have G := readValue_any (s.extract b s.size)
    have el : (s.extract b s.size).data.toList = s.data.toList.drop b := by rw [ext_tail, mk_list]
    rw [el] at G
    have hv := val_le (s.data.toList.drop b)
    rw [← size_eq] at hb
    rw [List.length_drop, ← size_eq] at hv
    obtain ⟨V, e1, hV⟩ : ∃ V e1, valL (s.data.toList.drop b) = (V, e1) := ⟨_, _, rfl⟩
    rw [hV] at G hv ⊢
    dsimp only at G hv ⊢
    have hC := fun w => clone_any (mk V) w (by rw [mk_size]; omega)
    have hz : (mk V).size = V.length := mk_size V
    have hvI : (V.length : Int) ≤ 512 := by omega
    have hbI : (b : Int) ≤ 1000000 := by omega
    have tb : (b : Int) ≤ (s.size : Int) := by omega
    clear hR h0 hV el
    by_cases h1 : e1 = 0
    · subst h1
      rw [if_pos rfl]
      dsimp only
      go_enter Tryz.func74, Tryz.ntmps74
      go_wp2_with fail
      refine (F _).mono ?_
      rintro e w1 ⟨rfl, rfl⟩
      go_wp2_with fail
      refine (G _).mono ?_
      rintro e w1 ⟨rfl, hb1⟩
      go_wp2_with fail
      refine (hC _).mono ?_
      rintro e w2 ⟨rfl, hb2⟩
      have hk := hb1.trans (hb2.mono hb1.size)
      have q0 : w2.cell? ⟨w.heap.size, 0, none⟩ = some (.int .i64 0) := (hk.cell (p := ⟨w.heap.size, 0, none⟩) (by simp)).trans (by simp)
      have q1 : w2.cell? ⟨w.heap.size, 1, none⟩ = some (.string ⟨#[]⟩) := (hk.cell (p := ⟨w.heap.size, 1, none⟩) (by simp)).trans (by simp)
      have z0 : w2.frozen? ⟨w.heap.size, 0, none⟩ = false := (hk.frozen (p := ⟨w.heap.size, 0, none⟩) (by simp)).trans (by simp)
      have z1 : w2.frozen? ⟨w.heap.size, 1, none⟩ = false := (hk.frozen (p := ⟨w.heap.size, 1, none⟩) (by simp)).trans (by simp)
      go_wp2_with fail
      refine bodyPost_ret (v := .tuple #[.agg #[.int .i64 (N : Int), .string (mk V)], .int .i64 ((b : Int) + (V.length : Int) + 1), .int .i64 0]) (by simp [results, Tryz.results74, go_sem, q0, q1]) rfl ⟨rfl, ?_⟩
      exact ((((Below.refl _ w).alloc (Nat.le_refl _) _).trans (hk.mono (by simp))).setCell (by simp) _).setCell (by simp) _
    · rw [if_neg h1]
      dsimp only
      have t1 : ((e1 : Int) == 0) = false := beq_false_of_ne (by omega)
      have t2 : ¬ e1 = 0 := h1
      clear h1
      go_enter Tryz.func74, Tryz.ntmps74
      go_wp2_with fail
      refine (F _).mono ?_
      rintro e w1 ⟨rfl, rfl⟩
      go_wp2_with fail
      refine (G _).mono ?_
      rintro e w2 ⟨rfl, hk⟩
      have q0 : w2.cell? ⟨w.heap.size, 0, none⟩ = some (.int .i64 0) := (hk.cell (p := ⟨w.heap.size, 0, none⟩) (by simp)).trans (by simp)
      have q1 : w2.cell? ⟨w.heap.size, 1, none⟩ = some (.string ⟨#[]⟩) := (hk.cell (p := ⟨w.heap.size, 1, none⟩) (by simp)).trans (by simp)
      have z0 : w2.frozen? ⟨w.heap.size, 0, none⟩ = false := (hk.frozen (p := ⟨w.heap.size, 0, none⟩) (by simp)).trans (by simp)
      have z1 : w2.frozen? ⟨w.heap.size, 1, none⟩ = false := (hk.frozen (p := ⟨w.heap.size, 1, none⟩) (by simp)).trans (by simp)
      go_wp2_with fail
      refine bodyPost_ret (v := .tuple #[.agg #[.int .i64 0, .string ⟨#[]⟩], .int .i64 0, .int .i64 (e1 : Int)]) (by simp [results, Tryz.results74, go_sem, q0, q1]) rfl ⟨rfl, ?_⟩
      exact ((((Below.refl _ w).alloc (Nat.le_refl _) _).trans (hk.mono (by simp))).setCell (by simp) _).setCell (by simp) _
  · rw [next_bad h0]
    dsimp only
    obtain ⟨N, b, e0, hR⟩ : ∃ N b e0, tagR s.data.toList 0 0 = (N, b, e0) := ⟨_, _, _, rfl⟩
    rw [hR] at F h0 ⊢
    dsimp only at F h0 ⊢
    have t1 : ((e0 : Int) == 0) = false := beq_false_of_ne (by omega)
    have t2 : ¬ e0 = 0 := h0
    clear hR h0
    go_enter Tryz.func74, Tryz.ntmps74
    go_wp2_with fail
    refine (F _).mono ?_
    rintro e w1 ⟨rfl, rfl⟩
    go_wp2_with fail
    refine bodyPost_ret (v := .tuple #[.agg #[.int .i64 0, .string ⟨#[]⟩], .int .i64 0, .int .i64 (e0 : Int)]) (by simp [results, Tryz.results74, go_sem]) rfl ⟨rfl, ?_⟩
    exact ((Below.refl _ w).alloc (Nat.le_refl _) _)
end Go.Proofs.YtdbkoflejimibaaGreatDoor
/-
  Lists of fields in memory: how a slice of them reads, how one of the call's own grows.
-/
namespace Go.Proofs.YtdbkoflejimibaaGreatDoor
open Go.ChangeShapes Go.WideShapes Go.ChangeAt Go.RowKit Go.Lib

/-- The cells of one field. -/
def fd2 (f : Fd) : List Value := [.int .i64 f.1, .string f.2]
/-- The cells of a list of fields. -/
def cells2 : List Fd → List Value
  | [] => []
  | f :: r => fd2 f ++ cells2 r
theorem cells2_length : ∀ L, (cells2 L).length = L.length * 2
  | [] => rfl
  | f :: r => by simp only [cells2, List.length_append, cells2_length r, fd2, List.length_cons, List.length_nil]; omega
theorem cells2_more : ∀ L f, cells2 (L ++ [f]) = cells2 L ++ fd2 f
  | [], f => by simp [cells2]
  | g :: r, f => by simp only [List.cons_append, cells2, cells2_more r f, List.append_assoc]
theorem cells2_at (j : Nat) (hj : j < 2) : ∀ (L : List Fd) (i : Nat) (h : i < L.length), (cells2 L)[i * 2 + j]? = (fd2 L[i])[j]?
  | [], _, h => absurd h (by simp)
  | f :: r, 0, _ => by
    rw [cells2, List.getElem?_append_left (by simp [fd2]; omega)]
    simp
  | f :: r, i + 1, h => by
    rw [cells2, List.getElem?_append_right (by simp [fd2]; omega)]
    have : (i + 1) * 2 + j - (fd2 f).length = i * 2 + j := by simp only [fd2, List.length_cons, List.length_nil]; omega
    rw [this, cells2_at j hj r i (by simpa using h)]
    rfl
theorem fd2_one (f : Fd) : ∀ u ∈ fd2 f, u.oneCell' = true := by
  intro u hu
  simp only [fd2, List.mem_cons, List.not_mem_nil, or_false] at hu
  rcases hu with rfl | rfl <;> rfl
/-- The slice value v reads as the fields L. -/
def Flds (w : World) (v : Value) (L : List Fd) : Prop :=
  ∃ a cap, v = .slice a L.length cap ∧ L.length ≤ cap ∧ cap ≤ maxLen ∧ ∀ i, (h : i < L.length) → ∃ b off, a = some ⟨b, off, none⟩ ∧ w.cell? ⟨b, off + i * 2, none⟩ = some (.int .i64 (L[i]).1) ∧ w.cell? ⟨b, off + i * 2 + 1, none⟩ = some (.string (L[i]).2)
theorem Flds.below {w w' : World} {v : Value} {L : List Fd} {B : Nat} (h : Flds w v L) (hb : Below B w w') (hB : w.heap.size ≤ B) : Flds w' v L := by
  obtain ⟨a, cap, rfl, h1, h2, h3⟩ := h
  refine ⟨a, cap, rfl, h1, h2, fun i hi => ?_⟩
  obtain ⟨b, off, e, c0, c1⟩ := h3 i hi
  have lt : b < w.heap.size := World.block_lt_of_cell? _ _ c0
  exact ⟨b, off, e, by rw [hb.cell (p := ⟨b, off + i * 2, none⟩) (Nat.lt_of_lt_of_le lt hB)]; exact c0, by rw [hb.cell (p := ⟨b, off + i * 2 + 1, none⟩) (Nat.lt_of_lt_of_le lt hB)]; exact c1⟩
theorem flds_of_own {w : World} {base : Nat} {e : TypeId} {v : Value} {L : List Fd} (h : w.ownsRow base e 2 v L.length (cells2 L)) : Flds w v L := by
  have hcs := fun g hg => h.cells (g := g) hg
  rcases h.2 with ⟨rfl, hn⟩ | ⟨g, cap, cur, rfl, _, _, h1, h2, _⟩
  · refine ⟨none, 0, by rw [hn], by omega, by unfold maxLen; omega, fun i hi => absurd hi (by omega)⟩
  · refine ⟨_, cap, rfl, h1, h2, fun i hi => ⟨g, 0, rfl, ?_, ?_⟩⟩
    · have := hcs g rfl (i * 2 + 0) (.int .i64 (L[i]).1) (by rw [cells2_at 0 (by omega) L i hi]; rfl)
      rw [Addr.add_lit] at this
      exact this
    · have := hcs g rfl (i * 2 + 1) (.string (L[i]).2) (by rw [cells2_at 1 (by omega) L i hi]; rfl)
      rw [Addr.add_lit] at this
      exact this
/-- A list of fields that grows in memory newer than w0. -/
structure Grows (w0 : World) (E : TypeId) (w : World) (v : Value) (L : List Fd) : Prop where
  own : w.ownsRow w0.heap.size E 2 v L.length (cells2 L)
  below : Below w0.heap.size w0 w
theorem Grows.none (w0 w : World) (E : TypeId) (h : Below w0.heap.size w0 w) : Grows w0 E w (.slice none 0 0) [] := ⟨World.ownsRow_nil _ _ _ _, h⟩
theorem Grows.still {w0 w w' : World} {E : TypeId} {v : Value} {L : List Fd} (h : Grows w0 E w v L) (k : Below w.heap.size w w') : Grows w0 E w' v L :=
  ⟨own_below h.own k, h.below.trans (k.mono h.below.size)⟩
theorem Grows.more {w0 w w' : World} {E : TypeId} {v v' : Value} {L : List Fd} {f : Fd} (h : Grows w0 E w v L) (hg : w.grownBy w' v.ownBlock) (hown : w'.ownsRow w0.heap.size E 2 v' (L.length + 1) (cells2 L ++ fd2 f)) : Grows w0 E w' v' (L ++ [f]) := by
  have BG := But.of_grown hg
  refine ⟨by rw [cells2_more, List.length_append]; exact hown, h.below.trans (BG.below h.below.size (fun k hk => (h.own.lt k hk).1))⟩
theorem Grows.shape {w0 w : World} {E : TypeId} {v : Value} {L : List Fd} (h : Grows w0 E w v L) : ∃ a cap, v = .slice a L.length cap := own_shape h.own
/-- The cells of one field that was just laid in a block of its own. -/
theorem cell_fd_new (w : World) (f : Fd) (t : TypeId) : ∀ j u, (fd2 f)[j]? = some u → (w.alloc (.cells #[.int .i64 f.1, .string f.2] t)).cell? ((⟨w.heap.size, 0, none⟩ : Addr).add j) = some u := by
  intro j u hj
  rw [Addr.add_lit, Nat.zero_add]
  match j, hj with
  | 0, hj => simp [fd2] at hj; subst hj; simp
  | 1, hj => simp [fd2] at hj; subst hj; simp
  | j + 2, hj => simp [fd2] at hj
/-- The same behind another block. -/
theorem cell_fd_new2 (w : World) (o : Obj) (f : Fd) (t : TypeId) : ∀ j u, (fd2 f)[j]? = some u → ((w.alloc o).alloc (.cells #[.int .i64 f.1, .string f.2] t)).cell? ((⟨w.heap.size + 1, 0, none⟩ : Addr).add j) = some u := by
  have := cell_fd_new (w.alloc o) f t
  rw [World.size_alloc] at this
  exact this

theorem fieldsA_end {l : List UInt8} (h : l = []) (acc : List Fd) (at_ : Nat) : ∀ k, fieldsA k l acc at_ = (acc, at_, 0)
  | 0 => by rw [fieldsA, if_pos h]
  | k + 1 => by rw [fieldsA, if_pos h]
theorem fieldsA_full {l : List UInt8} (h : l ≠ []) (acc : List Fd) (at_ : Nat) : fieldsA 0 l acc at_ = (acc, at_, 3) := by rw [fieldsA, if_neg h]
theorem fieldsA_err {l : List UInt8} (h : l ≠ []) (acc : List Fd) (at_ : Nat) {k : Nat} (hk : 0 < k) (he : (nextL l).2.2 ≠ 0) : fieldsA k l acc at_ = (acc, at_, (nextL l).2.2) := by
  obtain ⟨j, rfl⟩ : ∃ j, k = j + 1 := ⟨k - 1, by omega⟩
  rw [fieldsA, if_neg h, if_neg he]
theorem fieldsA_ok {l : List UInt8} (h : l ≠ []) (acc : List Fd) (at_ : Nat) {k : Nat} (hk : 0 < k) (he : (nextL l).2.2 = 0) : fieldsA k l acc at_ = fieldsA (k - 1) (l.drop (nextL l).2.1) (acc ++ [(nextL l).1]) (at_ + (nextL l).2.1) := by
  obtain ⟨j, rfl⟩ : ∃ j, k = j + 1 := ⟨k - 1, by omega⟩
  rw [fieldsA, if_neg h, if_pos he]
  rfl
theorem drop_ne {l : List UInt8} {k : Nat} (h : k < l.length) : l.drop k ≠ [] := by
  intro e
  have := congrArg List.length e
  rw [List.length_drop, List.length_nil] at this
  omega
end Go.Proofs.YtdbkoflejimibaaGreatDoor
/-
  The contract of tag's Fields: all fields of a text.
-/
namespace Go.Proofs.YtdbkoflejimibaaGreatDoor
open Go.ChangeShapes Go.WideShapes Go.ChangeAt Go.RowKit Go.Lib

theorem infoA : (Tryz.prog.info? 98).map (fun i => (i.zero, i.size, i.bytes)) = some (some (.agg #[.int .i64 0, .string ⟨#[]⟩]), 2, 24) := by kernel_rfl
set_option maxRecDepth 1000000 in
set_option maxHeartbeats 4000000 in
theorem fields_any (s : ByteArray) (w : World) (hs : s.size ≤ 1000000) :
    Calls Tryz.prog 47 #[.string s] w fun e w' => ∃ v, e = .returned (.tuple #[v, .int .i64 ((fieldsL s.data.toList).2.1 : Int), .int .i64 ((fieldsL s.data.toList).2.2 : Int)]) ∧ Grows w 98 w' v (fieldsL s.data.toList).1 := by
  obtain ⟨L, A, E, hR⟩ : ∃ L A E, fieldsL s.data.toList = (L, A, E) := ⟨_, _, _, rfl⟩
  rw [hR]
  dsimp only
  obtain ⟨i0, hi0, hz0, hzs, hzb⟩ := info_parts infoA
  go_enter Tryz.func47, Tryz.ntmps47
  go_wp2_with fail
  go_loopw [2, 3] (fun v i wr => ∃ (k : Nat) (acc : List Fd), i = .int .i64 (k : Int) ∧ k ≤ s.size ∧ acc.length ≤ 64 ∧ fieldsA (64 - acc.length) (s.data.toList.drop k) acc k = (L, A, E) ∧ Grows w 98 wr v acc) (fun _ i _ => s.size - (RowKit.intOf i).toNat)
  case atStart => exact ⟨0, [], rfl, by omega, by simp, by rw [List.drop_zero]; exact hR, Grows.none _ _ _ (Below.refl _ _)⟩
  case round =>
    clear hR
    obtain ⟨k, acc, rfl, hk, ha, hg, Q⟩ := hrel
    obtain ⟨a0, cap0, rfl⟩ := Q.shape
    obtain ⟨n, hn⟩ : ∃ n, acc.length = n := ⟨_, rfl⟩
    have hB := Q.below
    by_cases hp : k < s.size
    · have t0 : (k : Int) < (s.size : Int) := by omega
      have hne := drop_ne (l := s.data.toList) (k := k) (by rw [← size_eq]; exact hp)
      by_cases hf : n = 64
      · rw [hn, hf, fieldsA_full hne] at hg
        simp only [Prod.mk.injEq] at hg
        obtain ⟨rfl, rfl, rfl⟩ := hg
        have HQ : Hid (Grows w 98 wr (.slice a0 acc.length cap0) acc) := Q
        have t1 : ((acc.length : Int) == 64) = true := by simp; omega
        clear hn hf Q hB hne
        go_wp2_with fail
        go_ret3
        exact ⟨_, rfl, HQ.out⟩
      · have t1 : ((acc.length : Int) == 64) = false := beq_false_of_ne (by omega)
        have el : (s.extract k s.size).data.toList = s.data.toList.drop k := by rw [ext_tail, mk_list]
        have F := fun w => next_any (s.extract k s.size) w (by rw [size_eq, el, List.length_drop, ← size_eq]; omega)
        rw [el] at F
        obtain ⟨f, m, e1, hN⟩ : ∃ f m e1, nextL (s.data.toList.drop k) = (f, m, e1) := ⟨_, _, _, rfl⟩
        rw [hN] at F
        dsimp only at F
        by_cases he : e1 = 0
        · subst he
          rw [fieldsA_ok hne _ _ (by omega) (by rw [hN]), hN] at hg
          dsimp only at hg
          have hm := next_form (l := s.data.toList.drop k) (by rw [hN])
          rw [hN] at hm
          dsimp only at hm
          rw [List.length_drop, ← size_eq] at hm
          obtain ⟨_, m1, m2⟩ := hm
          rw [List.drop_drop] at hg
          have HG : Hid (fieldsA (64 - acc.length - 1) (s.data.toList.drop (k + m)) (acc ++ [f]) (k + m) = (L, A, E)) := hg
          have hn64 : acc.length ≤ 63 := by omega
          have HQ : Hid (Grows w 98 wr (.slice a0 acc.length cap0) acc) := Q
          clear hg hN el hn hf Q hB hne
          go_wp2_with fail
          refine (F _).mono ?_
          rintro e w1 ⟨rfl, hb1⟩
          have Q1 := HQ.out.still hb1
          have Q2 := (Q1.still ((Below.refl _ _).alloc (Nat.le_refl _) (.cells #[.int .i64 f.1, .string f.2] 98))).still ((Below.refl _ _).alloc (Nat.le_refl _) (.cells #[.int .i64 f.1, .string f.2] 98))
          have hown := Q2.own
          have hz := Q1.below.size
          have hcn := cell_fd_new2 w1 (.cells #[.int .i64 f.1, .string f.2] 98) f 98
          have H2 : Hid (Grows w 98 ((w1.alloc (.cells #[.int .i64 f.1, .string f.2] 98)).alloc (.cells #[.int .i64 f.1, .string f.2] 98)) (.slice a0 acc.length cap0) acc) := Q2
          clear Q1 Q2 hb1
          go_wp2_with (at_builtin; refine wpList_append_own_at _ rfl _ _ 65 rfl w.heap.size 98 i0 (.agg #[.int .i64 0, .string ⟨#[]⟩]) 2 24 Tryz.underlying65 hi0 hz0 hzs hzb rfl (by decide) _ _ _ rfl hown ⟨w1.heap.size + 1, 0, none⟩ 1 1 (fd2 f) rfl rfl ?hnews (fd2_one _) ?h63 ?hbytes ?hbase ?_)
          case hnews => exact hcn
          case h63 => unfold maxLen; omega
          case hbytes => omega
          case hbase => first | omega | (simp; omega)
          intro v5 w5 hown5 hg5 _ _
          have Q5 := H2.out.more hg5 hown5
          clear hown5 hg5 hown hcn
          go_wp2_with fail
          go_roundw
          case rel => exact ⟨k + m, acc ++ [f], by simp, by omega, by simp; omega, by rw [List.length_append]; exact HG.out, Q5⟩
          case measure => simp [RowKit.intOf]; omega
        · rw [fieldsA_err hne _ _ (by omega) (by rw [hN]; exact he), hN] at hg
          simp only [Prod.mk.injEq] at hg
          obtain ⟨rfl, rfl, rfl⟩ := hg
          have t2 : ((e1 : Int) == 0) = false := beq_false_of_ne (by omega)
          have HQ : Hid (Grows w 98 wr (.slice a0 acc.length cap0) acc) := Q
          clear hN el hn hf Q hB hne
          go_wp2_with fail
          refine (F _).mono ?_
          rintro e w1 ⟨rfl, hb1⟩
          have Q1 := HQ.out.still hb1
          have Q2 := Q1.still ((Below.refl _ _).alloc (Nat.le_refl _) (.cells #[.int .i64 f.1, .string f.2] 98))
          go_wp2_with fail
          go_ret3
          exact ⟨_, rfl, Q2⟩
    · obtain rfl : k = s.size := by omega
      have t0 : ¬ (s.size : Int) < (s.size : Int) := by omega
      have he : s.data.toList.drop s.size = [] := List.drop_eq_nil_of_le (by rw [← size_eq]; omega)
      rw [fieldsA_end he] at hg
      simp only [Prod.mk.injEq] at hg
      obtain ⟨rfl, rfl, rfl⟩ := hg
      have HQ : Hid (Grows w 98 wr (.slice a0 acc.length cap0) acc) := Q
      clear he hn Q hB
      go_wp2_with fail
      go_ret3
      exact ⟨_, rfl, HQ.out⟩
end Go.Proofs.YtdbkoflejimibaaGreatDoor
/-
  Contracts of tag's Form and Forms: the form of a field, and of a list of them.
-/
namespace Go.Proofs.YtdbkoflejimibaaGreatDoor
open Go.ChangeShapes Go.WideShapes Go.ChangeAt Go.RowKit Go.Lib

theorem bcell {B : Nat} {w w' : World} (h : Below B w w') : (∀ k o, k < B → w'.cell? ⟨k, o, none⟩ = w.cell? ⟨k, o, none⟩) ∧ ∀ k o, k < B → w'.frozen? ⟨k, o, none⟩ = w.frozen? ⟨k, o, none⟩ :=
  ⟨fun k o hk => h.cell (p := ⟨k, o, none⟩) hk, fun k o hk => h.frozen (p := ⟨k, o, none⟩) hk⟩
theorem form_glue (n : Nat) (v : ByteArray) : mk (decDigits n) ++ (⟨#[61]⟩ : ByteArray) ++ v ++ (⟨#[1]⟩ : ByteArray) = mk (decDigits n ++ 61 :: (v.data.toList ++ [1])) := by
  apply bytes_ext8
  simp [mk]
/-- The three texts are joined one behind the other. -/
theorem glue_runs (D v X : ByteArray) (h : D ++ (⟨#[61]⟩ : ByteArray) ++ v ++ (⟨#[1]⟩ : ByteArray) = X) (h1 : D.size ≤ 100000) (h2 : v.size ≤ 1000000) : ∃ D1 D2, (∀ w, (Op.stringOp .add D ⟨#[61]⟩).run Tryz.prog w = .ok (.string D1) w) ∧ (∀ w, (Op.stringOp .add D1 v).run Tryz.prog w = .ok (.string D2) w) ∧ (∀ w, (Op.stringOp .add D2 ⟨#[1]⟩).run Tryz.prog w = .ok (.string X) w) := by
  have e1 : (⟨#[61]⟩ : ByteArray).size = 1 := rfl
  have e2 : (⟨#[1]⟩ : ByteArray).size = 1 := rfl
  refine ⟨D ++ (⟨#[61]⟩ : ByteArray), D ++ (⟨#[61]⟩ : ByteArray) ++ v, fun w => ?_, fun w => ?_, fun w => ?_⟩
  · rw [run_string_add_sum]
    omega
  · rw [run_string_add_sum]
    rw [ByteArray.size_append]
    omega
  · rw [run_string_add_sum, h]
    rw [ByteArray.size_append, ByteArray.size_append]
    omega
theorem empty_size (v : ByteArray) : v.toList.isEmpty = decide (v.size = 0) := by
  rw [toList_data, size_eq]
  cases v.data.toList <;> simp
set_option maxRecDepth 1000000 in
set_option maxHeartbeats 4000000 in
theorem form_all (t : Int) (v : ByteArray) (w : World) (P : Pow w) :
    Calls Tryz.prog 39 #[.agg #[.int .i64 t, .string v]] w fun e w' => e = .returned (.tuple #[.string (mk (formE (t, v)).1), .int .i64 ((formE (t, v)).2 : Int)]) ∧ Below w.heap.size w w' := by
  have B0 := (Below.refl _ w).alloc (Nat.le_refl _) (.cells #[.int .i64 t, .string v] 98)
  unfold formE
  dsimp only
  by_cases h1 : t < 1
  · rw [if_pos (.inl h1)]
    go_enter Tryz.func39, Tryz.ntmps39
    go_wp2_with fail
    go_ret2
    exact ⟨rfl, B0⟩
  by_cases h2 : 99999 < t
  · rw [if_pos (.inr h2)]
    go_enter Tryz.func39, Tryz.ntmps39
    go_wp2_with fail
    go_ret2
    exact ⟨rfl, B0⟩
  rw [if_neg (by omega)]
  by_cases h3 : v.size = 0
  · have t3 : v.toList.isEmpty = true := by rw [empty_size, decide_eq_true h3]
    have hvb : valB v.data.toList = false := by
      unfold valB
      rw [decide_eq_false]
      rw [← size_eq]
      omega
    rw [if_pos hvb]
    clear hvb h3
    go_enter Tryz.func39, Tryz.ntmps39
    go_wp2_with fail
    go_quiet (fail)
    go_wp2_with fail
    go_ret2
    exact ⟨rfl, below_more B0 _⟩
  have t3 : v.toList.isEmpty = false := by rw [empty_size, decide_eq_false h3]
  have F := run_any v
  have hle := runM_le 512 v.data.toList
  have hvb : valB v.data.toList = decide (runM 512 v.data.toList = v.size) := by
    unfold valB
    rw [← size_eq]
    congr 1
    apply propext
    omega
  rw [hvb]
  rw [← size_eq] at hle
  obtain ⟨M, hM⟩ : ∃ M, runM 512 v.data.toList = M := ⟨_, rfl⟩
  rw [hM] at F hle ⊢
  clear hM hvb h3
  by_cases h4 : M = v.size
  · rw [decide_eq_true h4, if_neg (by simp)]
    have t4 : ¬ M < v.size := by omega
    obtain ⟨n, rfl⟩ : ∃ n : Nat, t = (n : Int) := ⟨t.toNat, by omega⟩
    rw [Int.toNat_natCast]
    have hn : n ≤ 99999 := by omega
    have I := fun w => itoa_any n hn (w := w)
    have HE : Hid (mk (decDigits n) ++ (⟨#[61]⟩ : ByteArray) ++ v ++ (⟨#[1]⟩ : ByteArray) = mk (decDigits n ++ 61 :: (v.data.toList ++ [1]))) := form_glue n v
    have z1 : (mk (decDigits n)).size ≤ 100000 := by rw [mk_size]; have := digits_len n; omega
    generalize mk (decDigits n ++ 61 :: (v.data.toList ++ [1])) = X at *
    generalize mk (decDigits n) = D at *
    obtain ⟨D1, D2, s1, s2, s3⟩ := glue_runs D v X HE.out z1 (by omega)
    clear h4
    go_enter Tryz.func39, Tryz.ntmps39
    go_wp2_with fail
    go_region_held3 (fun w' => w'.cell? ⟨w.heap.size, 1, none⟩ = some (.string v)) (go_keep) (first
     | (go_at_call 71; refine (F _).mono ?_; rintro e w1 ⟨rfl, hb1⟩; obtain ⟨hc, hf⟩ := bcell hb1; have q0 := hc w.heap.size 1 (by simp); have q1 := hc w.heap.size 0 (by simp); simp at q0 q1))
    have B1 := B0.drew.trans (hb1.mono (by simp))
    have I1 := I w1.drew (P.still B1.drew)
    have z0 : w.heap.size < w1.heap.size := by have := hb1.size; simp at this; omega
    clear I hc hf
    go_wp2_with fail
    go_region_held3 (fun w' => w'.cell? ⟨w.heap.size, 1, none⟩ = some (.string v) ∧ w'.cell? ⟨w.heap.size, 0, none⟩ = some (.int .i64 (n : Int))) (go_keep) (first
     | (go_at_call 45; refine I1.mono ?_; rintro e w2 ⟨rfl, hb2⟩; obtain ⟨hc, hf⟩ := bcell hb2; have u0 := hc w.heap.size 1 z0; have u1 := hc w.heap.size 0 z0; simp [q0, q1] at u0 u1))
    go_wp2_with fail
    go_ret2
    exact ⟨rfl, B1.drew.trans (hb2.mono (Nat.le_of_lt z0))⟩
  · rw [decide_eq_false h4, if_pos rfl]
    have t4 : (M : Int) < (v.size : Int) := by omega
    clear h4
    go_enter Tryz.func39, Tryz.ntmps39
    go_wp2_with fail
    go_region_held3 (fun w' => w'.cell? ⟨w.heap.size, 1, none⟩ = some (.string v)) (go_keep) (first
     | (go_at_call 71; refine (F _).mono ?_; rintro e w1 ⟨rfl, hb1⟩; obtain ⟨hc, hf⟩ := bcell hb1; have q0 := hc w.heap.size 1 (by simp); simp at q0))
    go_wp2_with fail
    go_ret2
    exact ⟨rfl, B0.drew.trans (hb1.mono (by simp))⟩

theorem form_any (t : Int) (v : ByteArray) (w : World) (_ : v.size ≤ 1000000) (P : Pow w) :
    Calls Tryz.prog 39 #[.agg #[.int .i64 t, .string v]] w fun e w' => e = .returned (.tuple #[.string (mk (formE (t, v)).1), .int .i64 ((formE (t, v)).2 : Int)]) ∧ Below w.heap.size w w' := form_all t v w P
theorem formE_len (f : Fd) : (formE f).1.length ≤ 1200000 := by
  unfold formE
  split
  · simp
  · split
    · simp
    · rename_i _ hv
      have h := (valB_true.1 (by simpa using hv)).2.1
      have := digits_len f.1.toNat
      simp only [List.length_append, List.length_cons, List.length_nil]
      omega
theorem drop_fd {L : List Fd} {k : Nat} (h : k < L.length) : L.drop k = L[k] :: L.drop (k + 1) := List.drop_eq_getElem_cons h
set_option maxRecDepth 1000000 in
set_option maxHeartbeats 4000000 in
theorem forms_all (va : Value) (L : List Fd) (w : World) (hF : Flds w va L) (hn : L.length ≤ 1000) (P : Pow w) :
    Calls Tryz.prog 27 #[va] w fun e w' => e = .returned (.tuple #[.string (mk (formsE L).1), .int .i64 ((formsE L).2 : Int)]) ∧ Below w.heap.size w w' := by
  obtain ⟨a, cap, rfl, h1, h2, h3⟩ := id hF
  unfold formsE
  by_cases hbig : 64 < L.length
  · rw [if_pos hbig]
    have t1 : (64 : Int) < (L.length : Int) := by omega
    clear h3
    go_enter Tryz.func27, Tryz.ntmps27
    go_wp2_with fail
    go_ret2
    exact ⟨rfl, Below.refl _ _⟩
  rw [if_neg hbig]
  have t1 : ¬ (64 : Int) < (L.length : Int) := by omega
  obtain ⟨R, e0, hR⟩ : ∃ R e0, formsA L [] = (R, e0) := ⟨_, _, rfl⟩
  rw [hR]
  dsimp only
  have B1 := (Below.refl _ w).alloc (Nat.le_refl _) (.cells #[.pointer none, .slice none 0 0] 97)
  have G1 := Bld.fresh w
  go_enter Tryz.func27, Tryz.ntmps27
  go_wp2_with fail
  go_loopw [14] (fun i wr => ∃ (k : Nat) (acc : List UInt8), i = .int .i64 (k : Int) ∧ k ≤ L.length ∧ acc.length ≤ k * 1200000 ∧ formsA (L.drop k) acc = (R, e0) ∧ Bld w.heap.size w.heap.size acc wr ∧ Below w.heap.size w wr) (fun i _ => L.length - (RowKit.intOf i).toNat)
  case atStart => exact ⟨0, [], rfl, by omega, by simp, by rw [List.drop_zero]; exact hR, G1, B1⟩
  case round =>
    clear hR B1 G1
    obtain ⟨k, acc, rfl, hk, hacc, hg, Q, hB⟩ := hrel
    have hz := hB.size
    have PW := P.still hB
    by_cases hlt : k < L.length
    · have t0 : (k : Int) < (L.length : Int) := by omega
      obtain ⟨b, off, rfl, c0, c1⟩ := h3 k hlt
      have d0 := (hB.cell (World.block_lt_of_cell? _ _ c0)).trans c0
      have d1 := (hB.cell (World.block_lt_of_cell? _ _ c1)).trans c1
      rw [drop_fd hlt, formsA] at hg
      obtain ⟨f, hf⟩ : ∃ f, L[k] = f := ⟨_, rfl⟩
      rw [hf] at d0 d1 hg
      have hl := formE_len f
      have Q1 := Q.still ((Below.refl _ wr).alloc (Nat.le_refl _) (.cells #[.int .i64 f.1, .string f.2] 98))
      have P1 := PW.still ((Below.refl _ wr).alloc (Nat.le_refl _) (.cells #[.int .i64 f.1, .string f.2] 98))
      have F := form_all f.1 f.2 (wr.alloc (.cells #[.int .i64 f.1, .string f.2] 98)) P1
      have hB2 := hB.alloc hz (.cells #[.int .i64 f.1, .string f.2] 98)
      have ef : (f.1, f.2) = f := rfl
      rw [ef] at F
      obtain ⟨x, e1, hX⟩ : ∃ x e1, formE f = (x, e1) := ⟨_, _, rfl⟩
      rw [hX] at F hg hl
      dsimp only at F hg hl
      clear c0 c1 h3 hF hX hf ef
      by_cases he : e1 = 0
      · subst he
        rw [if_pos rfl] at hg
        have HG : Hid (formsA (L.drop (k + 1)) (acc ++ x) = (R, e0)) := hg
        clear hg Q PW
        go_wp2_with fail
        refine F.mono ?_
        rintro e w2 ⟨rfl, hb2⟩
        have Q2 := Q1.still hb2
        have hB3 := hB2.trans (hb2.mono (by simp; omega))
        have z3 := hB3.size
        have G := write_any Q2 (mk x) (by rw [mk_size]; omega) z3
        rw [mk_list] at G
        clear Q1 Q2 P1 F
        go_wp2_with fail
        refine G.mono ?_
        rintro e w3 ⟨rfl, Q3, hb3⟩
        have hB4 := hB3.trans hb3
        go_wp2_with fail
        go_roundw
        case rel => exact ⟨k + 1, acc ++ x, by simp, by omega, by rw [List.length_append]; omega, HG.out, Q3, hB4⟩
        case measure => simp [RowKit.intOf]; omega
      · rw [if_neg he] at hg
        simp only [Prod.mk.injEq] at hg
        obtain ⟨rfl, rfl⟩ := hg
        have t2 : ((e1 : Int) == 0) = false := beq_false_of_ne (by omega)
        clear Q PW Q1 P1
        go_wp2_with fail
        refine F.mono ?_
        rintro e w2 ⟨rfl, hb2⟩
        have hB3 := hB2.trans (hb2.mono (by simp; omega))
        go_wp2_with fail
        go_ret2
        exact ⟨rfl, hB3⟩
    · obtain rfl : k = L.length := by omega
      have t0 : ¬ (L.length : Int) < (L.length : Int) := by omega
      rw [List.drop_length, formsA] at hg
      simp only [Prod.mk.injEq] at hg
      obtain ⟨rfl, rfl⟩ := hg
      have G := string_any Q hz
      clear h3 hF
      go_wp2_with fail
      refine G.mono ?_
      rintro e w2 ⟨rfl, hb2⟩
      go_wp2_with fail
      go_ret2
      exact ⟨rfl, hB.trans hb2⟩
theorem forms_any (va : Value) (L : List Fd) (w : World) (hF : Flds w va L) (_ : ∀ i, (h : i < L.length) → (L[i]).2.size ≤ 1000000) (hn : L.length ≤ 1000) (P : Pow w) :
    Calls Tryz.prog 27 #[va] w fun e w' => e = .returned (.tuple #[.string (mk (formsE L).1), .int .i64 ((formsE L).2 : Int)]) ∧ Below w.heap.size w w' := forms_all va L w hF hn P
end Go.Proofs.YtdbkoflejimibaaGreatDoor
/-
  What is read is formed again as the same bytes; what is formed is read as it was; cut off between two runes all that is whole is read, and the rest is open: plain mathematics, of no program.
-/
namespace Go.Proofs.YtdbkoflejimibaaGreatDoor
open Go.Lib

/-- The forms of fields, one behind the other. -/
def cat : List Fd → List UInt8
  | [] => []
  | f :: r => (formE f).1 ++ cat r
def AllOk (L : List Fd) : Prop := ∀ f ∈ L, (formE f).2 = 0
theorem AllOk.cons {f : Fd} {r : List Fd} : AllOk (f :: r) ↔ (formE f).2 = 0 ∧ AllOk r := by
  unfold AllOk
  simp
theorem formsA_all : ∀ (L : List Fd) (acc : List UInt8), AllOk L → formsA L acc = (acc ++ cat L, 0)
  | [], acc, _ => by simp [formsA, cat]
  | f :: r, acc, h => by
    obtain ⟨h1, h2⟩ := AllOk.cons.1 h
    rw [formsA, if_pos h1, formsA_all r _ h2, cat, List.append_assoc]
theorem formsA_inv : ∀ (L : List Fd) (acc x : List UInt8), formsA L acc = (x, 0) → AllOk L
  | [], _, _, _ => fun f hf => absurd hf (by simp)
  | f :: r, acc, x, h => by
    rw [formsA] at h
    by_cases h1 : (formE f).2 = 0
    · rw [if_pos h1] at h
      exact AllOk.cons.2 ⟨h1, formsA_inv r _ _ h⟩
    · rw [if_neg h1] at h
      simp only [Prod.mk.injEq] at h
      exact absurd h.2 h1
/-- What was formed. -/
theorem forms_inv {L : List Fd} {x : List UInt8} (h : formsE L = (x, 0)) : L.length ≤ 64 ∧ AllOk L ∧ x = cat L := by
  unfold formsE at h
  by_cases h1 : 64 < L.length
  · rw [if_pos h1] at h
    simp at h
  · rw [if_neg h1] at h
    have h2 := formsA_inv L [] x h
    rw [formsA_all L [] h2] at h
    simp only [List.nil_append, Prod.mk.injEq, and_true] at h
    exact ⟨by omega, h2, h.symm⟩
theorem formsA_err : ∀ (L : List Fd) (acc : List UInt8), (formsA L acc).2 ≠ 0 → (formsA L acc).1 = []
  | [], acc, h => by simp [formsA] at h
  | f :: r, acc, h => by
    rw [formsA] at h ⊢
    by_cases h1 : (formE f).2 = 0
    · rw [if_pos h1] at h ⊢
      exact formsA_err r _ h
    · rw [if_neg h1]
theorem forms_err {L : List Fd} (h : (formsE L).2 ≠ 0) : (formsE L).1 = [] := by
  unfold formsE at h ⊢
  by_cases h1 : 64 < L.length
  · rw [if_pos h1]
  · rw [if_neg h1] at h ⊢
    exact formsA_err L [] h
/-- What is read is formed again as the same bytes. -/
theorem fieldsA_one : ∀ (k : Nat) (l : List UInt8) (acc : List Fd) (at_ : Nat), ∃ new n, (fieldsA k l acc at_).1 = acc ++ new ∧ (fieldsA k l acc at_).2.1 = at_ + n ∧ n ≤ l.length ∧ new.length ≤ k ∧ AllOk new ∧ cat new = l.take n
  | 0, l, acc, at_ => by
    refine ⟨[], 0, ?_, ?_, by omega, by simp, fun f hf => absurd hf (by simp), by simp [cat]⟩
    · rw [fieldsA]; split <;> simp
    · rw [fieldsA]; split <;> simp
  | k + 1, l, acc, at_ => by
    by_cases h0 : l = []
    · rw [fieldsA, if_pos h0]
      exact ⟨[], 0, by simp, by simp, by omega, by simp, fun f hf => absurd hf (by simp), by simp [cat]⟩
    by_cases h1 : (nextL l).2.2 = 0
    · rw [fieldsA, if_neg h0, if_pos h1]
      obtain ⟨f1, f2, f3⟩ := next_form h1
      obtain ⟨new, n, g1, g2, g3, g4, g5, g6⟩ := fieldsA_one k (l.drop (nextL l).2.1) (acc ++ [(nextL l).1]) (at_ + (nextL l).2.1)
      rw [List.length_drop] at g3
      refine ⟨(nextL l).1 :: new, (nextL l).2.1 + n, ?_, ?_, by omega, by simp; omega, AllOk.cons.2 ⟨by rw [f1], g5⟩, ?_⟩
      · rw [g1, List.append_assoc]; rfl
      · rw [g2]; omega
      · rw [cat, f1, g6, List.take_add]
    · rw [fieldsA, if_neg h0, if_neg h1]
      exact ⟨[], 0, by simp, by simp, by omega, by simp, fun f hf => absurd hf (by simp), by simp [cat]⟩
theorem fields_one (l : List UInt8) : formsE (fieldsL l).1 = (l.take (fieldsL l).2.1, 0) ∧ (fieldsL l).2.1 ≤ l.length ∧ AllOk (fieldsL l).1 := by
  obtain ⟨new, n, g1, g2, g3, g4, g5, g6⟩ := fieldsA_one 64 l [] 0
  rw [List.nil_append] at g1
  rw [Nat.zero_add] at g2
  unfold fieldsL
  rw [g1, g2]
  refine ⟨?_, g3, g5⟩
  unfold formsE
  rw [if_neg (by omega), formsA_all new [] g5, List.nil_append, g6]
theorem ok_form {f : Fd} (h : (formE f).2 = 0) : formE f = ((formE f).1, 0) := Prod.ext rfl h
theorem ok_size {L : List Fd} (h : AllOk L) (i : Nat) (hi : i < L.length) : (L[i]).2.size ≤ 512 := by
  have := (formE_ok (ok_form (h L[i] (List.getElem_mem hi)))).2.2.1.2.1
  rw [size_eq]
  exact this
/-- What is formed is read as it was. -/
theorem fieldsA_back : ∀ (L : List Fd) (k : Nat) (acc : List Fd) (at_ : Nat), AllOk L → L.length ≤ k → fieldsA k (cat L) acc at_ = (acc ++ L, at_ + (cat L).length, 0)
  | [], k, acc, at_, _, _ => by
    rw [fieldsA_end (show cat [] = [] from rfl)]
    simp [cat]
  | f :: r, k, acc, at_, h, hk => by
    obtain ⟨h1, h2⟩ := AllOk.cons.1 h
    obtain ⟨n1, n2⟩ := form_next (cat r) (ok_form h1)
    rw [List.length_cons] at hk
    have hne : cat (f :: r) ≠ [] := by rw [cat]; simp [n2]
    rw [fieldsA_ok hne acc at_ (by omega) (by rw [cat, n1]), cat, n1]
    dsimp only
    rw [List.drop_left' rfl, fieldsA_back r (k - 1) _ _ h2 (by omega), List.append_assoc, List.length_append]
    simp only [List.cons_append, List.nil_append, Prod.mk.injEq, true_and, and_true]
    omega

/-- No rune of a text is the one for a byte that is out of place. -/
def Clean (l : List UInt8) : Prop := ∀ c ∈ runesL l, c ≠ 65533
theorem Clean.nil : Clean [] := fun c h => by rw [runesL_nil] at h; cases h
theorem Clean.step {l : List UInt8} (h : l ≠ []) : Clean l ↔ (decodeL l).1 ≠ 65533 ∧ Clean (l.drop (decodeL l).2) := by
  unfold Clean
  rw [runesL_step h]
  simp
theorem clean_append (x y : List UInt8) (h : Clean x) : Clean (x ++ y) ↔ Clean y := by
  refine byRunes (C := fun x => Clean x → (Clean (x ++ y) ↔ Clean y)) (fun _ => by simp) (fun x hne ih hx => ?_) x h
  obtain ⟨h1, h2⟩ := (Clean.step hne).1 hx
  have he := decode_ext x y hne h1
  have hle := decodeL_le x hne
  rw [Clean.step (by simp [hne]), he, List.drop_append_of_le_length hle, ih h2]
  exact ⟨fun k => k.2, fun k => ⟨h1, k⟩⟩
theorem clean_ascii : ∀ l : List UInt8, (∀ c ∈ l, c.toNat < 128) → Clean l
  | [], _ => Clean.nil
  | c :: l, h => by
    have hc := h c (by simp)
    rw [Clean.step (by simp), decode_one c l hc]
    exact ⟨by omega, clean_ascii l (fun d hd => h d (by simp [hd]))⟩
theorem clean_may {l : List UInt8} (h : AllMay l) : Clean l := fun c hc => may_right (h c hc)
/-- A clean beginning of a text whose runes may stand in a value is such a text. -/
theorem may_begin (p q : List UInt8) (h : AllMay (p ++ q)) (hc : Clean p) : AllMay p := by
  refine byRunes (C := fun p => AllMay (p ++ q) → Clean p → AllMay p) (fun _ _ => AllMay.nil) (fun p hne ih ha hc => ?_) p h hc
  obtain ⟨h1, h2⟩ := (Clean.step hne).1 hc
  have he := decode_ext p q hne h1
  have hle := decodeL_le p hne
  obtain ⟨a1, a2⟩ := (AllMay.step (by simp [hne])).1 ha
  rw [he] at a1 a2
  rw [List.drop_append_of_le_length hle] at a2
  exact (AllMay.step hne).2 ⟨a1, ih a2 h2⟩
theorem digits_ascii : ∀ n, ∀ c ∈ decDigits n, c.toNat < 128 := by
  intro n
  induction n using Nat.strongRecOn with
  | ind n ih =>
    intro c hc
    by_cases h : n < 10
    · rw [decDigits_one h, List.mem_singleton] at hc
      rw [hc, byte_ofNat (by omega)]
      omega
    · rw [decDigits, dif_neg h, List.mem_append, List.mem_singleton] at hc
      rcases hc with hc | hc
      · exact ih (n / 10) (by omega) c hc
      · rw [hc, byte_ofNat (by omega)]
        omega
theorem head_clean (n : Nat) : Clean (decDigits n ++ [61]) := clean_ascii _ (fun c hc => by
  rw [List.mem_append, List.mem_singleton] at hc
  rcases hc with hc | rfl
  · exact digits_ascii n c hc
  · decide)
theorem form_split (D V : List UInt8) : D ++ 61 :: (V ++ [1]) = (D ++ [61]) ++ (V ++ [1]) := by simp
theorem form_clean {f : Fd} {x : List UInt8} (h : formE f = (x, 0)) : Clean x := by
  obtain ⟨_, _, hv, rfl⟩ := formE_ok h
  rw [form_split, clean_append _ _ (head_clean _), clean_append _ _ (clean_may hv.2.2)]
  exact clean_ascii _ (fun c hc => by rw [List.mem_singleton] at hc; subst hc; decide)
theorem cat_clean : ∀ L : List Fd, AllOk L → Clean (cat L)
  | [], _ => Clean.nil
  | f :: r, h => by
    obtain ⟨h1, h2⟩ := AllOk.cons.1 h
    rw [cat, clean_append _ _ (form_clean (ok_form h1))]
    exact cat_clean r h2
/-- Digits that are cut off. -/
theorem tag_cut : ∀ (p q : List UInt8) (k num N b : Nat), tagR (p ++ q) k num = (N, b, 0) → k + p.length < b → tagR p k num = (0, 0, 82)
  | [], _, _, _, _, _, _, _ => rfl
  | c :: p, q, k, num, N, b, h, hb => by
    rw [List.cons_append, tagR] at h
    rw [tagR]
    rw [List.length_cons] at hb
    by_cases g1 : 0 < k ∧ c.toNat = 61
    · rw [if_pos g1] at h
      simp only [Prod.mk.injEq] at h
      omega
    · rw [if_neg g1] at h ⊢
      by_cases g2 : c.toNat < 48 ∨ 57 < c.toNat ∨ (k = 0 ∧ c.toNat = 48)
      · rw [if_pos g2] at h
        simp at h
      · rw [if_neg g2] at h ⊢
        by_cases g3 : 99999 < 10 * num + (c.toNat - 48)
        · rw [if_pos g3] at h
          simp at h
        · rw [if_neg g3] at h ⊢
          exact tag_cut p q _ _ N b h (by omega)
/-- A form that is cut off is open. -/
theorem next_cut {f : Fd} {x y z : List UInt8} (h : formE f = (x, 0)) (hx : x = y ++ z) (hz : z ≠ []) (hc : Clean y) : nextL y = (none8, 0, 82) := by
  obtain ⟨h1, h2, hv, hxe⟩ := formE_ok h
  obtain ⟨t, v⟩ := f
  dsimp only at *
  obtain ⟨n, rfl⟩ : ∃ n : Nat, t = (n : Int) := ⟨t.toNat, by omega⟩
  rw [Int.toNat_natCast] at hxe
  generalize v.data.toList = V at *
  have hp := digits_pos n
  have et : tagR x 0 0 = (n, (decDigits n).length + 1, 0) := by
    rw [hxe, tag_digits n _ (by omega) (by omega)]
    rw [tagR, if_pos ⟨by omega, rfl⟩]
  by_cases hy : y.length < (decDigits n).length + 1
  · rw [hx] at et
    have := tag_cut y z 0 0 _ _ et (by omega)
    rw [next_bad (by rw [this]; decide), this]
  · have hxs : x = (decDigits n ++ [61]) ++ (V ++ [1]) := by rw [hxe]; exact form_split _ _
    have hz0 := List.length_pos_iff.2 hz
    have hlx : x.length = (decDigits n).length + 1 + (V.length + 1) := by rw [hxs]; simp; omega
    have hly : x.length = y.length + z.length := by rw [hx]; simp
    obtain ⟨j, hj⟩ : ∃ j, y.length = (decDigits n).length + 1 + j := ⟨y.length - ((decDigits n).length + 1), by omega⟩
    have ey : y = (decDigits n ++ [61]) ++ V.take j := by
      have e1 : y = x.take y.length := by rw [hx, List.take_left' rfl]
      rw [e1, hj, hxs, List.take_append]
      have e2 : (decDigits n ++ [61]).length = (decDigits n).length + 1 := by simp
      rw [List.take_of_length_le (by rw [e2]; omega), e2, Nat.add_sub_cancel_left, List.take_append_of_le_length (by omega)]
    have hcv : Clean (V.take j) := by
      rw [ey] at hc
      exact (clean_append _ _ (head_clean n)).1 hc
    have ham : AllMay (V.take j) := may_begin (V.take j) (V.drop j) (by rw [List.take_append_drop]; exact hv.2.2) hcv
    have ett : tagR y 0 0 = (n, (decDigits n).length + 1, 0) := by
      rw [ey, List.append_assoc, tag_digits n _ (by omega) (by omega)]
      rw [List.cons_append, tagR, if_pos ⟨by omega, rfl⟩]
    have ed : y.drop ((decDigits n).length + 1) = V.take j := by
      rw [ey, List.drop_left']
      simp
    have hlen : (V.take j).length ≤ 512 := by rw [List.length_take]; have := hv.2.1; omega
    have hval : valL (V.take j) = ([], 82) := by
      unfold valL
      rw [if_pos ((val_run hlen).2 ham)]
    rw [next_good ett, ed, hval]
    rfl
/-- Cut off between two runes all that is whole is read, and the rest is open. -/
theorem fieldsA_cut : ∀ (L : List Fd) (b c : List UInt8) (k : Nat) (acc : List Fd) (at_ : Nat), AllOk L → L.length ≤ k → cat L = b ++ c → Clean b →
    ∃ m n g, fieldsA k b acc at_ = (acc ++ L.take m, at_ + n, g) ∧ m ≤ L.length ∧ (g = 0 ∧ n = b.length ∨ g = 82 ∧ n < b.length)
  | [], b, c, k, acc, at_, _, _, hb, _ => by
    have : b = [] := (List.append_eq_nil_iff.1 hb.symm).1
    subst this
    exact ⟨0, 0, 0, by rw [fieldsA_end rfl]; simp, by simp, .inl ⟨rfl, rfl⟩⟩
  | f :: r, b, c, k, acc, at_, h, hk, hb, hc => by
    obtain ⟨h1, h2⟩ := AllOk.cons.1 h
    rw [List.length_cons] at hk
    have hf := ok_form h1
    rw [cat] at hb
    by_cases h0 : b = []
    · exact ⟨0, 0, 0, by rw [fieldsA_end h0]; simp, by simp, .inl ⟨rfl, by rw [h0]; rfl⟩⟩
    by_cases hlen : b.length < (formE f).1.length
    · have hz : (formE f).1 = b ++ (formE f).1.drop b.length := by
        have e : (formE f).1.take b.length = b := by
          have := congrArg (List.take b.length) hb
          rw [List.take_append_of_le_length (by omega), List.take_left' rfl] at this
          exact this
        have e2 := List.take_append_drop b.length (formE f).1
        rw [e] at e2
        exact e2.symm
      have hn := next_cut hf hz (drop_ne hlen) hc
      refine ⟨0, 0, 82, ?_, by simp, .inr ⟨rfl, List.length_pos_iff.2 h0⟩⟩
      rw [fieldsA_err h0 acc at_ (by omega) (by rw [hn]; decide), hn]
      simp
    · have hz : b = (formE f).1 ++ b.drop (formE f).1.length := by
        have e : b.take (formE f).1.length = (formE f).1 := by
          have := congrArg (List.take (formE f).1.length) hb
          rw [List.take_left' rfl, List.take_append_of_le_length (by omega)] at this
          exact this.symm
        have e2 := List.take_append_drop (formE f).1.length b
        rw [e] at e2
        exact e2.symm
      obtain ⟨n1, n2⟩ := form_next (b.drop (formE f).1.length) hf
      rw [← hz] at n1
      have hc2 : Clean (b.drop (formE f).1.length) := by
        rw [hz] at hc
        exact (clean_append _ _ (form_clean hf)).1 hc
      have hb2 : cat r = b.drop (formE f).1.length ++ c := by
        have := congrArg (List.drop (formE f).1.length) hb
        rw [List.drop_left' rfl, List.drop_append_of_le_length (by omega)] at this
        exact this
      obtain ⟨m, n, g, e1, e2, e3⟩ := fieldsA_cut r (b.drop (formE f).1.length) c (k - 1) (acc ++ [f]) (at_ + (formE f).1.length) h2 (by omega) hb2 hc2
      rw [List.length_drop] at e3
      refine ⟨m + 1, (formE f).1.length + n, g, ?_, by simp; omega, ?_⟩
      · rw [fieldsA_ok h0 acc at_ (by omega) (by rw [n1]), n1]
        dsimp only
        rw [e1]
        simp
        omega
      · rcases e3 with ⟨rfl, e3⟩ | ⟨rfl, e3⟩
        · exact .inl ⟨rfl, by omega⟩
        · exact .inr ⟨rfl, by omega⟩
end Go.Proofs.YtdbkoflejimibaaGreatDoor
/-
  The reference's Digits: a number's decimal digits.
-/
namespace Go.Proofs.YtdbkoflejimibaaGreatDoor
open Go.ChangeShapes Go.WideShapes Go.ChangeAt Go.RowKit Go.Lib

theorem below_of_drew {w w1 : World} (h : Below w.drew.heap.size w.drew w1) : Below w.heap.size w w1 := ⟨h.os, h.tape, h.output, h.size, h.block⟩
theorem later8 {w w1 : World} {x : Value} {t : TypeId} (hb : Below (w.alloc (.cells #[x] t)).drew.heap.size (w.alloc (.cells #[x] t)).drew w1) : w1.cell? ⟨w.heap.size, 0, none⟩ = some x :=
  (hb.cell (p := ⟨w.heap.size, 0, none⟩) (by show w.heap.size < (w.alloc _).heap.size; simp)).trans (by show (w.alloc _).cell? _ = _; simp)
/-- One byte in memory, as a text. -/
theorem one_byte (d : Nat) (hd : d < 10) (W : World) (g : Nat) (h : W.cell? ⟨g, 0, none⟩ = some (.int .u8 (48 + (d : Int)))) :
    (convert 95 9 (.slice (some ⟨g, 0, none⟩) 1 1)).run Tryz.prog W = .ok (.string (mk [UInt8.ofNat (48 + d)])) W := by
  have := run_convert_bytes_back (P := Tryz.prog) W 95 9 5 ⟨g, 0, none⟩ 1 [UInt8.ofNat (48 + d)] Tryz.underlying95 Tryz.underlying5 Tryz.underlying9 (fun j hj => by
    have : j = 0 := by simp at hj; omega
    subst this
    rw [Addr.add_lit]
    simp only [List.getElem_cons_zero]
    rw [byte_ofNat (by omega), h]
    congr 2)
  exact this
theorem digits_short : ∀ (k n : Nat), n < 10 ^ (k + 1) → (decDigits n).length ≤ k + 1
  | 0, n, h => by rw [decDigits_one (by simpa using h)]; simp
  | k + 1, n, h => by
    by_cases h1 : n < 10
    · rw [decDigits_one h1]; simp
    · rw [decDigits, dif_neg h1, List.length_append]
      have := digits_short k (n / 10) (by rw [Nat.pow_succ] at h; omega)
      simp only [List.length_cons, List.length_nil]
      omega
end Go.Proofs.YtdbkoflejimibaaGreatDoor
/-
  Contracts of roster's barred and Valid, and of the reference's Valid: whether a text is a name hangs on its runes alone.
-/
namespace Go.Proofs.YtdbkoflejimibaaGreatDoor
open Go.ChangeShapes Go.WideShapes Go.ChangeAt Go.RowKit

/-- The runes of a text from byte i on, at most b of them. -/
def runesOf (s : ByteArray) : (b i : Nat) → List Nat
  | 0, _ => []
  | b + 1, i => if i < s.size then (Utf8.decode s i).1 :: runesOf s b (i + (Utf8.decode s i).2) else []
def runes (s : ByteArray) : List Nat := runesOf s s.size 0
def barB (c : Nat) : Bool := decide (c < 33 ∨ c = 127 ∨ c = 61 ∨ c = 65533)
/-- k runes that may be lie ahead of l: together they are a name. -/
def goodB (k : Nat) (l : List Nat) : Bool := decide (1 ≤ k + l.length ∧ k + l.length ≤ 20) && l.all (fun c => !barB c)
/-- A text is a name. -/
def vldB (s : ByteArray) : Bool := goodB 0 (runes s)
theorem runesOf_at (s : ByteArray) (b i : Nat) (h : i < s.size) (hb : s.size ≤ i + b) : ∃ b', b = b' + 1 ∧ runesOf s b i = (Utf8.decode s i).1 :: runesOf s b' (i + (Utf8.decode s i).2) := by
  cases b with
  | zero => omega
  | succ b => exact ⟨b, rfl, by simp [runesOf, h]⟩
theorem runesOf_end (s : ByteArray) (b i : Nat) (h : ¬ i < s.size) : runesOf s b i = [] := by
  cases b with
  | zero => rfl
  | succ b => simp [runesOf, h]
theorem width_pos (s : ByteArray) (pos : Nat) (h : pos < s.size) : 1 ≤ (Utf8.decode s pos).2 := by
  by_cases ha : (s[pos]'h).toNat < 128
  · rw [decode_ascii s pos h ha]
    exact Nat.le_refl _
  · exact (decode_high s pos h (by omega)).2
theorem goodB_long {k : Nat} {c : Nat} {l : List Nat} (h : 20 ≤ k) : goodB k (c :: l) = false := by
  unfold goodB
  rw [decide_eq_false (by simp; omega)]
  rfl
theorem goodB_bar {k : Nat} {c : Nat} {l : List Nat} (h : barB c = true) : goodB k (c :: l) = false := by
  unfold goodB
  simp [h]
theorem goodB_next {k : Nat} {c : Nat} {l : List Nat} (h : barB c = false) : goodB k (c :: l) = goodB (k + 1) l := by
  unfold goodB
  rw [Bool.eq_iff_iff]
  simp [h]
  omega
theorem goodB_nil {k : Nat} (h : k ≤ 20) : goodB k [] = decide (0 < k) := by
  unfold goodB
  by_cases e : 0 < k
  · rw [decide_eq_true (by simp; omega), decide_eq_true (by omega)]; rfl
  · rw [decide_eq_false (by simp; omega), decide_eq_false (by omega)]; rfl

set_option maxHeartbeats 1000000 in
theorem rosterBarred_any (c : Nat) (w : World) :
    Calls Tryz.prog 85 #[.int .i32 (c : Int)] w fun e w' => e = .returned (.bool (barB c)) ∧ w' = w := by
  by_cases h1 : (c : Int) < 33
  · go_enter Tryz.func85, Tryz.ntmps85
    go_wp2
    go_ret
    exact ⟨by rw [barB, decide_eq_true (by omega)]; rfl, rfl⟩
  by_cases h2 : c = 127
  · subst h2
    go_enter Tryz.func85, Tryz.ntmps85
    go_wp2
    go_ret
    exact ⟨rfl, rfl⟩
  by_cases h3 : c = 61
  · subst h3
    go_enter Tryz.func85, Tryz.ntmps85
    go_wp2
    go_ret
    exact ⟨rfl, rfl⟩
  by_cases h4 : c = 65533
  · subst h4
    go_enter Tryz.func85, Tryz.ntmps85
    go_wp2
    go_ret
    exact ⟨rfl, rfl⟩
  have k2 : ((c : Int) == 127) = false := beq_false_of_ne (by omega)
  have k3 : ((c : Int) == 61) = false := beq_false_of_ne (by omega)
  have k4 : ((c : Int) == 65533) = false := beq_false_of_ne (by omega)
  go_enter Tryz.func85, Tryz.ntmps85
  go_wp2
  go_ret
  exact ⟨by rw [barB, decide_eq_false (by omega)]; rfl, rfl⟩

set_option maxRecDepth 1000000 in
set_option maxHeartbeats 2000000 in
theorem valid_any (s : ByteArray) (w : World) :
    Calls Tryz.prog 68 #[.string s] w fun e w' => e = .returned (.bool (vldB s)) ∧ Below w.heap.size w w' := by
  have B : ∀ pos, Below w.heap.size w (w.iter s pos) := fun pos => (Below.refl _ w).alloc (Nat.le_refl _) _
  go_enter Tryz.func68, Tryz.ntmps68
  go_wp2
  go_loopw [3] (fun n w' => ∃ (pos b k : Nat), w' = w.iter s pos ∧ n = .int .i64 (k : Int) ∧ k ≤ 20 ∧ s.size ≤ pos + b ∧ goodB k (runesOf s b pos) = vldB s) (fun _ w' => s.size - w'.iterPos w.heap.size)
  case atStart => exact ⟨0, s.size, 0, rfl, rfl, by omega, by omega, rfl⟩
  case round =>
    obtain ⟨pos, b, k, rfl, rfl, hk, hb, hg⟩ := hrel
    by_cases hp : pos < s.size
    · have hnx : ∀ ty, (Instr.next (.pointer (some ⟨w.heap.size, 0, none⟩)) true ty).run Tryz.prog (w.iter s pos) = _ := fun ty => run_next_any w s pos ty hp
      have hwd := width_pos s pos hp
      obtain ⟨b', rfl, hr⟩ := runesOf_at s b pos hp hb
      rw [hr] at hg
      have HG : Hid (goodB k ((Utf8.decode s pos).1 :: runesOf s b' (pos + (Utf8.decode s pos).2)) = vldB s) := hg
      clear hg hr
      have F := rosterBarred_any (Utf8.decode s pos).1
      generalize (Utf8.decode s pos).1 = c at *
      by_cases h20 : (20 : Int) < (k : Int) + 1
      · go_wp2_with fail
        go_ret
        exact ⟨by rw [← HG.out, goodB_long (by omega)]; rfl, B _⟩
      · cases hc : barB c
        · rw [hc] at F
          go_wp2_with fail
          refine (F _).mono ?_
          rintro e w1 ⟨rfl, rfl⟩
          go_wp2_with fail
          go_roundw
          case rel => exact ⟨pos + (Utf8.decode s pos).2, b', k + 1, rfl, by simp, by omega, by omega, by rw [← HG.out, goodB_next hc]⟩
          case measure => simp; omega
        · rw [hc] at F
          go_wp2_with fail
          refine (F _).mono ?_
          rintro e w1 ⟨rfl, rfl⟩
          go_wp2_with fail
          go_ret
          exact ⟨by rw [← HG.out, goodB_bar hc]; rfl, B _⟩
    · have hnx : ∀ ty, (Instr.next (.pointer (some ⟨w.heap.size, 0, none⟩)) true ty).run Tryz.prog (w.iter s pos) = _ := fun ty => run_next_end w s pos ty hp
      rw [runesOf_end s b pos hp, goodB_nil hk] at hg
      have HG : Hid (decide (0 < k) = vldB s) := hg
      clear hg
      go_wp2_with fail
      go_ret
      exact ⟨by rw [← HG.out]; rfl, B _⟩

theorem runesFrom_eq (s : ByteArray) : ∀ (b i : Nat) (acc : Array Value), Conv.runesFrom s b i acc = acc ++ ((runesOf s b i).map fun c : Nat => Value.int .i32 (c : Int)).toArray
  | 0, _, acc => by simp [Conv.runesFrom, runesOf]
  | b + 1, i, acc => by
    unfold Conv.runesFrom runesOf
    by_cases h : i < s.size
    · rw [if_pos h, if_pos h]
      show Conv.runesFrom s b (i + (Utf8.decode s i).2) (acc.push (.int .i32 (Int.ofNat (Utf8.decode s i).1))) = _
      rw [runesFrom_eq s b]
      simp
    · rw [if_neg h, if_neg h]
      simp
theorem runes_le (s : ByteArray) : ∀ (b i : Nat), (runesOf s b i).length ≤ b
  | 0, _ => by simp [runesOf]
  | b + 1, i => by
    unfold runesOf
    split
    · have := runes_le s b (i + (Utf8.decode s i).2)
      simp; omega
    · simp
theorem goodB_drop (l : List Nat) (k : Nat) (h : k < l.length) (hb : barB l[k] = true) : goodB 0 l = false := by
  unfold goodB
  have : l.all (fun c => !barB c) = false := by
    rw [List.all_eq_false]
    exact ⟨l[k], List.getElem_mem h, by simp [hb]⟩
  rw [this]; simp
theorem goodB_all (l : List Nat) (h1 : 1 ≤ l.length) (h2 : l.length ≤ 20) (hb : ∀ k, (h : k < l.length) → barB l[k] = false) : goodB 0 l = true := by
  unfold goodB
  have : l.all (fun c => !barB c) = true := by
    rw [List.all_eq_true]
    intro c hc
    obtain ⟨k, hk, rfl⟩ := List.getElem_of_mem hc
    simp [hb k hk]
  rw [this]; simp; omega
theorem bar_cases {c : Nat} (h : barB c = true) : (c : Int) < 33 ∨ (¬ (c : Int) < 33 ∧ c = 127) ∨ (¬ (c : Int) < 33 ∧ ¬ c = 127 ∧ c = 61) ∨ (¬ (c : Int) < 33 ∧ ¬ c = 127 ∧ ¬ c = 61 ∧ c = 65533) := by
  unfold barB at h
  rw [decide_eq_true_eq] at h
  omega
set_option maxRecDepth 1000000 in
set_option maxHeartbeats 4000000 in
theorem refValid_any (s : ByteArray) (w : World) (hs : s.size ≤ 300) :
    Calls Tryz.prog 36 #[.string s] w fun e w' => e = .returned (.bool (vldB s)) ∧ Below w.heap.size w w' := by
  obtain ⟨L, hL⟩ : ∃ L, runes s = L := ⟨_, rfl⟩
  have hlen : L.length ≤ 300 := by rw [← hL]; exact Nat.le_trans (runes_le s s.size 0) hs
  have hrs : Conv.runesFrom s s.size 0 #[] = (L.map fun c : Nat => Value.int .i32 (c : Int)).toArray := by rw [runesFrom_eq]; show _ = _; unfold runes at hL; rw [hL]; simp
  obtain ⟨C, hC, hCn⟩ : ∃ C, Hid (C = grownCap w L.length 0 21) ∧ L.length ≤ C := ⟨_, rfl, grownCap_ge w _ _ _⟩
  have hcm : C ≤ maxLen := by rw [hC.out]; exact grownCap_le_maxLen w _ _ _ (by unfold maxLen; omega)
  unfold maxLen at hcm
  obtain ⟨A, hA'⟩ : ∃ A : Array Value, A = (L.map fun c : Nat => Value.int .i32 (c : Int)).toArray ++ Array.replicate (C - L.length) (Value.int .i32 0) := ⟨_, rfl⟩
  have hA : Hid (A = _) := hA'
  clear hA'
  have hconv := run_runes_of_string (P := Tryz.prog) w 9 123 21 s Tryz.underlying9 Tryz.underlying123 Tryz.underlying21 (by rw [hrs]; simp; omega)
  rw [hrs] at hconv
  simp only [List.size_toArray, List.length_map] at hconv
  rw [← hC.out, ← hA.out] at hconv
  have hAl : L.length ≤ A.size := by rw [hA.out]; simp
  have hcell : ∀ k, (h : k < L.length) → A[k]? = some (.int .i32 (L[k] : Int)) := fun k h => by
    rw [hA.out]
    simp [Array.getElem?_append, h]
  have HV : Hid (vldB s = goodB 0 L) := by show vldB s = _; unfold vldB; rw [hL]
  have B : Below w.heap.size w (w.alloc (.cells A 21)).drew := ((Below.refl _ w).alloc (Nat.le_refl _) _).drew
  clear hrs hL hA
  by_cases h1 : L.length < 1
  · have t1 : (L.length : Int) < 1 := by omega
    go_enter Tryz.func36, Tryz.ntmps36
    go_wp2
    go_ret
    refine ⟨?_, B⟩
    rw [HV.out, goodB, decide_eq_false (by omega)]; rfl
  by_cases h2 : 20 < L.length
  · have t1 : ¬ (L.length : Int) < 1 := by omega
    have t2 : (20 : Int) < (L.length : Int) := by omega
    go_enter Tryz.func36, Tryz.ntmps36
    go_wp2
    go_ret
    refine ⟨?_, B⟩
    rw [HV.out, goodB, decide_eq_false (by omega)]; rfl
  have t1 : ¬ (L.length : Int) < 1 := by omega
  have t2 : ¬ (20 : Int) < (L.length : Int) := by omega
  go_enter Tryz.func36, Tryz.ntmps36
  go_wp2
  go_loop [4] (fun i => ∃ k : Nat, i = .int .i64 (k : Int) ∧ k ≤ L.length ∧ ∀ j, (h : j < L.length) → j < k → barB L[j] = false) (fun i => L.length - (intOf i).toNat)
  case atStart => exact ⟨0, rfl, by omega, fun j _ h => absurd h (by omega)⟩
  case round =>
    obtain ⟨k, rfl, hk, hg⟩ := hrel
    by_cases hlt : k < L.length
    · have t3 : (k : Int) < (L.length : Int) := by omega
      have hc := hcell k hlt
      have HG : Hid (∀ j, (h : j < L.length) → j < k → barB L[j] = false) := hg
      have HB := goodB_drop L k hlt
      clear hg hcell
      obtain ⟨c, HC'⟩ : ∃ c, L[k] = c := ⟨_, rfl⟩
      have HC : Hid (L[k] = c) := HC'
      clear HC'
      rw [HC.out] at hc HB
      cases hb : barB c
      · have hb' := hb
        unfold barB at hb'
        rw [decide_eq_false_iff_not] at hb'
        have k1 : ¬ (c : Int) < 33 := by omega
        have k2 : ((c : Int) == 127) = false := beq_false_of_ne (by omega)
        have k3 : ((c : Int) == 61) = false := beq_false_of_ne (by omega)
        have k4 : ((c : Int) == 65533) = false := beq_false_of_ne (by omega)
        clear hb'
        go_wp2
        go_round
        case rel => exact ⟨k + 1, by simp, by omega, fun j h hj => if e : j = k then by subst e; rw [HC.out]; exact hb else HG.out j h (by omega)⟩
        case measure => simp [intOf]; omega
      · have HB' : Hid (goodB 0 L = false) := HB hb
        clear HB
        rcases bar_cases hb with hx | ⟨k1, rfl⟩ | ⟨k1, k2, rfl⟩ | ⟨k1, k2, k3, rfl⟩
        · go_wp2
          go_ret
          exact ⟨by rw [HV.out, HB'.out]; rfl, B⟩
        · go_wp2
          go_ret
          exact ⟨by rw [HV.out, HB'.out]; rfl, B⟩
        · go_wp2
          go_ret
          exact ⟨by rw [HV.out, HB'.out]; rfl, B⟩
        · go_wp2
          go_ret
          exact ⟨by rw [HV.out, HB'.out]; rfl, B⟩
    · obtain rfl : k = L.length := by omega
      have HG : Hid (goodB 0 L = true) := goodB_all L (by omega) (by omega) (fun j h => hg j h h)
      clear hg hcell
      go_wp2
      go_ret
      exact ⟨by rw [HV.out, HG.out]; rfl, B⟩
end Go.Proofs.YtdbkoflejimibaaGreatDoor
