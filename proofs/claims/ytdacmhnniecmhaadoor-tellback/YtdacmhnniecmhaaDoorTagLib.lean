/-
  What the library's functions answer here: strconv.Itoa, strings.Clone, strings.HasPrefix, utf8.RuneLen, strings.Builder; the table of the powers of ten stays as it is.
-/
import Derived.Test.YtdacmhnniecmhaaDoorTagForm
import Derived.Test.YtdacmhnniecmhaaDoorShelf
import Derived.Test.YtdacmhnniecmhaaDoorOwnRows
import Derived.Lib.AppendIntMem
import Derived.BigQuiet
import Derived.Deep.QuietTactic
import Derived.Laws.RangeAny
namespace Go.Proofs.YtdacmhnniecmhaaDoor
open Go.ChangeShapes Go.WideShapes Go.ChangeAt Go.RowKit Go.Lib

def powName : String := Rows.tellEncodesRow.named.getD 1 ""
/-- The table of the powers of ten is laid. -/
def Pow (w : World) : Prop := TabIs Tryd.prog w powName .u64 pow10Tab
theorem pow_there : (Tryd.prog.globalNamed powName).isSome = true := by kernel_rfl
theorem Pow.below {w w' : World} {B : Nat} (h : Pow w) (hb : Below B w w') (hB : w.heap.size ≤ B) : Pow w' := by
  obtain ⟨g, hg⟩ := Option.isSome_iff_exists.1 pow_there
  have c := TabIs.cell h hg 0 (by rw [pow10Tab_length]; omega)
  exact var?_below hb hg (Nat.lt_of_lt_of_le (World.block_lt_of_cell? _ _ c) hB) h
theorem Pow.still {w w' : World} (h : Pow w) (hb : Below w.heap.size w w') : Pow w' := h.below hb (Nat.le_refl _)

theorem itoa_any (n : Nat) (hn : n ≤ 99999) {w : World} (h : Pow w) :
    Calls Tryd.prog 18 #[.int .i64 (n : Int)] w fun e w' => e = .returned (.string (mk (decDigits n))) ∧ Below w.heap.size w w' := by
  have := Any.strconv_Itoa Tryd.laysM171 (n : Int) (by omega) (by omega) w h
  refine Calls.mono this ?_
  rintro e w' ⟨rfl, k, os, rfl⟩
  exact ⟨by rw [itoa_nonneg]; rfl, below_grow _ _ (Nat.le_refl _) _ _⟩
theorem runeLen_any (r : Int) (w : World) : Calls Tryd.prog 80 #[.int .i32 r] w fun e w' => e = .returned (.int .i64 (runeLen r)) ∧ w' = w := Any.utf8_RuneLen Tryd.lays118 r w
theorem prefix_any (s p : ByteArray) (w : World) : Calls Tryd.prog 95 #[.string s, .string p] w fun e w' => e = .returned (.bool (hasPrefix s.data.toList p.data.toList)) ∧ w' = w := Any.strings_HasPrefix Tryd.lays99 s p w
set_option maxHeartbeats 1000000 in
theorem clone_any (s : ByteArray) (w : World) (hs : s.size ≤ 281474976710656) :
    Calls Tryd.prog 86 #[.string s] w fun e w' => e = .returned (.string s) ∧ Below w.heap.size w w' := by
  have F : ∀ w, Calls Tryd.prog 96 #[.string s] w fun e w' => e = .returned (.string s) ∧ Below w.heap.size w w' := fun w => Any.stringslite_Clone Tryd.laysM316 s w hs
  go_enter Tryd.func86, Tryd.ntmps86
  go_wp2_with fail
  refine (F _).mono ?_
  rintro e w1 ⟨rfl, hb⟩
  go_wp2_with fail
  go_ret
  exact ⟨rfl, hb⟩

/-- A builder at block b that holds the bytes l; it lies from block B on. -/
def Bld (B b : Nat) (l : List UInt8) (w : World) : Prop := IsBuilder 80 5 B b (byteCells l) w
theorem Bld.fresh (w : World) : Bld w.heap.size w.heap.size [] (w.alloc (.cells #[.pointer none, .slice none 0 0] 80)) := fresh_isBuilder _ _ w
theorem BuilderAt.still {T e : TypeId} {B b : Nat} {p : Value} {bs : List Value} {w w' : World} (h : BuilderAt T e B b p bs w) (hb : Below w.heap.size w w') : BuilderAt T e B b p bs w' := by
  have hlt := h.lt
  obtain ⟨hB, v, hv, hown, hne⟩ := h
  exact ⟨hB, v, by rw [hb.block b hlt]; exact hv, own_below hown hb, hne⟩
theorem Bld.still {B b : Nat} {l : List UInt8} {w w' : World} (h : Bld B b l w) (hb : Below w.heap.size w w') : Bld B b l w' :=
  Or.elim h (fun x => .inl (BuilderAt.still x hb)) (fun x => .inr (BuilderAt.still x hb))
theorem cells_more (l : List UInt8) (s : ByteArray) : byteCells l ++ strCells s = byteCells (l ++ s.data.toList) := by
  simp [byteCells, strCells]
theorem cells_length (l : List UInt8) : (byteCells l).length = l.length := by simp [byteCells]
theorem write_any {B b : Nat} {l : List UInt8} {w : World} (h : Bld B b l w) (s : ByteArray) (hl : l.length + s.size ≤ 140737488355328) (hB : B ≤ w.heap.size) :
    Calls Tryd.prog 42 #[.pointer (some ⟨b, 0, none⟩), .string s] w fun e w' => e = .returned (.tuple #[.int .i64 s.size, .nilIface]) ∧ Bld B b (l ++ s.data.toList) w' ∧ Below B w w' := by
  have := Any.Builder_WriteString Tryd.lays166 Tryd.Builder_Extra_166 B b (byteCells l) s w h (by rw [cells_length]; exact hl) hB
  refine Calls.mono this ?_
  rintro e w' ⟨rfl, h1, h2⟩
  rw [cells_more] at h1
  exact ⟨rfl, .inr h1, h2⟩
theorem string_any {B b : Nat} {l : List UInt8} {w : World} (h : Bld B b l w) (hB : B ≤ w.heap.size) :
    Calls Tryd.prog 43 #[.pointer (some ⟨b, 0, none⟩)] w fun e w' => e = .returned (.string (mk l)) ∧ Below B w w' := by
  refine Calls.mono (Any.Builder_String_any Tryd.lays169 Tryd.Builder_Extra_169 B b l w h hB) ?_
  rintro e w' ⟨rfl, h1⟩
  exact ⟨rfl, by first | exact h1 | exact h1.1 | exact h1.2 | exact h1.2.1⟩
end Go.Proofs.YtdacmhnniecmhaaDoor
