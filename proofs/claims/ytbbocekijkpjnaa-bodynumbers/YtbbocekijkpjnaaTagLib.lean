/-
  What the library's functions answer here: strconv.Itoa, strings.Clone, strings.HasPrefix, utf8.RuneLen, strings.Builder; the table of the powers of ten stays as it is.
-/
import Derived.Test.YtbbocekijkpjnaaTagForm
import Derived.Test.YtbbocekijkpjnaaShelf
import Derived.Test.YtbbocekijkpjnaaOwnRows
import Derived.BigQuiet
import Derived.Deep.QuietTactic
import Derived.Laws.RangeAny
namespace Go.Proofs.Ytbbocekijkpjnaa
open Go.ChangeShapes Go.WideShapes Go.ChangeAt Go.RowKit Go.Lib

theorem runeLen_any (r : Int) (w : World) : Calls Try.prog 56 #[.int .i32 r] w fun e w' => e = .returned (.int .i64 (runeLen r)) ∧ w' = w := Any.utf8_RuneLen Try.lays118 r w
theorem prefix_any (s p : ByteArray) (w : World) : Calls Try.prog 52 #[.string s, .string p] w fun e w' => e = .returned (.bool (hasPrefix s.data.toList p.data.toList)) ∧ w' = w := Any.strings_HasPrefix Try.lays99 s p w
set_option maxHeartbeats 1000000 in
theorem clone_any (s : ByteArray) (w : World) (hs : s.size ≤ 281474976710656) :
    Calls Try.prog 46 #[.string s] w fun e w' => e = .returned (.string s) ∧ Below w.heap.size w w' := by
  have F : ∀ w, Calls Try.prog 53 #[.string s] w fun e w' => e = .returned (.string s) ∧ Below w.heap.size w w' := fun w => Any.stringslite_Clone Try.laysM316 s w hs
  go_enter Try.func46, Try.ntmps46
  go_wp2_with fail
  refine (F _).mono ?_
  rintro e w1 ⟨rfl, hb⟩
  go_wp2_with fail
  go_ret
  exact ⟨rfl, hb⟩

end Go.Proofs.Ytbbocekijkpjnaa
