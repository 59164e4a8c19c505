/-
  Contracts of what Name hands to take, and of Name.
-/
import Derived.Test.YtdacmhnniecmhaaDoorBodyTake
import Derived.Test.YtdacmhnniecmhaaDoorRunes
namespace Go.Proofs.YtdacmhnniecmhaaDoor
open Go.ChangeShapes Go.WideShapes Go.ChangeAt Go.RowKit Go.Lib

theorem vld_size {s : ByteArray} (h : vldB s = true) : s.size ≠ 0 := by
  intro e
  unfold vldB goodB runes at h
  rw [e] at h
  simp [runesOf] at h
set_option maxHeartbeats 1000000 in
theorem nameRead_good (s : ByteArray) (hv : vldB s = true) (w : World) :
    Calls Tryd.prog 66 #[.string s] w fun e w2 => e = .returned (.tuple #[.string s, .int .i64 0]) ∧ Below w.heap.size w w2 := by
  have F := valid_any s
  rw [hv] at F
  go_enter Tryd.func66, Tryd.ntmps66
  go_wp2_with fail
  refine (F _).mono ?_
  rintro e w1 ⟨rfl, b1⟩
  go_wp2_with fail
  go_ret2
  exact ⟨rfl, b1⟩
set_option maxHeartbeats 1000000 in
theorem nameRead_bad (s : ByteArray) (hv : vldB s = false) (w : World) :
    Calls Tryd.prog 66 #[.string s] w fun e w2 => e = .returned (.tuple #[.string ⟨#[]⟩, .int .i64 43]) ∧ Below w.heap.size w w2 := by
  have F := valid_any s
  rw [hv] at F
  go_enter Tryd.func66, Tryd.ntmps66
  go_wp2_with fail
  refine (F _).mono ?_
  rintro e w1 ⟨rfl, b1⟩
  go_wp2_with fail
  go_ret2
  exact ⟨rfl, b1⟩
set_option maxHeartbeats 2000000 in
theorem name_good {n0 : Nat} {w : World} {fb bm n : Nat} {tv : Value} {tags : List Int} {L : Int → Option (ByteArray × Bool)} {at_ : Int} (h : Frm n0 w fb bm n tv tags L at_ 0) (hn : n ≤ 1000000) (t : Int) (h1 : -9223372036854775808 ≤ t) (h2 : t ≤ 9223372036854775807) (s : ByteArray) (b : Bool) (hL : L t = some (s, b)) (hv : vldB s = true) :
    Calls Tryd.prog 52 #[.pointer (some ⟨fb, 0, none⟩), .int .i64 t] w fun e w' => e = .returned (.string s) ∧ Frm n0 w' fb bm (n + 1) tv tags (updI L t (s, true)) at_ 0 ∧ But (Two fb bm) w w' := by
  have T := takeS_good h hn t h1 h2 s b hL s (fun w1 _ => nameRead_good s hv w1)
  clear h hL
  go_enter Tryd.func52, Tryd.ntmps52
  go_wp2_with fail
  refine T.mono ?_
  rintro e w1 ⟨rfl, hF, hB⟩
  go_wp2_with fail
  go_ret
  exact ⟨rfl, hF, hB⟩
set_option maxHeartbeats 2000000 in
theorem name_bad {n0 : Nat} {w : World} {fb bm n : Nat} {tv : Value} {tags : List Int} {L : Int → Option (ByteArray × Bool)} {at_ : Int} (h : Frm n0 w fb bm n tv tags L at_ 0) (t : Int) (h1 : -9223372036854775808 ≤ t) (h2 : t ≤ 9223372036854775807) (s : ByteArray) (b : Bool) (hL : L t = some (s, b)) (hv : vldB s = false) :
    Calls Tryd.prog 52 #[.pointer (some ⟨fb, 0, none⟩), .int .i64 t] w fun e w' => e = .returned (.string ⟨#[]⟩) ∧ Frm n0 w' fb bm n tv tags L t 43 ∧ But (Two fb bm) w w' := by
  have T := takeS_bad h t h1 h2 s b hL ⟨#[]⟩ 43 (by omega) (fun w1 _ => nameRead_bad s hv w1)
  clear h hL
  go_enter Tryd.func52, Tryd.ntmps52
  go_wp2_with fail
  refine T.mono ?_
  rintro e w1 ⟨rfl, hF, hB⟩
  go_wp2_with fail
  go_ret
  exact ⟨rfl, hF, hB⟩
end Go.Proofs.YtdacmhnniecmhaaDoor
