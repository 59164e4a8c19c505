/-
  Contracts of math/bits' Len64, LeadingZeros64 and Div64, for every input that Div64 does not refuse: the quotient and the rest of the number of 128 bits.
-/
import Derived.Test.YtdacfnodihannaaFrac
import Derived.Lib.BitFns
import Derived.Deep.CutBlock
import Derived.Deep.Light
namespace Go.Proofs.Ytdacfnodihannaa
open Go.ChangeShapes Go.WideShapes Go.ChangeAt Go.RowKit

set_option maxRecDepth 100000 in
theorem tab_size : (Lib.len8tab.size : Int) = 256 := by
  have h : Lib.len8tab.size = 256 := by decide
  omega
theorem tab_get (y : Int) (h : y.toNat < Lib.len8tab.size) : ((Lib.len8tab[y.toNat]'h).toNat : Int) = Lib.len8 y := by
  unfold Lib.len8
  rw [getElem?_pos Lib.len8tab y.toNat h]
  rfl
theorem wrap_sum (k a b : Nat) (hk : k ≤ 56) (ha : a ≤ 8) (hb : b = k + a) : wrap64 ((k : Int) + wrap64 (a : Int)) = (b : Int) := by
  unfold wrap64; omega
/-- The table's entry at the number shifted down by k bits, and k: the number's own length. -/
theorem tab_len (X k : Nat) (y : Int) (hk : k ≤ 56) (hX : X < 18446744073709551616) (hy : y.toNat = X / 2 ^ k) (hy0 : 0 ≤ y) (hy1 : y ≤ 255) (hx : k = 0 ∨ 2 ^ k ≤ X) (h : y.toNat < Lib.len8tab.size) :
    wrap64 ((k : Int) + wrap64 ((Lib.len8tab[y.toNat]'h).toNat : Int)) = (Lib.bitLen X : Int) := by
  rw [tab_get y h, Lib.len8_of y hy0 hy1]
  clear h
  have l := Lib.bitLen_le8' y hy0 hy1
  have s : Lib.bitLen X = k + Lib.bitLen y.toNat := by
    rw [hy]
    rcases hx with rfl | hx
    · simp
    · exact Lib.bitLen_shift k X hx hX
  exact wrap_sum k _ _ hk l s
theorem tab_len0 (X : Nat) (y : Int) (hy : y.toNat = X) (hy0 : 0 ≤ y) (hy1 : y ≤ 255) (h : y.toNat < Lib.len8tab.size) :
    wrap64 (wrap64 ((Lib.len8tab[y.toNat]'h).toNat : Int)) = (Lib.bitLen X : Int) := by
  rw [tab_get y h, Lib.len8_of y hy0 hy1]
  clear h
  have l := Lib.bitLen_le8' y hy0 hy1
  rw [hy] at l ⊢
  unfold wrap64; omega

set_option maxHeartbeats 4000000 in
set_option maxRecDepth 100000 in
theorem len64_any (x : Int) (w : World) (h0 : 0 ≤ x) (h1 : x ≤ 18446744073709551615) :
    Calls Try.prog 82 #[.int .u64 x] w fun e w' => e = .returned (.int .i64 (Lib.bitLen x.toNat)) ∧ w' = w := by
  have hs := tab_size
  go_enter Try.func82, Try.ntmps82
  go_wp2
  all_goals (go_ret; refine ⟨congrArg Ending.returned (congrArg (Value.int IntKind.i64) ?_), rfl⟩; go_light)
  · exact tab_len x.toNat 56 _ (by decide) (by omega) (by show _ = x.toNat / 72057594037927936; omega) (by omega) (by omega) (.inr (by show 72057594037927936 ≤ _; omega)) _
  · exact tab_len x.toNat 48 _ (by decide) (by omega) (by show _ = x.toNat / 281474976710656; omega) (by omega) (by omega) (.inr (by show 281474976710656 ≤ _; omega)) _
  · exact tab_len x.toNat 40 _ (by decide) (by omega) (by show _ = x.toNat / 1099511627776; omega) (by omega) (by omega) (.inr (by show 1099511627776 ≤ _; omega)) _
  · exact tab_len x.toNat 32 _ (by decide) (by omega) (by show _ = x.toNat / 4294967296; omega) (by omega) (by omega) (.inr (by show 4294967296 ≤ _; omega)) _
  · exact tab_len x.toNat 24 _ (by decide) (by omega) (by show _ = x.toNat / 16777216; omega) (by omega) (by omega) (.inr (by show 16777216 ≤ _; omega)) _
  · exact tab_len x.toNat 16 _ (by decide) (by omega) (by show _ = x.toNat / 65536; omega) (by omega) (by omega) (.inr (by show 65536 ≤ _; omega)) _
  · exact tab_len x.toNat 8 _ (by decide) (by omega) (by show _ = x.toNat / 256; omega) (by omega) (by omega) (.inr (by show 256 ≤ _; omega)) _
  · exact tab_len0 x.toNat _ rfl (by omega) (by omega) _

theorem lead_any (x : Int) (w : World) (h0 : 0 ≤ x) (h1 : x ≤ 18446744073709551615) :
    Calls Try.prog 81 #[.int .u64 x] w fun e w' => e = .returned (.int .i64 (64 - (Lib.bitLen x.toNat : Int))) ∧ w' = w := by
  have hl := Lib.bitLen_le x.toNat 64 (by decide) (by show x.toNat < 18446744073709551616; omega)
  go_enter Try.func81, Try.ntmps81
  go_wp2_with fail
  refine (len64_any x _ h0 h1).mono ?_
  rintro e w1 ⟨rfl, rfl⟩
  go_wp2
  go_ret
  exact ⟨rfl, rfl⟩
end Go.Proofs.Ytdacfnodihannaa
