/-
  Lists of texts in memory that grow by append; the reference's Same of two lists that are the same.
-/
import Derived.Test.YtcgojnofkbjinaaOwnRows
import Derived.Test.YtcgojnofkbjinaaTagForm
import Derived.Test.YtcgojnofkbjinaaOrder
import Derived.Deep.QuietTactic
import Derived.BigQuiet
namespace Go.Proofs.Ytcgojnofkbjinaa
open Go.ChangeShapes Go.WideShapes Go.ChangeAt Go.RowKit Go.Lib

/-- A text as a value. -/
abbrev txt (l : List UInt8) : Value := .string (mk l)
/-- The cells of a list of texts. -/
def txts (L : List (List UInt8)) : List Value := L.map fun l => .string (mk l)
theorem txts_more (L : List (List UInt8)) (l : List UInt8) : txts (L ++ [l]) = txts L ++ [.string (mk l)] := by simp [txts]
theorem infoT : (Try.prog.info? 9).map (fun i => (i.zero, i.size, i.bytes)) = some (some (.string ⟨#[]⟩), 1, 16) := by kernel_rfl
/-- A list of texts that grows in memory newer than w0. -/
structure GrowsT (w0 : World) (w : World) (v : Value) (L : List (List UInt8)) : Prop where
  own : w.ownsRow w0.heap.size 9 1 v L.length (txts L)
  below : Below w0.heap.size w0 w
theorem GrowsT.none (w0 w : World) (h : Below w0.heap.size w0 w) : GrowsT w0 w (.slice none 0 0) [] := ⟨World.ownsRow_nil _ _ _ _, h⟩
theorem GrowsT.still {w0 w w' : World} {v : Value} {L : List (List UInt8)} (h : GrowsT w0 w v L) (k : Below w.heap.size w w') : GrowsT w0 w' v L :=
  ⟨own_below h.own k, h.below.trans (k.mono h.below.size)⟩
theorem GrowsT.more {w0 w w' : World} {v v' : Value} {L : List (List UInt8)} {l : List UInt8} (h : GrowsT w0 w v L) (hg : w.grownBy w' v.ownBlock) (hown : w'.ownsRow w0.heap.size 9 1 v' (L.length + 1) (txts L ++ [txt l])) : GrowsT w0 w' v' (L ++ [l]) := by
  have BG := But.of_grown hg
  refine ⟨by rw [txts_more, List.length_append]; exact hown, h.below.trans (BG.below h.below.size (fun k hk => (h.own.lt k hk).1))⟩
theorem GrowsT.shape {w0 w : World} {v : Value} {L : List (List UInt8)} (h : GrowsT w0 w v L) : ∃ a cap, v = .slice a L.length cap := own_shape h.own
theorem GrowsT.row {w0 w : World} {v : Value} {L : List (List UInt8)} (h : GrowsT w0 w v L) : Row w v L.length fun i => txt (L.getD i []) := by
  refine row_of_own h.own _ ?_
  intro i hi
  simp [txts, hi]
theorem cell_txt_new (w : World) (x : Value) (t : TypeId) : ∀ j u, ([x] : List Value)[j]? = some u → (w.alloc (.cells #[x] t)).cell? ((⟨w.heap.size, 0, none⟩ : Addr).add j) = some u := by
  intro j u hj
  rw [Addr.add_lit, Nat.zero_add]
  match j, hj with
  | 0, hj => simp at hj; subst hj; simp
  | j + 1, hj => simp at hj
set_option maxHeartbeats 1000000 in
theorem sameT_yes (f : Nat → ByteArray) (n : Nat) (u v : Value) (w : World) (hn : n ≤ 100000) (hu : Row w u n fun i => .string (f i)) (hv : Row w v n fun i => .string (f i)) :
    Calls Try.prog 14 #[u, v] w fun e w' => e = .returned (.bool true) ∧ Below w.heap.size w w' := by
  obtain ⟨a, cap, rfl, h1, h2, h3⟩ := id hu
  obtain ⟨b, cap', rfl, k1, k2, k3⟩ := id hv
  unfold maxLen at h2 k2
  go_enter Try.func14, Try.ntmps14
  go_wp2_with fail
  go_loopw [5] (fun c wr => ∃ k : Nat, c = .int .i64 (k : Int) ∧ k ≤ n ∧ Below w.heap.size w wr) (fun c _ => n - (RowKit.intOf c).toNat)
  case atStart => exact ⟨0, rfl, Nat.zero_le _, Below.refl _ _⟩
  case round =>
    obtain ⟨k, rfl, hk, hB⟩ := hrel
    by_cases hlt : k < n
    · have t : (k : Int) < (n : Int) := by omega
      obtain ⟨b1, off1, rfl, c1⟩ := h3 k hlt
      obtain ⟨b2, off2, rfl, c2⟩ := k3 k hlt
      have d1 := (hB.cell (World.block_lt_of_cell? _ _ c1)).trans c1
      have d2 := (hB.cell (World.block_lt_of_cell? _ _ c2)).trans c2
      clear h3 k3 c1 c2
      generalize f k = y at *
      go_wp2_with fail
      go_quiet (fail)
      go_wp2_with fail
      go_roundw
      case rel => exact ⟨k + 1, by simp, by omega, ⟨hB.os, hB.tape, hB.output, hB.size, hB.block⟩⟩
      case measure => simp [RowKit.intOf]; omega
    · have hkn : k = n := by omega
      subst hkn
      have t : ¬ (k : Int) < (k : Int) := by omega
      go_wp2_with fail
      go_ret
      exact ⟨rfl, hB⟩
end Go.Proofs.Ytcgojnofkbjinaa
