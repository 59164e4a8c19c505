/-
  Contract of the reference's Of: the bits of a number of 64 bits, for every number.
-/
import Derived.Test.YtkphchldoionjaaReads
namespace Go.Proofs.Ytkphchldoionjaa
open Go.ChangeShapes Go.WideShapes Go.ChangeAt Go.RowKit

theorem Try.infoBool : (Try.prog.info? 4).map (fun i => (i.zero, i.size, i.bytes)) = some (some (.bool false), 1, 1) := by kernel_rfl
theorem bits_one (l : List Bool) : ∀ u ∈ l.map Value.bool, u.oneCell' = true := by
  intro u hu
  obtain ⟨b, _, rfl⟩ := List.mem_map.1 hu
  rfl
theorem owns_snoc {w : World} {base e : Nat} {v : Value} {l : List Bool} {b : Bool} (h : w.ownsRow base e 1 v (l.length + 1) (l.map Value.bool ++ [.bool b])) : w.ownsRow base e 1 v (l ++ [b]).length ((l ++ [b]).map Value.bool) := by
  simpa using h
/-- One bit more, of the number that is left. -/
theorem of_step (l : List Bool) (M N : Nat) (h : val l + 2 ^ l.length * M = N) : val (l ++ [decide (M % 2 = 1)]) + 2 ^ (l ++ [decide (M % 2 = 1)]).length * (M / 2) = N := by
  rw [val_snoc, List.length_append, List.length_singleton, Nat.pow_succ, Nat.mul_assoc, Nat.add_assoc, ← Nat.mul_add]
  have e : (decide (M % 2 = 1)).toNat + 2 * (M / 2) = M := by
    by_cases hm : M % 2 = 1 <;> simp [hm] <;> omega
  rw [e, h]
theorem pow_split (k : Nat) (M : Nat) (hk : k < 64) (h : M < 2 ^ (64 - k)) : M / 2 < 2 ^ (64 - (k + 1)) := by
  have e : 64 - k = (64 - (k + 1)) + 1 := by omega
  rw [e, Nat.pow_succ] at h
  omega

set_option maxRecDepth 100000 in
set_option maxHeartbeats 1000000 in
theorem of_any (a : Int) (w : World) (a1 : -9223372036854775808 ≤ a) (a2 : a ≤ 9223372036854775807) :
    Calls Try.prog 29 #[.int .i64 a] w fun e w' => ∃ v, e = .returned (.agg #[.bool (decide (a < 0)), v]) ∧ Below w.heap.size w w' ∧ ∃ l, Reads w.heap.size w' v l ∧ Canon l ∧ val l = a.natAbs ∧ l.length ≤ 64 := by
  obtain ⟨i0, hi, hz0, hz1, hz2⟩ := info_parts Try.infoBool
  go_enter Try.func29, Try.ntmps29
  go_upto_if 8 with fail
  go_cut [3] from 5 to 24 (fun m wx => m = .int .u64 (a.natAbs : Int) ∧ wx = w.alloc (.cells #[.bool false, .slice none 0 0] 58))
  case first =>
    by_cases h : a < 0
    · go_wp2_with fail
      go_meet
      case rel => exact ⟨congrArg (Value.int .u64) (by (try simp only [IntKind.wrap_u64]); omega), rfl⟩
    · go_wp2_with fail
      go_meet
      case rel => exact ⟨congrArg (Value.int .u64) (by rw [IntKind.wrap_u64]; omega), rfl⟩
  case rest =>
    obtain ⟨rfl, rfl⟩ := hcut
    go_wp2_with fail
    go_loopw [3, 4] (fun m v wr => ∃ (l : List Bool) (M : Nat), m = .int .u64 (M : Int) ∧ wr.ownsRow (w.heap.size + 1) 4 1 v l.length (l.map Value.bool) ∧ Hid (val l + 2 ^ l.length * M = a.natAbs) ∧ l.length ≤ 64 ∧ Hid (M < 2 ^ (64 - l.length)) ∧ Hid (M = 0 → Canon l) ∧ M ≤ 18446744073709551615 ∧ Below (w.heap.size + 1) (w.alloc (.cells #[.bool false, .slice none 0 0] 58)) wr) (fun m _ _ => (intOf m).toNat)
    case atStart => exact ⟨[], a.natAbs, rfl, World.ownsRow_nil _ _ _ _, by show _ = _; simp [val], by simp, by show _ < 2 ^ 64; omega, fun _ => canon_nil, by omega, Below.refl _ _⟩
    case round =>
      obtain ⟨l, M, rfl, hown, h1, h2, h3, h4, h5, hB⟩ := hrel
      rcases Nat.eq_zero_or_pos M with rfl | hp
      · have hR := reads_of_owns hown
        obtain ⟨a0, cap0, rfl, _⟩ := id hR
        have c0 := hB.cell (p := ⟨w.heap.size, 0, none⟩) (by simp)
        have c1 := hB.cell (p := ⟨w.heap.size, 1, none⟩) (by simp)
        have f0 := hB.frozen (p := ⟨w.heap.size, 0, none⟩) (by simp)
        have f1 := hB.frozen (p := ⟨w.heap.size, 1, none⟩) (by simp)
        simp at c0 c1 f0 f1
        have hcan := h4.out rfl
        have hval : Hid (val l = a.natAbs) := by have := h1.out; simp at this; exact this
        clear h4 h1 h3
        go_wp2_with fail
        refine bodyPost_ret (v := .agg #[.bool (decide (a < 0)), .slice a0 l.length cap0]) (by simp [results, Try.results29, go_sem, c0, c1]) rfl ⟨_, rfl, ?_, l, ?_, hcan, hval.out, h2⟩
        · exact ((((Below.refl _ _).alloc (Nat.le_refl _) _).trans (hB.mono (by omega))).setCell (by simp) _).setCell (by simp) _
        · exact (reads_of_owns (ownsRow_setCell_below (ownsRow_setCell_below hown (by simp) _) (by simp) _)).mono (by omega)
      · have hlen : l.length < 64 := by
          rcases Nat.lt_or_ge l.length 64 with h | h
          · exact h
          · have := h3.out; rw [show 64 - l.length = 0 by omega] at this; omega
        have t : (0 : Int) < (M : Int) := by omega
        obtain ⟨b, hb⟩ : ∃ b, Hid (b = decide (M % 2 = 1)) := ⟨_, rfl⟩
        have hbit : ((M : Int) % 2 == 1) = b := by rw [hb.out]; by_cases h : M % 2 = 1 <;> simp [h] <;> omega
        have hs := hB.size
        simp at hs
        go_wp2_with (at_builtin; refine wpList_append_own _ rfl _ _ 56 rfl (w.heap.size + 1) 4 i0 (.bool false) 1 1 Try.underlying56 hi hz0 hz1 hz2 rfl (by decide) _ _ _ rfl (hown.alloc _) ⟨wr.heap.size, 0, none⟩ 1 1 [.bool b] rfl rfl ?c1 ?c2 ?c3 ?c4 ?c5 ?_)
        case c1 => exact cell_one_new _ _ _
        case c2 => exact bits_one [b]
        case c3 => unfold maxLen; omega
        case c4 => omega
        case c5 => simp; omega
        intro v' w' hown' hgrow _
        have hB' := (hB.alloc (by omega) _).grown hgrow (by simp; omega) (fun k hk => (hown.lt k hk).1)
        have hown2 := owns_snoc hown'
        have g1 := of_step l M _ h1.out
        have g3 := pow_split l.length M hlen h3.out
        rw [← hb.out] at g1
        have G1 : Hid (val (l ++ [b]) + 2 ^ (l ++ [b]).length * (M / 2) = a.natAbs) := g1
        have G3 : Hid (M / 2 < 2 ^ (64 - (l ++ [b]).length)) := by rw [List.length_append]; exact g3
        have G4 : Hid (M / 2 = 0 → Canon (l ++ [b])) := fun h => by
          have : M = 1 := by omega
          rw [hb.out, this]
          exact canon_snoc l
        clear g1 g3 hown' hgrow hown h1 h3 h4 hbit
        go_wp2_with fail
        go_roundw
        case rel => exact ⟨l ++ [b], M / 2, congrArg (Value.int .u64) (by omega), hown2, G1, by simp; omega, G3, G4, by omega, hB'⟩
        case measure => simp [intOf]; omega
end Go.Proofs.Ytkphchldoionjaa
