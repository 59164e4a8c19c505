/-
  Contracts of the statements' plain and of the reference's ahead, in, StepOf.
-/
import Derived.Test.YtbjibmfehphffaaRoRefA
namespace Go.Proofs.Ytbjibmfehphffaa.RO
open Go.ChangeShapes Go.WideShapes Go.ChangeAt Go.RowKit

theorem rowL_one (w : World) (x : Of) (t : TypeId) : RowL (w.alloc (.cells #[.int .i64 x.pl, .int .i64 x.lt, .int .i64 x.fe, .int .i64 x.sh, .bool x.ok] t)) (.slice (some ⟨w.heap.size, 0, none⟩) 1 1) 1 (fun _ => x) := by
  refine ⟨_, _, rfl, Nat.le_refl _, fun i hi => ⟨_, _, rfl, fun j hj => ?_⟩⟩
  obtain rfl : i = 0 := by omega
  rcases (show j = 0 ∨ j = 1 ∨ j = 2 ∨ j = 3 ∨ j = 4 by omega) with rfl | rfl | rfl | rfl | rfl <;> simp [cO]
theorem listO_one (x : Of) : listO (fun _ => x) 1 = [x] := rfl
set_option maxRecDepth 100000 in
set_option maxHeartbeats 2000000 in
theorem plain_any (n : Nat) (L : Nat → Of) (v : Value) (w : World) (h : RowL w v n L) (hn : n ≤ 1000) :
    Calls Try.prog 13 #[v] w fun e w' => ∃ v', e = .returned v' ∧ Hid (w'.ownsRow w.heap.size 36 5 v' n (allO (listO L n)) ∧ Below w.heap.size w w') := by
  obtain ⟨a, cap, rfl, hcap, hc⟩ := id h
  go_enter Try.func13, Try.ntmps13
  go_wp2_with fail
  go_loopw [3, 8] (fun y x wr => ∃ i : Nat, x = .int .i64 (i : Int) ∧ i ≤ n ∧ Hid (wr.ownsRow w.heap.size 36 5 y i (allO (listO L i))) ∧ Below w.heap.size w wr) (fun _ x _ => n - (RowKit.intOf x).toNat)
  case atStart => exact ⟨0, rfl, Nat.zero_le _, World.ownsRow_nil _ _ _ _, Below.refl _ _⟩
  case round =>
    obtain ⟨i, rfl, hi, hown, hB⟩ := hrel
    by_cases hlt : i < n
    · have t : (i : Int) < (n : Int) := by omega
      obtain ⟨b, o, rfl, c⟩ := hc i hlt
      have HM : Hid (listO L (i + 1) = listO L i ++ listO (fun _ => L i) 1) := listO_more L i
      have hlen : (listO L i).length = i := listO_length L i
      have c' := c.below hB
      generalize listO L i = xs at *
      replace hlen : Hid (xs.length = i) := hlen
      obtain ⟨x, hx⟩ : ∃ x, L i = x := ⟨_, rfl⟩
      rw [hx] at c' HM
      clear hx c hc h
      obtain ⟨x0, x1, x2, x3, x4⟩ := x
      obtain ⟨c0, c1, c2, c3, c4⟩ := c'.all
      clear c'
      simp only at c0 c1 c2 c3 c4
      obtain ⟨au, nu, cu, rfl⟩ : ∃ au nu cu, u3 = Value.slice au nu cu := by
        obtain ⟨au, cu, e⟩ := own_shape hown.out
        exact ⟨au, _, cu, e⟩
      have hs := hB.size
      have hA : Below wr.heap.size wr (wr.alloc (.cells #[.int .i64 x0, .int .i64 x1, .int .i64 x2, .int .i64 x3, .bool x4] 35)) := (Below.refl _ _).alloc (Nat.le_refl _) _
      have hown2 := own_below hown.out hA
      have hA2 : Below w.heap.size w (wr.alloc (.cells #[.int .i64 x0, .int .i64 x1, .int .i64 x2, .int .i64 x3, .bool x4] 35)) := hB.trans (hA.mono hs)
      have hR := rowL_one (wr.alloc (.cells #[.int .i64 x0, .int .i64 x1, .int .i64 x2, .int .i64 x3, .bool x4] 35)) ⟨x0, x1, x2, x3, x4⟩ 36
      rw [World.size_alloc] at hR
      go_wp2_with (at_builtin; refine wpList_append_offers rfl _ _ rfl w.heap.size _ _ xs 1 (fun _ => ⟨x0, x1, x2, x3, x4⟩) rfl rfl (own_below hown2 ((Below.refl _ _).alloc (Nat.le_refl _) _)) hR ?hl (by omega) ?hbase ?_)
      case hl => rw [hlen.out]; omega
      case hbase => first | omega | (simp; omega)
      intro a' c' k' w' HG
      have HO : Hid (k' = i + 1 ∧ w'.ownsRow w.heap.size 36 5 (.slice a' k' c') k' (allO (listO L (i + 1))) ∧ Below w.heap.size w w') := by
        refine ⟨?_, ?_, (hA2.alloc (by simp; omega) _).grown HG.out.2.2 (by simp; omega) (fun k hk => (hown2.lt k hk).1)⟩
        · have := HG.out.1; simp only [listO_length, hlen.out] at this; exact this
        · rw [HM.out]; exact HG.out.2.1
      obtain rfl : k' = i + 1 := HO.out.1
      clear HG hown2
      go_wp2_with fail
      go_roundw
      case rel => exact ⟨i + 1, by simp, by omega, HO.out.2.1, HO.out.2.2⟩
      case measure => simp [RowKit.intOf] <;> omega
    · have t : ¬ (i : Int) < (n : Int) := by omega
      obtain rfl : i = n := by omega
      go_wp2_with fail
      go_ret
      exact ⟨_, rfl, hown.out, hB⟩
theorem ahead_any (x y : Of) (w : World) : Calls Try.prog 28 #[oV x, oV y] w fun e w' => e = .returned (.bool (ltO x y)) ∧ Below w.heap.size w w' := by
  obtain ⟨a0, a1, a2, a3, a4⟩ := x
  obtain ⟨b0, b1, b2, b3, b4⟩ := y
  unfold oV ltO
  dsimp only
  have hne : ¬ w.heap.size = w.heap.size + 1 := by omega
  by_cases h1 : a2 = b2
  · subst h1
    by_cases h2 : a3 = b3
    · subst h2
      rw [show decide (a2 < a2 ∨ (a2 = a2 ∧ (a3 < a3 ∨ (a3 = a3 ∧ a0 < b0)))) = decide (a0 < b0) from decide_eq_decide.2 (by omega)]
      go_enter Try.func28, Try.ntmps28
      go_wp2
      go_ret
      exact ⟨rfl, ((Below.refl _ _).alloc (Nat.le_refl _) _).alloc (by simp) _⟩
    · rw [show decide (a2 < a2 ∨ (a2 = a2 ∧ (b3 < a3 ∨ (b3 = a3 ∧ a0 < b0)))) = decide (b3 < a3) from decide_eq_decide.2 (by omega)]
      go_enter Try.func28, Try.ntmps28
      go_wp2
      go_ret
      exact ⟨rfl, ((Below.refl _ _).alloc (Nat.le_refl _) _).alloc (by simp) _⟩
  · rw [show decide (a2 < b2 ∨ (a2 = b2 ∧ (b3 < a3 ∨ (b3 = a3 ∧ a0 < b0)))) = decide (a2 < b2) from decide_eq_decide.2 (by omega)]
    go_enter Try.func28, Try.ntmps28
    go_wp2
    go_ret
    exact ⟨rfl, ((Below.refl _ _).alloc (Nat.le_refl _) _).alloc (by simp) _⟩
theorem inR_any (n low high : Int) (w : World) : Calls Try.prog 37 #[.int .i64 n, .int .i64 low, .int .i64 high] w fun e w' => e = .returned (.bool (inB n low high)) ∧ w = w' := by
  unfold inB
  by_cases h1 : low ≤ n
  · by_cases h2 : n ≤ high
    · rw [decide_eq_true ⟨h1, h2⟩]
      go_enter Try.func37, Try.ntmps37
      go_wp2
      go_ret
      exact ⟨rfl, rfl⟩
    · rw [decide_eq_false (fun k => h2 k.2)]
      go_enter Try.func37, Try.ntmps37
      go_wp2
      go_ret
      exact ⟨rfl, rfl⟩
  · rw [decide_eq_false (fun k => h1 k.1)]
    go_enter Try.func37, Try.ntmps37
    go_wp2
    go_ret
    exact ⟨rfl, rfl⟩
theorem stepOf_any (x : Of) (lot : Int) (w : World) (l1 : 1 ≤ lot) (l2 : lot ≤ 1099511627776) (hx : 1 ≤ x.lt ∧ x.lt ≤ 1099511627776) :
    Calls Try.prog 38 #[oV x, .int .i64 lot] w fun e w' => e = .returned (.int .i64 (stepOf lot x)) ∧ Below w.heap.size w w' := by
  have F := fun w => stepR_any lot x.lt w (by omega) (by omega) (by omega) (by omega)
  have hpos := fun e => stN_pos l1 hx.1 e
  unfold stepOf
  obtain ⟨x0, x1, x2, x3, x4⟩ := x
  unfold oV
  dsimp only at *
  generalize stN lot x1 = N at *
  generalize stE lot x1 = E at *
  have hb : Below w.heap.size w (w.alloc (.cells #[.int .i64 x0, .int .i64 x1, .int .i64 x2, .int .i64 x3, .bool x4] 36)) := (Below.refl _ _).alloc (Nat.le_refl _) _
  by_cases h1 : E = 0
  · subst h1
    by_cases h2 : N ≤ 1099511627776
    · have h2' : ¬ (1099511627776 : Int) < N := by omega
      cases x4
      · rw [if_neg (by simp)]
        clear hpos
        go_enter Try.func38, Try.ntmps38
        go_wp2_with fail
        refine (F _).mono ?_
        rintro e w1 ⟨rfl, hb1⟩
        have q := (hb1.cell (p := ⟨w.heap.size, 4, none⟩) (by simp)).trans (show _ = some (.bool false) by simp)
        go_wp2_with fail
        go_ret
        exact ⟨rfl, hb.trans (hb1.mono (by simp))⟩
      · rw [if_pos ⟨rfl, rfl, h2⟩]
        clear hpos
        go_enter Try.func38, Try.ntmps38
        go_wp2_with fail
        refine (F _).mono ?_
        rintro e w1 ⟨rfl, hb1⟩
        have q := (hb1.cell (p := ⟨w.heap.size, 4, none⟩) (by simp)).trans (show _ = some (.bool true) by simp)
        go_wp2_with fail
        go_ret
        exact ⟨rfl, hb.trans (hb1.mono (by simp))⟩
    · rw [if_neg (fun k => h2 k.2.2)]
      have h2' : (1099511627776 : Int) < N := by omega
      clear hpos
      go_enter Try.func38, Try.ntmps38
      go_wp2_with fail
      refine (F _).mono ?_
      rintro e w1 ⟨rfl, hb1⟩
      go_wp2_with fail
      go_ret
      exact ⟨rfl, hb.trans (hb1.mono (by simp))⟩
  · rw [if_neg (fun k => h1 k.2.1)]
    clear hpos
    go_enter Try.func38, Try.ntmps38
    go_wp2_with fail
    refine (F _).mono ?_
    rintro e w1 ⟨rfl, hb1⟩
    go_wp2_with fail
    go_ret
    exact ⟨rfl, hb.trans (hb1.mono (by simp))⟩
end Go.Proofs.Ytbjibmfehphffaa.RO
