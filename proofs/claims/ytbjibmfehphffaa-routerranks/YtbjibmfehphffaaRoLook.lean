/-
  Contracts of router's within and isWrong, and of the library's ContainsFunc that is handed isWrong.
-/
import Derived.Test.YtbjibmfehphffaaRoRank
namespace Go.Proofs.Ytbjibmfehphffaa.RO
open Go.ChangeShapes Go.WideShapes Go.ChangeAt Go.RowKit

def inB (n low high : Int) : Bool := decide (low ≤ n ∧ n ≤ high)
/-- Is something wrong with an offer? -/
def wrongB (x : Of) : Bool := !inB x.lt 1 1099511627776 || (!inB x.fe 0 10000 || !inB x.sh 0 1099511627776)
theorem within_any (n low high : Int) (w : World) : Calls Try.prog 29 #[.int .i64 n, .int .i64 low, .int .i64 high] w fun e w' => e = .returned (.bool (inB n low high)) ∧ w = w' := by
  unfold inB
  by_cases h1 : low ≤ n
  · by_cases h2 : n ≤ high
    · rw [decide_eq_true ⟨h1, h2⟩]
      go_enter Try.func29, Try.ntmps29
      go_wp2
      go_ret
      exact ⟨rfl, rfl⟩
    · rw [decide_eq_false (fun k => h2 k.2)]
      go_enter Try.func29, Try.ntmps29
      go_wp2
      go_ret
      exact ⟨rfl, rfl⟩
  · rw [decide_eq_false (fun k => h1 k.1)]
    go_enter Try.func29, Try.ntmps29
    go_wp2
    go_ret
    exact ⟨rfl, rfl⟩
set_option maxHeartbeats 1000000 in
theorem isWrong_any (x : Of) (w : World) : Calls Try.prog 31 #[oV x] w fun e w' => e = .returned (.bool (wrongB x)) ∧ Below w.heap.size w w' := by
  obtain ⟨x0, x1, x2, x3, x4⟩ := x
  unfold wrongB oV
  dsimp only
  have F1 := fun w => within_any x1 1 1099511627776 w
  have F2 := fun w => within_any x2 0 10000 w
  have F3 := fun w => within_any x3 0 1099511627776 w
  generalize inB x1 1 1099511627776 = p at *
  generalize inB x2 0 10000 = q at *
  generalize inB x3 0 1099511627776 = r at *
  cases p
  · go_enter Try.func31, Try.ntmps31
    go_wp2_with fail
    refine (F1 _).mono ?_
    rintro e w1 ⟨rfl, rfl⟩
    go_wp2_with fail
    go_ret
    exact ⟨rfl, (Below.refl _ _).alloc (Nat.le_refl _) _⟩
  · cases q
    · go_enter Try.func31, Try.ntmps31
      go_wp2_with fail
      refine (F1 _).mono ?_
      rintro e w1 ⟨rfl, rfl⟩
      go_wp2_with fail
      refine (F2 _).mono ?_
      rintro e w1 ⟨rfl, rfl⟩
      go_wp2_with fail
      go_ret
      exact ⟨rfl, (Below.refl _ _).alloc (Nat.le_refl _) _⟩
    · go_enter Try.func31, Try.ntmps31
      go_wp2_with fail
      refine (F1 _).mono ?_
      rintro e w1 ⟨rfl, rfl⟩
      go_wp2_with fail
      refine (F2 _).mono ?_
      rintro e w1 ⟨rfl, rfl⟩
      go_wp2_with fail
      refine (F3 _).mono ?_
      rintro e w1 ⟨rfl, rfl⟩
      go_wp2_with fail
      go_ret
      exact ⟨rfl, (Below.refl _ _).alloc (Nat.le_refl _) _⟩
/-- Is something wrong with one of the first n? -/
def anyW (L : Nat → Of) : Nat → Bool
  | 0 => false
  | n + 1 => anyW L n || wrongB (L n)
theorem anyW_false {L : Nat → Of} : ∀ {n : Nat}, anyW L n = false ↔ ∀ i, i < n → wrongB (L i) = false
  | 0 => ⟨fun _ _ h => absurd h (Nat.not_lt_zero _), fun _ => rfl⟩
  | n + 1 => by
    simp only [anyW, Bool.or_eq_false_iff, anyW_false]
    refine ⟨fun ⟨h1, h2⟩ i hi => ?_, fun h => ⟨fun i hi => h i (by omega), h n (by omega)⟩⟩
    rcases Nat.lt_or_eq_of_le (Nat.le_of_lt_succ hi) with c | rfl
    · exact h1 i c
    · exact h2
theorem anyW_true {L : Nat → Of} {n i : Nat} (hi : i < n) (h : wrongB (L i) = true) : anyW L n = true := by
  cases c : anyW L n with
  | true => rfl
  | false => rw [anyW_false.1 c i hi] at h; exact absurd h (by decide)
set_option maxHeartbeats 1000000 in
theorem index_any (n : Nat) (L : Nat → Of) (v : Value) (w : World) (h : RowL w v n L) (hn : n ≤ 1000) :
    Calls Try.prog 47 #[v, .func (.func 31) #[] #[]] w
      fun e w' => ∃ z : Int, e = .returned (.int .i64 z) ∧ Hid (decide (z ≥ 0) = anyW L n) ∧ Below w.heap.size w w' := by
  obtain ⟨a, cap, rfl, hcap, hc⟩ := id h
  go_enter Try.func47, Try.ntmps47
  go_wp2_with fail
  go_loopw [8] (fun x wr => ∃ i : Nat, x = .int .i64 (i : Int) ∧ i ≤ n ∧ Hid (anyW L i = false) ∧ Below w.heap.size w wr) (fun x _ => n - (RowKit.intOf x).toNat)
  case atStart => exact ⟨0, rfl, Nat.zero_le _, rfl, Below.refl _ _⟩
  case round =>
    obtain ⟨i, rfl, hi, hf, hB⟩ := hrel
    by_cases hlt : i < n
    · have t : (i : Int) < (n : Int) := by omega
      obtain ⟨b, o, rfl, c⟩ := hc i hlt
      have HN : Hid (anyW L (i + 1) = wrongB (L i)) := by show _ = _; rw [anyW, hf.out, Bool.false_or]
      have HT : Hid (wrongB (L i) = true → anyW L n = true) := fun k => anyW_true hlt k
      have F := fun w => isWrong_any (L i) w
      have c' := c.below hB
      generalize wrongB (L i) = r at F HN HT
      obtain ⟨x, hx⟩ : ∃ x, L i = x := ⟨_, rfl⟩
      rw [hx] at c' F
      clear hx c hc h
      obtain ⟨x0, x1, x2, x3, x4⟩ := x
      obtain ⟨c0, c1, c2, c3, c4⟩ := c'.all
      clear c'
      unfold oV at F
      simp only at c0 c1 c2 c3 c4 F
      cases r
      · go_wp2_with fail
        refine (F _).mono ?_
        rintro e w1 ⟨rfl, hb⟩
        go_wp2_with fail
        go_roundw
        case rel => exact ⟨i + 1, by simp, by omega, HN.out, hB.trans (hb.mono hB.size)⟩
        case measure => simp [RowKit.intOf] <;> omega
      · go_wp2_with fail
        refine (F _).mono ?_
        rintro e w1 ⟨rfl, hb⟩
        go_wp2_with fail
        go_ret
        exact ⟨(i : Int), rfl, by show _ = _; rw [HT.out trivial]; exact decide_eq_true (by omega), hB.trans (hb.mono hB.size)⟩
    · have t : ¬ (i : Int) < (n : Int) := by omega
      obtain rfl : i = n := by omega
      go_wp2_with fail
      go_ret
      exact ⟨-1, rfl, by show _ = _; rw [hf.out]; rfl, hB⟩
theorem contains_any (n : Nat) (L : Nat → Of) (v : Value) (w : World) (h : RowL w v n L) (hn : n ≤ 1000) :
    Calls Try.prog 30 #[v, .func (.func 31) #[] #[]] w
      fun e w' => e = .returned (.bool (anyW L n)) ∧ Below w.heap.size w w' := by
  have F := index_any n L v w h hn
  obtain ⟨a, cap, rfl, _⟩ := id h
  clear h
  go_enter Try.func30, Try.ntmps30
  go_wp2_with fail
  refine F.mono ?_
  rintro e w1 ⟨z, rfl, hz, hb⟩
  go_wp2_with fail
  go_ret
  exact ⟨by rw [← hz.out]; rfl, hb⟩
end Go.Proofs.Ytbjibmfehphffaa.RO
