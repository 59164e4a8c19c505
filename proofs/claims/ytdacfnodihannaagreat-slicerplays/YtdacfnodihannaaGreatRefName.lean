/-
  The contract of the reference's Valid, for texts of up to 100000 bytes; texts that are empty.
-/
import Derived.Test.YtdacfnodihannaaGreatRunes
import Derived.Test.YtdacfnodihannaaGreatBut
namespace Go.Proofs.YtdacfnodihannaaGreat
open Go.ChangeShapes Go.WideShapes Go.ChangeAt Go.RowKit Go.Lib

theorem below_of_drew {w w1 : World} (h : Below w.drew.heap.size w.drew w1) : Below w.heap.size w w1 := ⟨h.os, h.tape, h.output, h.size, h.block⟩
theorem empty_is (s : ByteArray) : s.toList.isEmpty = true ↔ s = ⟨#[]⟩ := by
  rw [empty_bytes]
  exact decide_eq_true_iff
set_option maxRecDepth 1000000 in
set_option maxHeartbeats 4000000 in
theorem refValid_big (s : ByteArray) (w : World) (hs : s.size ≤ 100000) :
    Calls Tryz.prog 43 #[.string s] w fun e w' => e = .returned (.bool (vldB s)) ∧ Below w.heap.size w w' := by
  obtain ⟨L, hL⟩ : ∃ L, runes s = L := ⟨_, rfl⟩
  have hlen : L.length ≤ 100000 := by rw [← hL]; exact Nat.le_trans (runes_le s s.size 0) hs
  have hrs : Conv.runesFrom s s.size 0 #[] = (L.map fun c : Nat => Value.int .i32 (c : Int)).toArray := by rw [runesFrom_eq]; show _ = _; unfold runes at hL; rw [hL]; simp
  obtain ⟨C, hC, hCn⟩ : ∃ C, Hid (C = grownCap w L.length 0 21) ∧ L.length ≤ C := ⟨_, rfl, grownCap_ge w _ _ _⟩
  have hcm : C ≤ maxLen := by rw [hC.out]; exact grownCap_le_maxLen w _ _ _ (by unfold maxLen; omega)
  unfold maxLen at hcm
  obtain ⟨A, hA'⟩ : ∃ A : Array Value, A = (L.map fun c : Nat => Value.int .i32 (c : Int)).toArray ++ Array.replicate (C - L.length) (Value.int .i32 0) := ⟨_, rfl⟩
  have hA : Hid (A = _) := hA'
  clear hA'
  have hconv := run_runes_of_string (P := Tryz.prog) w 9 83 21 s Tryz.underlying9 Tryz.underlying83 Tryz.underlying21 (by rw [hrs]; simp; omega)
  rw [hrs] at hconv
  simp only [List.size_toArray, List.length_map] at hconv
  rw [← hC.out, ← hA.out] at hconv
  have hAl : L.length ≤ A.size := by rw [hA.out]; simp
  have hcell : ∀ k, (h : k < L.length) → A[k]? = some (.int .i32 (L[k] : Int)) := fun k h => by
    rw [hA.out]
    simp [Array.getElem?_append, h]
  have HV : Hid (vldB s = runB 0 L) := by show vldB s = _; unfold vldB; rw [hL]
  have B : Below w.heap.size w (w.alloc (.cells A 21)).drew := ((Below.refl _ w).alloc (Nat.le_refl _) _).drew
  clear hrs hL hA
  by_cases h1 : L.length < 1
  · have t1 : (L.length : Int) < 1 := by omega
    go_enter Tryz.func43, Tryz.ntmps43
    go_wp2
    go_ret
    refine ⟨?_, B⟩
    rw [HV.out, runB, decide_eq_false (by omega)]; rfl
  by_cases h2 : 20 < L.length
  · have t1 : ¬ (L.length : Int) < 1 := by omega
    have t2 : (20 : Int) < (L.length : Int) := by omega
    go_enter Tryz.func43, Tryz.ntmps43
    go_wp2
    go_ret
    refine ⟨?_, B⟩
    rw [HV.out, runB, decide_eq_false (by omega)]; rfl
  have t1 : ¬ (L.length : Int) < 1 := by omega
  have t2 : ¬ (20 : Int) < (L.length : Int) := by omega
  go_enter Tryz.func43, Tryz.ntmps43
  go_wp2
  go_loop [4] (fun i => ∃ k : Nat, i = .int .i64 (k : Int) ∧ k ≤ L.length ∧ ∀ j, (h : j < L.length) → j < k → barB L[j] = false) (fun i => L.length - (RowKit.intOf i).toNat)
  case atStart => exact ⟨0, rfl, by omega, fun j _ h => absurd h (by omega)⟩
  case round =>
    obtain ⟨k, rfl, hk, hg⟩ := hrel
    by_cases hlt : k < L.length
    · have t3 : (k : Int) < (L.length : Int) := by omega
      have hc := hcell k hlt
      have HG : Hid (∀ j, (h : j < L.length) → j < k → barB L[j] = false) := hg
      have HB := runB_drop L k hlt
      clear hg hcell
      obtain ⟨c, HC'⟩ : ∃ c, L[k] = c := ⟨_, rfl⟩
      have HC : Hid (L[k] = c) := HC'
      clear HC'
      rw [HC.out] at hc HB
      cases hb : barB c
      · have hb' := hb
        unfold barB at hb'
        rw [decide_eq_false_iff_not] at hb'
        have k1 : ¬ (c : Int) < 33 := by omega
        have k2 : ((c : Int) == 127) = false := beq_false_of_ne (by omega)
        have k3 : ((c : Int) == 61) = false := beq_false_of_ne (by omega)
        have k4 : ((c : Int) == 65533) = false := beq_false_of_ne (by omega)
        clear hb'
        go_wp2
        go_round
        case rel => exact ⟨k + 1, by simp, by omega, fun j h hj => if e : j = k then by subst e; rw [HC.out]; exact hb else HG.out j h (by omega)⟩
        case measure => simp [RowKit.intOf]; omega
      · have HB' : Hid (runB 0 L = false) := HB hb
        clear HB
        rcases bar_cases hb with hx | ⟨k1, rfl⟩ | ⟨k1, k2, rfl⟩ | ⟨k1, k2, k3, rfl⟩
        · go_wp2
          go_ret
          exact ⟨by rw [HV.out, HB'.out]; rfl, B⟩
        · go_wp2
          go_ret
          exact ⟨by rw [HV.out, HB'.out]; rfl, B⟩
        · go_wp2
          go_ret
          exact ⟨by rw [HV.out, HB'.out]; rfl, B⟩
        · go_wp2
          go_ret
          exact ⟨by rw [HV.out, HB'.out]; rfl, B⟩
    · obtain rfl : k = L.length := by omega
      have HG : Hid (runB 0 L = true) := runB_all L (by omega) (by omega) (fun j h => hg j h h)
      clear hg hcell
      go_wp2
      go_ret
      exact ⟨by rw [HV.out, HG.out]; rfl, B⟩
end Go.Proofs.YtdacfnodihannaaGreat
