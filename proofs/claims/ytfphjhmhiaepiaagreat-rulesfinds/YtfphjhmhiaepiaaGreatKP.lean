/-
  Contracts of the fifteenth reference's Find and of the statements' find.
-/
import Derived.Test.YtfphjhmhiaepiaaGreatKK
import Derived.Test.YtfphjhmhiaepiaaGreatKE
import Derived.Test.YtfphjhmhiaepiaaGreatKJ
namespace Go.Proofs.YtfphjhmhiaepiaaGreat.RU
open Go.ChangeShapes Go.WideShapes Go.ChangeAt Go.RowKit Go.Lib SM

set_option maxHeartbeats 1000000 in
theorem refFind_any {w : World} {v : Value} {n : Nat} {N : Nat → ByteArray} (h : Row w v n fun i => .string (N i)) (t : ByteArray) :
    Calls Tryz.prog 35 #[v, .string t] w fun e w' => e = .returned (.int .i64 (firstOf N t n)) ∧ w' = w := by
  obtain ⟨a, cap, rfl, h1, h2, h3⟩ := id h
  unfold maxLen at h2
  obtain ⟨Z, hZ⟩ : ∃ Z, Hid (firstOf N t n = Z) := ⟨_, rfl⟩
  rw [show firstOf N t n = Z from hZ.out]
  clear h
  go_enter Tryz.func35, Tryz.ntmps35
  go_wp2_with fail
  go_loopw [5] (fun c wr => ∃ k : Nat, c = .int .i64 (k : Int) ∧ k ≤ n ∧ Hid (∀ i, i < k → N i ≠ t) ∧ wr = w) (fun c _ => n - (RowKit.intOf c).toNat)
  case atStart => exact ⟨0, rfl, Nat.zero_le _, fun i hi => absurd hi (by omega), rfl⟩
  case round =>
    obtain ⟨k, rfl, hk, hg, rfl⟩ := hrel
    by_cases hlt : k < n
    · have q : (k : Int) < (n : Int) := by omega
      obtain ⟨b, off, rfl, hc⟩ := h3 k hlt
      obtain ⟨y, HY'⟩ : ∃ y, N k = y := ⟨_, rfl⟩
      rw [HY'] at hc
      have HY : Hid (N k = y) := HY'
      clear HY' h3
      have hb := beq_bytes y t
      by_cases e : y = t
      · rw [decide_eq_true e] at hb
        have hz : Hid (Z = (k : Int)) := hZ.out.symm.trans (firstOf_at hlt (HY.out.trans e) hg.out)
        clear e hg
        go_wp2_with fail
        go_ret
        exact ⟨by rw [hz.out]; rfl, rfl⟩
      · rw [decide_eq_false e] at hb
        have HG : Hid (∀ i, i < k + 1 → N i ≠ t) := fun i hi => if q : i = k then by subst q; rw [HY.out]; exact e else hg.out i (by omega)
        clear e hg
        go_wp2_with fail
        go_roundw
        case rel => exact ⟨k + 1, by simp, by omega, HG, by first | trivial | rfl⟩
        case measure => simp [RowKit.intOf]; omega
    · have hkn : k = n := by omega
      subst hkn
      have hz : Hid (Z = -1) := hZ.out.symm.trans (firstOf_no hg.out)
      have q : ¬ (k : Int) < (k : Int) := by omega
      clear h3 hg
      go_wp2_with fail
      go_ret
      exact ⟨by rw [hz.out]; rfl, rfl⟩
set_option maxHeartbeats 1000000 in
theorem lawFind_any {w : World} {v : Value} {n : Nat} {N : Nat → ByteArray} (h : Row w v n fun i => .string (N i)) (t : ByteArray) (i : Int) (ok : Bool) (h1 : ok = decide (0 ≤ firstOf N t n)) (h2 : i = max (firstOf N t n) 0) :
    Calls Tryz.prog 15 #[.int .i64 i, .bool ok, v, .string t] w fun e w' => e = .returned (.bool true) ∧ w' = w := by
  have F := refFind_any h t
  obtain ⟨a, cap, rfl, _⟩ := id h
  have hb := (firstOf_bd N t n).1
  generalize firstOf N t n = z at *
  clear h
  by_cases k : 0 ≤ z
  · obtain rfl : ok = true := by rw [h1]; exact decide_eq_true k
    obtain rfl : i = z := by omega
    have k1 : max i 0 = i := by omega
    clear h1 h2 hb
    go_enter Tryz.func15, Tryz.ntmps15
    go_wp2_with fail
    refine F.mono ?_
    rintro e w1 ⟨rfl, rfl⟩
    go_wp2_with fail
    go_ret
    exact ⟨by first | rfl | simp, rfl⟩
  · obtain rfl : ok = false := by rw [h1]; exact decide_eq_false k
    obtain rfl : z = -1 := by omega
    obtain rfl : i = 0 := by omega
    clear h1 h2 hb k
    go_enter Tryz.func15, Tryz.ntmps15
    go_wp2_with fail
    refine F.mono ?_
    rintro e w1 ⟨rfl, rfl⟩
    go_wp2_with fail
    go_ret
    exact ⟨by first | rfl | simp, rfl⟩
end Go.Proofs.YtfphjhmhiaepiaaGreat.RU
/-
  A row of symbols that is written over; symbols held against each other.
-/
namespace Go.Proofs.YtfphjhmhiaepiaaGreat.RU
open Go.ChangeShapes Go.WideShapes Go.ChangeAt Go.RowKit Go.Lib

theorem symbol_eq (x : It) (w : World) : (Op.equalIn 10000 51 (.agg #[.string x.1, .int .i64 (x.2.1 1), .int .i64 (x.2.1 2), .int .i64 (x.2.1 3), .int .i64 (x.2.1 4), .int .i64 (x.2.1 5), .int .i64 (x.2.1 6)]) (.agg #[.string x.1, .int .i64 (x.2.1 1), .int .i64 (x.2.1 2), .int .i64 (x.2.1 3), .int .i64 (x.2.1 4), .int .i64 (x.2.1 5), .int .i64 (x.2.1 6)])).run Tryz.prog w = .ok true w := by
  rw [show (10000 : Nat) = 9999 + 1 from rfl, run_equalIn_struct (P := Tryz.prog) w 9999 _ _ _ (by kernel_rfl) (by kernel_rfl)]
  simp [Program.fieldsOf, Tryz.underlying51, Op.eqFields, go_sem, Tryz.underlying3, Tryz.underlying9]
theorem index_zero (b o n c : Nat) (h : 1 ≤ n) (w : World) : (Instr.indexAt 30 (.slice (some ⟨b, o, none⟩) n c) (.int .i64 0)).run Tryz.prog w = .ok (.pointer (some ⟨b, o, none⟩)) w := by
  have h1 : 0 < n := h
  simp [go_sem, h1]
/-- A symbol of nothing put into a block. -/
def wipe (w : World) (g o : Nat) : World := (((((((w.setCell ⟨g, o, none⟩ (.string ⟨#[]⟩)).setCell ⟨g, o + 1, none⟩ (.int .i64 0)).setCell ⟨g, o + 1 + 1, none⟩ (.int .i64 0)).setCell ⟨g, o + 1 + 1 + 1, none⟩ (.int .i64 0)).setCell ⟨g, o + 1 + 1 + 1 + 1, none⟩ (.int .i64 0)).setCell ⟨g, o + 1 + 1 + 1 + 1 + 1, none⟩ (.int .i64 0)).setCell ⟨g, o + 1 + 1 + 1 + 1 + 1 + 1, none⟩ (.int .i64 0))
theorem wipe_but (w : World) (g o : Nat) : But (fun k => k = g) w (wipe w g o) := by
  unfold wipe
  exact (((((((But.refl (fun k => k = g) w).setCell g _ _ (fun _ => rfl)).setCell g _ _ (fun _ => rfl)).setCell g _ _ (fun _ => rfl)).setCell g _ _ (fun _ => rfl)).setCell g _ _ (fun _ => rfl)).setCell g _ _ (fun _ => rfl)).setCell g _ _ (fun _ => rfl)
theorem some_set {w : World} {a b : Addr} {v : Value} (h : (w.cell? b).isSome = true) : ((w.setCell a v).cell? b).isSome = true := by
  by_cases e : a = b
  · subst e
    rw [World.cell?_setCell_same' _ _ _ h]
    rfl
  · rw [World.cell?_setCell_other _ _ _ _ e]
    exact h
/-- The first m cells of block g may be written; all other blocks are as in w0. -/
structure Wip (w0 w : World) (g m : Nat) : Prop where
  but : But (fun k => k = g) w0 w
  sm : ∀ j, j < m → (w.cell? ⟨g, j, none⟩).isSome = true
  fz : ∀ j, w.frozen? ⟨g, j, none⟩ = false
theorem Wip.wiped {w0 w : World} {g m : Nat} (h : Wip w0 w g m) (o : Nat) : Wip w0 (wipe w g o) g m := by
  refine ⟨h.but.trans (wipe_but w g o) (fun _ _ e => e), fun j hj => ?_, fun j => ?_⟩
  · unfold wipe
    exact some_set (some_set (some_set (some_set (some_set (some_set (some_set (h.sm j hj)))))))
  · unfold wipe
    simp only [World.frozen?_setCell]
    exact h.fz j
theorem wip_of_own {w : World} {B : Nat} {e : TypeId} {g n c : Nat} {s : Nat → It} (h : w.ownsRow B e 7 (.slice (some ⟨g, 0, none⟩) n c) n (allS s n)) : Wip w w g (n * 7) := by
  refine ⟨But.refl _ _, fun j hj => ?_, fun j => ?_⟩
  · have hl : j < (allS s n).length := by rw [allS_length]; exact hj
    have := h.cells (g := g) rfl j _ (List.getElem?_eq_getElem hl)
    rw [Addr.add_lit, Nat.zero_add] at this
    rw [this]
    rfl
  · rcases h.2 with ⟨e1, _⟩ | ⟨q, cap, cur, e1, _, hg, _⟩
    · cases e1
    · injection e1 with e1
      injection e1 with e1
      injection e1 with e1
      subst e1
      simp [World.frozen?, hg]
end Go.Proofs.YtfphjhmhiaepiaaGreat.RU
