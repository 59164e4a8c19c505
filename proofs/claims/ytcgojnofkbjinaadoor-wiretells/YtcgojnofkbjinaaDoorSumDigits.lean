/-
  Contracts of sum's write, noughts, Three and Length.
-/
import Derived.Test.YtcgojnofkbjinaaDoorSumRead
import Derived.Laws.IdiomStrings
namespace Go.Proofs.YtcgojnofkbjinaaDoor
open Go.ChangeShapes Go.WideShapes Go.ChangeAt Go.RowKit Go.Lib

/-- Four digits as an array. -/
abbrev arr4 (x0 x1 x2 x3 : Int) : Value := .agg #[.int .u8 x0, .int .u8 x1, .int .u8 x2, .int .u8 x3]
/-- The last k digits of n are written, m is what is ahead of them. -/
structure Wrote (n k m : Nat) (x0 x1 x2 x3 : Int) : Prop where
  rest : m = n / 10 ^ k
  d3 : 0 < k → x3 = 48 + ((n % 10 : Nat) : Int)
  d2 : 1 < k → x2 = 48 + ((n / 10 % 10 : Nat) : Int)
  d1 : 2 < k → x1 = 48 + ((n / 100 % 10 : Nat) : Int)
  d0 : 3 < k → x0 = 48 + ((n / 1000 % 10 : Nat) : Int)
structure Four (w wr : World) (x0 x1 x2 x3 : Int) : Prop where
  c0 : wr.cell? ⟨w.heap.size + 1, 0, none⟩ = some (.int .u8 x0)
  c1 : wr.cell? ⟨w.heap.size + 1, 1, none⟩ = some (.int .u8 x1)
  c2 : wr.cell? ⟨w.heap.size + 1, 2, none⟩ = some (.int .u8 x2)
  c3 : wr.cell? ⟨w.heap.size + 1, 3, none⟩ = some (.int .u8 x3)
  z : ∀ j, wr.frozen? ⟨w.heap.size + 1, j, none⟩ = false
  r0 : wr.cell? ⟨w.heap.size, 0, none⟩ = some (.int .u8 0)
  r1 : wr.cell? ⟨w.heap.size, 1, none⟩ = some (.int .u8 0)
  r2 : wr.cell? ⟨w.heap.size, 2, none⟩ = some (.int .u8 0)
  r3 : wr.cell? ⟨w.heap.size, 3, none⟩ = some (.int .u8 0)
  y : ∀ j, wr.frozen? ⟨w.heap.size, j, none⟩ = false
  bel : Below w.heap.size w wr
set_option maxRecDepth 1000000 in
set_option maxHeartbeats 4000000 in
theorem write4_any (n : Nat) (w : World) (hn : n ≤ 9999) :
    Calls Tryd.prog 20 #[.int .i64 (n : Int)] w fun e w' => e = .returned (arr4 (48 + ((n / 1000 % 10 : Nat) : Int)) (48 + ((n / 100 % 10 : Nat) : Int)) (48 + ((n / 10 % 10 : Nat) : Int)) (48 + ((n % 10 : Nat) : Int))) ∧ Below w.heap.size w w' := by
  go_enter Tryd.func20, Tryd.ntmps20
  go_wp2_with fail
  go_loopw [0, 5] (fun x i wr => ∃ (k m : Nat) (x0 x1 x2 x3 : Int), x = .int .i64 (m : Int) ∧ i = .int .i64 (k : Int) ∧ k ≤ 4 ∧ m ≤ 9999 ∧ Hid (Wrote n k m x0 x1 x2 x3) ∧ Four w wr x0 x1 x2 x3) (fun _ i _ => 4 - (RowKit.intOf i).toNat)
  case atStart =>
    refine ⟨0, n, 0, 0, 0, 0, rfl, rfl, by omega, hn, ⟨by simp, by omega, by omega, by omega, by omega⟩, ?_⟩
    constructor
    all_goals first | (intro j; simp) | simp | exact ((Below.refl _ w).alloc (Nat.le_refl _) _).alloc (by simp) _
  case round =>
    obtain ⟨k, m, x0, x1, x2, x3, rfl, rfl, hk, hm, HW, HF⟩ := hrel
    obtain ⟨c0, c1, c2, c3, z, r0, r1, r2, r3, y, bel⟩ := HF
    obtain ⟨q, hq⟩ : ∃ q, m / 10 = q := ⟨_, rfl⟩
    obtain ⟨d, hd⟩ : ∃ d, m % 10 = d := ⟨_, rfl⟩
    have d9 : d < 10 := by omega
    have HM : Hid (m = 10 * q + d) := by show m = 10 * q + d; omega
    have e1 : (m : Int) / 10 = (q : Int) := by omega
    have e2 : (m : Int) % 10 = (d : Int) := by omega
    have e3 : (m : Int).tmod 10 = (d : Int) := by show ((m % 10 : Nat) : Int) = _; omega
    have e4 : IntKind.u8.wrap (48 + (d : Int)) = 48 + (d : Int) := by rw [IntKind.wrap_u8]; omega
    clear hq hd
    have z0 := z 0
    have z1 := z 1
    have z2 := z 2
    have z3 := z 3
    have y0 := y 0
    have y1 := y 1
    have y2 := y 2
    have y3 := y 3
    rcases (show k = 0 ∨ k = 1 ∨ k = 2 ∨ k = 3 ∨ k = 4 by omega) with rfl | rfl | rfl | rfl | rfl
    · go_wp2_with fail
      go_roundw
      case rel =>
        refine ⟨1, q, x0, x1, x2, (48 + (d : Int)), by first | rfl | simp, by first | rfl | simp, by omega, by omega, ?_, ?_⟩
        · have H := HW.out
          have e := H.rest
          refine ⟨by first | omega | (simp at e ⊢; omega), ?_, ?_, ?_, ?_⟩
          all_goals (intro h; first | exact absurd h (by omega) | exact H.d3 (by omega) | exact H.d2 (by omega) | exact H.d1 (by omega) | exact H.d0 (by omega) | (simp at e; omega))
        · constructor
          all_goals first | (intro j; rw [World.frozen?_setCell]; first | exact z j | exact y j) | (rw [World.cell?_setCell_other _ _ _ _ (by simp)]; assumption) | exact World.cell?_setCell_same _ _ _ (by assumption) | exact bel.setCell (by simp) _
      case measure => simp [RowKit.intOf]
    · go_wp2_with fail
      go_roundw
      case rel =>
        refine ⟨2, q, x0, x1, (48 + (d : Int)), x3, by first | rfl | simp, by first | rfl | simp, by omega, by omega, ?_, ?_⟩
        · have H := HW.out
          have e := H.rest
          refine ⟨by first | omega | (simp at e ⊢; omega), ?_, ?_, ?_, ?_⟩
          all_goals (intro h; first | exact absurd h (by omega) | exact H.d3 (by omega) | exact H.d2 (by omega) | exact H.d1 (by omega) | exact H.d0 (by omega) | (simp at e; omega))
        · constructor
          all_goals first | (intro j; rw [World.frozen?_setCell]; first | exact z j | exact y j) | (rw [World.cell?_setCell_other _ _ _ _ (by simp)]; assumption) | exact World.cell?_setCell_same _ _ _ (by assumption) | exact bel.setCell (by simp) _
      case measure => simp [RowKit.intOf]
    · go_wp2_with fail
      go_roundw
      case rel =>
        refine ⟨3, q, x0, (48 + (d : Int)), x2, x3, by first | rfl | simp, by first | rfl | simp, by omega, by omega, ?_, ?_⟩
        · have H := HW.out
          have e := H.rest
          refine ⟨by first | omega | (simp at e ⊢; omega), ?_, ?_, ?_, ?_⟩
          all_goals (intro h; first | exact absurd h (by omega) | exact H.d3 (by omega) | exact H.d2 (by omega) | exact H.d1 (by omega) | exact H.d0 (by omega) | (simp at e; omega))
        · constructor
          all_goals first | (intro j; rw [World.frozen?_setCell]; first | exact z j | exact y j) | (rw [World.cell?_setCell_other _ _ _ _ (by simp)]; assumption) | exact World.cell?_setCell_same _ _ _ (by assumption) | exact bel.setCell (by simp) _
      case measure => simp [RowKit.intOf]
    · go_wp2_with fail
      go_roundw
      case rel =>
        refine ⟨4, q, (48 + (d : Int)), x1, x2, x3, by first | rfl | simp, by first | rfl | simp, by omega, by omega, ?_, ?_⟩
        · have H := HW.out
          have e := H.rest
          refine ⟨by first | omega | (simp at e ⊢; omega), ?_, ?_, ?_, ?_⟩
          all_goals (intro h; first | exact absurd h (by omega) | exact H.d3 (by omega) | exact H.d2 (by omega) | exact H.d1 (by omega) | exact H.d0 (by omega) | (simp at e; omega))
        · constructor
          all_goals first | (intro j; rw [World.frozen?_setCell]; first | exact z j | exact y j) | (rw [World.cell?_setCell_other _ _ _ _ (by simp)]; assumption) | exact World.cell?_setCell_same _ _ _ (by assumption) | exact bel.setCell (by simp) _
      case measure => simp [RowKit.intOf]
    · have H := HW.out
      obtain ⟨g3, g2, g1, g0⟩ := And.intro (H.d3 (by omega)) (And.intro (H.d2 (by omega)) (And.intro (H.d1 (by omega)) (H.d0 (by omega))))
      subst g3 g2 g1 g0
      clear H HW
      go_wp2_with fail
      refine bodyPost_ret (v := arr4 _ _ _ _) (by simp [results, Tryd.results20, go_sem, World.cell?_setCell_other, World.cell?_setCell_same', r0, r1, r2, r3]) rfl ⟨rfl, ?_⟩
      exact (((bel.setCell (by simp) _).setCell (by simp) _).setCell (by simp) _).setCell (by simp) _
/-- How many noughts are ahead. -/
def nou (x0 x1 x2 x3 : Int) : Nat := if x0 ≠ 48 then 0 else if x1 ≠ 48 then 1 else if x2 ≠ 48 then 2 else if x3 ≠ 48 then 3 else 4
set_option maxRecDepth 1000000 in
set_option maxHeartbeats 4000000 in
theorem noughts_any (x0 x1 x2 x3 : Int) (w : World) :
    Calls Tryd.prog 21 #[arr4 x0 x1 x2 x3] w fun e w' => e = .returned (.int .i64 (nou x0 x1 x2 x3 : Int)) ∧ Below w.heap.size w w' := by
  have i0 : ∀ (a b c d : Int) (w : World), (Instr.index 54 (.agg #[.int .u8 a, .int .u8 b, .int .u8 c, .int .u8 d]) (.int .i64 0)).run Tryd.prog w = .ok (.int .u8 a) w := fun _ _ _ _ _ => by kernel_rfl
  have i1 : ∀ (a b c d : Int) (w : World), (Instr.index 54 (.agg #[.int .u8 a, .int .u8 b, .int .u8 c, .int .u8 d]) (.int .i64 1)).run Tryd.prog w = .ok (.int .u8 b) w := fun _ _ _ _ _ => by kernel_rfl
  have i2 : ∀ (a b c d : Int) (w : World), (Instr.index 54 (.agg #[.int .u8 a, .int .u8 b, .int .u8 c, .int .u8 d]) (.int .i64 2)).run Tryd.prog w = .ok (.int .u8 c) w := fun _ _ _ _ _ => by kernel_rfl
  have i3 : ∀ (a b c d : Int) (w : World), (Instr.index 54 (.agg #[.int .u8 a, .int .u8 b, .int .u8 c, .int .u8 d]) (.int .i64 3)).run Tryd.prog w = .ok (.int .u8 d) w := fun _ _ _ _ _ => by kernel_rfl
  go_enter Tryd.func21, Tryd.ntmps21
  go_wp2_with fail
  go_loopw [6] (fun i wr => ∃ k : Nat, i = .int .i64 (k : Int) ∧ k ≤ 4 ∧ Hid ((0 < k → x0 = 48) ∧ (1 < k → x1 = 48) ∧ (2 < k → x2 = 48) ∧ (3 < k → x3 = 48)) ∧ wr = w.alloc (.cells #[.int .u8 x0, .int .u8 x1, .int .u8 x2, .int .u8 x3] 54)) (fun i _ => 4 - (RowKit.intOf i).toNat)
  case atStart => exact ⟨0, rfl, by omega, ⟨fun h => absurd h (by omega), fun h => absurd h (by omega), fun h => absurd h (by omega), fun h => absurd h (by omega)⟩, rfl⟩
  case round =>
    obtain ⟨k, rfl, hk, HN, rfl⟩ := hrel
    rcases (show k = 0 ∨ k = 1 ∨ k = 2 ∨ k = 3 ∨ k = 4 by omega) with rfl | rfl | rfl | rfl | rfl
    · by_cases h : x0 = 48
      · have t : (x0 != 48) = false := by simp [h]
        have HN2 : Hid ((0 < 1 → x0 = 48) ∧ (1 < 1 → x1 = 48) ∧ (2 < 1 → x2 = 48) ∧ (3 < 1 → x3 = 48)) := ⟨fun _ => h, fun g => absurd g (by omega), fun g => absurd g (by omega), fun g => absurd g (by omega)⟩
        clear h HN
        go_wp2_with fail
        go_roundw
        case rel => exact ⟨1, by first | rfl | simp, by omega, HN2, by first | trivial | rfl⟩
        case measure => simp [RowKit.intOf]
      · have t : (x0 != 48) = true := by simp [h]
        have HE : Hid (nou x0 x1 x2 x3 = 0) := by
          have H := HN.out
          show nou x0 x1 x2 x3 = 0
          unfold nou
          rw [if_pos h]
        clear h HN
        go_wp2_with fail
        go_ret
        exact ⟨by rw [HE.out]; rfl, (Below.refl _ w).alloc (Nat.le_refl _) _⟩
    · by_cases h : x1 = 48
      · have t : (x1 != 48) = false := by simp [h]
        have HN2 : Hid ((0 < 2 → x0 = 48) ∧ (1 < 2 → x1 = 48) ∧ (2 < 2 → x2 = 48) ∧ (3 < 2 → x3 = 48)) := ⟨fun _ => HN.out.1 (by omega), fun _ => h, fun g => absurd g (by omega), fun g => absurd g (by omega)⟩
        clear h HN
        go_wp2_with fail
        go_roundw
        case rel => exact ⟨2, by first | rfl | simp, by omega, HN2, by first | trivial | rfl⟩
        case measure => simp [RowKit.intOf]
      · have t : (x1 != 48) = true := by simp [h]
        have HE : Hid (nou x0 x1 x2 x3 = 1) := by
          have H := HN.out
          show nou x0 x1 x2 x3 = 1
          unfold nou
          rw [if_neg (fun e => e (H.1 (by omega))), if_pos h]
        clear h HN
        go_wp2_with fail
        go_ret
        exact ⟨by rw [HE.out]; rfl, (Below.refl _ w).alloc (Nat.le_refl _) _⟩
    · by_cases h : x2 = 48
      · have t : (x2 != 48) = false := by simp [h]
        have HN2 : Hid ((0 < 3 → x0 = 48) ∧ (1 < 3 → x1 = 48) ∧ (2 < 3 → x2 = 48) ∧ (3 < 3 → x3 = 48)) := ⟨fun _ => HN.out.1 (by omega), fun _ => HN.out.2.1 (by omega), fun _ => h, fun g => absurd g (by omega)⟩
        clear h HN
        go_wp2_with fail
        go_roundw
        case rel => exact ⟨3, by first | rfl | simp, by omega, HN2, by first | trivial | rfl⟩
        case measure => simp [RowKit.intOf]
      · have t : (x2 != 48) = true := by simp [h]
        have HE : Hid (nou x0 x1 x2 x3 = 2) := by
          have H := HN.out
          show nou x0 x1 x2 x3 = 2
          unfold nou
          rw [if_neg (fun e => e (H.1 (by omega))), if_neg (fun e => e (H.2.1 (by omega))), if_pos h]
        clear h HN
        go_wp2_with fail
        go_ret
        exact ⟨by rw [HE.out]; rfl, (Below.refl _ w).alloc (Nat.le_refl _) _⟩
    · by_cases h : x3 = 48
      · have t : (x3 != 48) = false := by simp [h]
        have HN2 : Hid ((0 < 4 → x0 = 48) ∧ (1 < 4 → x1 = 48) ∧ (2 < 4 → x2 = 48) ∧ (3 < 4 → x3 = 48)) := ⟨fun _ => HN.out.1 (by omega), fun _ => HN.out.2.1 (by omega), fun _ => HN.out.2.2.1 (by omega), fun _ => h⟩
        clear h HN
        go_wp2_with fail
        go_roundw
        case rel => exact ⟨4, by first | rfl | simp, by omega, HN2, by first | trivial | rfl⟩
        case measure => simp [RowKit.intOf]
      · have t : (x3 != 48) = true := by simp [h]
        have HE : Hid (nou x0 x1 x2 x3 = 3) := by
          have H := HN.out
          show nou x0 x1 x2 x3 = 3
          unfold nou
          rw [if_neg (fun e => e (H.1 (by omega))), if_neg (fun e => e (H.2.1 (by omega))), if_neg (fun e => e (H.2.2.1 (by omega))), if_pos h]
        clear h HN
        go_wp2_with fail
        go_ret
        exact ⟨by rw [HE.out]; rfl, (Below.refl _ w).alloc (Nat.le_refl _) _⟩
    · have HE : Hid (nou x0 x1 x2 x3 = 4) := by
        have H := HN.out
        show nou x0 x1 x2 x3 = 4
        unfold nou
        rw [if_neg (fun e => e (H.1 (by omega))), if_neg (fun e => e (H.2.1 (by omega))), if_neg (fun e => e (H.2.2.1 (by omega))), if_neg (fun e => e (H.2.2.2 (by omega)))]
      clear HN
      go_wp2_with fail
      go_ret
      exact ⟨by rw [HE.out]; rfl, (Below.refl _ w).alloc (Nat.le_refl _) _⟩
end Go.Proofs.YtcgojnofkbjinaaDoor
