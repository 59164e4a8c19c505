/-
  Contracts of sum's Three and Length.
-/
import Derived.Test.YtcgojnofkbjinaaDoorSumDigits
namespace Go.Proofs.YtcgojnofkbjinaaDoor
open Go.ChangeShapes Go.WideShapes Go.ChangeAt Go.RowKit Go.Lib

/-- Bytes in memory, as a text. -/
theorem bytes_text (l : List UInt8) (W : World) (g o cap : Nat) (h : ∀ j (hj : j < l.length), W.cell? ⟨g, o + j, none⟩ = some (.int .u8 (l[j].toNat : Int))) :
    (convert 33 9 (.slice (some ⟨g, o, none⟩) l.length cap)).run Tryd.prog W = .ok (.string (mk l)) W := by
  have := run_convert_bytes_back (P := Tryd.prog) W 33 9 5 ⟨g, o, none⟩ cap l Tryd.underlying33 Tryd.underlying5 Tryd.underlying9 (fun j hj => by
    rw [Addr.add_lit]
    exact h j hj)
  exact this
/-- A block of four digits. -/
abbrev cells4 (n : Nat) : Obj := .cells #[.int .u8 (48 + ((n / 1000 % 10 : Nat) : Int)), .int .u8 (48 + ((n / 100 % 10 : Nat) : Int)), .int .u8 (48 + ((n / 10 % 10 : Nat) : Int)), .int .u8 (48 + ((n % 10 : Nat) : Int))] 54
theorem dig_cell (x : Nat) (h : x < 10) : (((UInt8.ofNat (48 + x)).toNat : Nat) : Int) = 48 + (x : Int) := by
  rw [byte_ofNat (by omega)]
  omega
theorem text3 (n : Nat) (W : World) (cap : Nat) : (convert 33 9 (.slice (some ⟨W.heap.size, 1, none⟩) 3 cap)).run Tryd.prog (W.alloc (cells4 n)) = .ok (.string (mk (three n))) (W.alloc (cells4 n)) := by
  refine bytes_text (three n) (W.alloc (cells4 n)) W.heap.size 1 cap ?_
  intro j hj
  rw [three_len] at hj
  rcases (show j = 0 ∨ j = 1 ∨ j = 2 by omega) with rfl | rfl | rfl
  all_goals simp only [three, List.getElem_cons_zero, List.getElem_cons_succ]
  all_goals rw [dig_cell _ (by omega)]
  all_goals simp
set_option maxRecDepth 1000000 in
set_option maxHeartbeats 4000000 in
theorem three_yes (n : Nat) (w : World) (hn : n ≤ 255) :
    Calls Tryd.prog 23 #[.int .i64 (n : Int)] w fun e w' => e = .returned (.tuple #[.string (mk (three n)), .int .i64 0]) ∧ Below w.heap.size w w' := by
  have F1 := valid_any9 (n : Int)
  have F2 := fun w => write4_any n w (by omega)
  have cv := text3 n
  rw [sumB_yes (by omega)] at F1
  unfold cells4 at cv
  generalize 48 + ((n / 1000 % 10 : Nat) : Int) = x0 at *
  generalize 48 + ((n / 100 % 10 : Nat) : Int) = x1 at *
  generalize 48 + ((n / 10 % 10 : Nat) : Int) = x2 at *
  generalize 48 + ((n % 10 : Nat) : Int) = x3 at *
  generalize mk (three n) = D at *
  go_enter Tryd.func23, Tryd.ntmps23
  go_wp2_with fail
  refine (F1 _).mono ?_
  rintro e w1 ⟨rfl, rfl⟩
  go_wp2_with fail
  refine (F2 _).mono ?_
  rintro e w1 ⟨rfl, hb⟩
  go_wp2_with fail
  go_ret2
  exact ⟨rfl, hb.alloc hb.size _⟩
set_option maxHeartbeats 1000000 in
theorem three_no (n : Int) (w : World) (hn : ¬ (0 ≤ n ∧ n ≤ 255)) :
    Calls Tryd.prog 23 #[.int .i64 n] w fun e w' => e = .returned (.tuple #[.string (mk []), .int .i64 2]) ∧ w' = w := by
  have F1 := valid_any9 n
  rw [sumB_no hn] at F1
  clear hn
  go_enter Tryd.func23, Tryd.ntmps23
  go_wp2_with fail
  refine (F1 _).mono ?_
  rintro e w1 ⟨rfl, rfl⟩
  go_wp2_with fail
  go_ret2
  exact ⟨rfl, rfl⟩
/-- Four digits as bytes. -/
def four (n : Nat) : List UInt8 := UInt8.ofNat (48 + n / 1000 % 10) :: three n
def nouN (n : Nat) : Nat := nou (48 + ((n / 1000 % 10 : Nat) : Int)) (48 + ((n / 100 % 10 : Nat) : Int)) (48 + ((n / 10 % 10 : Nat) : Int)) (48 + ((n % 10 : Nat) : Int))
theorem nou_dec {n : Nat} (h1 : 1 ≤ n) (h2 : n ≤ 4096) : nouN n < 4 ∧ (four n).drop (nouN n) = decDigits n := by
  have e : nouN n = if n < 10 then 3 else if n < 100 then 2 else if n < 1000 then 1 else 0 := by
    unfold nouN nou
    by_cases g1 : n < 10
    · rw [if_pos g1, if_neg (by omega), if_neg (by omega), if_neg (by omega), if_pos (by omega)]
    · rw [if_neg g1]
      by_cases g2 : n < 100
      · rw [if_pos g2, if_neg (by omega), if_neg (by omega), if_pos (by omega)]
      · rw [if_neg g2]
        by_cases g3 : n < 1000
        · rw [if_pos g3, if_neg (by omega), if_pos (by omega)]
        · rw [if_neg g3, if_pos (by omega)]
  rw [e, dec_four (by omega)]
  by_cases g1 : n < 10
  · simp only [if_pos g1]
    exact ⟨by omega, rfl⟩
  · simp only [if_neg g1]
    by_cases g2 : n < 100
    · simp only [if_pos g2]
      exact ⟨by omega, rfl⟩
    · simp only [if_neg g2]
      by_cases g3 : n < 1000
      · simp only [if_pos g3]
        exact ⟨by omega, rfl⟩
      · simp only [if_neg g3]
        exact ⟨by omega, rfl⟩
theorem four_cell (n : Nat) (W : World) (j : Nat) (hj : j < (four n).length) : (W.alloc (cells4 n)).cell? ⟨W.heap.size, j, none⟩ = some (.int .u8 ((four n)[j].toNat : Int)) := by
  have h4 : j < 4 := hj
  rcases (show j = 0 ∨ j = 1 ∨ j = 2 ∨ j = 3 by omega) with rfl | rfl | rfl | rfl
  all_goals simp only [four, three, List.getElem_cons_zero, List.getElem_cons_succ]
  all_goals rw [dig_cell _ (by omega)]
  all_goals simp
theorem text4 (n lo m : Nat) (W : World) (cap : Nat) (W' : World) (hb : Below (W.alloc (cells4 n)).heap.size (W.alloc (cells4 n)) W') (hm : lo + m = 4) : (convert 33 9 (.slice (some ⟨W.heap.size, lo, none⟩) m cap)).run Tryd.prog W' = .ok (.string (mk ((four n).drop lo))) W' := by
  have hl : ((four n).drop lo).length = m := by
    rw [List.length_drop]
    show 4 - lo = m
    omega
  subst hl
  refine bytes_text ((four n).drop lo) W' W.heap.size lo cap ?_
  intro j hj
  have hj4 : lo + j < (four n).length := by
    rw [List.length_drop] at hj
    omega
  have := four_cell n W (lo + j) hj4
  rw [List.getElem_drop]
  rw [hb.cell (p := ⟨W.heap.size, lo + j, none⟩) (by simp), this]
set_option maxRecDepth 1000000 in
set_option maxHeartbeats 4000000 in
theorem length_yes (n : Nat) (w : World) (h1 : 1 ≤ n) (h2 : n ≤ 4096) :
    Calls Tryd.prog 12 #[.int .i64 (n : Int)] w fun e w' => e = .returned (.tuple #[.string (mk (decDigits n)), .int .i64 0]) ∧ Below w.heap.size w w' := by
  have F1 := fun w => write4_any n w (by omega)
  have F2 := noughts_any (48 + ((n / 1000 % 10 : Nat) : Int)) (48 + ((n / 100 % 10 : Nat) : Int)) (48 + ((n / 10 % 10 : Nat) : Int)) (48 + ((n % 10 : Nat) : Int))
  obtain ⟨hlo, hd⟩ := nou_dec h1 h2
  have t1 : ¬ (n : Int) < 1 := by omega
  have t2 : ¬ (4096 : Int) < (n : Int) := by omega
  have cv := fun W cap W' hb => text4 n (nouN n) (4 - nouN n) W cap W' hb (by omega)
  rw [hd] at cv
  have F3 : ∀ w : World, Calls Tryd.prog 21 #[arr4 (48 + ((n / 1000 % 10 : Nat) : Int)) (48 + ((n / 100 % 10 : Nat) : Int)) (48 + ((n / 10 % 10 : Nat) : Int)) (48 + ((n % 10 : Nat) : Int))] w fun e w' => e = .returned (.int .i64 (nouN n : Int)) ∧ Below w.heap.size w w' := F2
  clear hd F2
  unfold cells4 at cv
  generalize 48 + ((n / 1000 % 10 : Nat) : Int) = x0 at *
  generalize 48 + ((n / 100 % 10 : Nat) : Int) = x1 at *
  generalize 48 + ((n / 10 % 10 : Nat) : Int) = x2 at *
  generalize 48 + ((n % 10 : Nat) : Int) = x3 at *
  generalize mk (decDigits n) = D at *
  generalize nouN n = lo at *
  rcases (show lo = 0 ∨ lo = 1 ∨ lo = 2 ∨ lo = 3 by omega) with rfl | rfl | rfl | rfl
  all_goals
    go_enter Tryd.func12, Tryd.ntmps12
    go_wp2_with fail
    refine (F1 _).mono ?_
    rintro e w1 ⟨rfl, hb⟩
    go_wp2_with fail
    refine (F3 _).mono ?_
    rintro e w2 ⟨rfl, hb2⟩
    have hc := fun cap => cv w1 cap w2 hb2
    simp only [Nat.reduceSub, Nat.sub_zero] at hc
    clear cv
    go_wp2_with fail
    go_ret2
    have B1 := hb.alloc hb.size (.cells #[.int .u8 x0, .int .u8 x1, .int .u8 x2, .int .u8 x3] 54)
    exact ⟨rfl, B1.trans (hb2.mono B1.size)⟩
set_option maxHeartbeats 1000000 in
theorem length_no (n : Int) (w : World) (hn : n < 1 ∨ 4096 < n) :
    Calls Tryd.prog 12 #[.int .i64 n] w fun e w' => e = .returned (.tuple #[.string (mk []), .int .i64 2]) ∧ w' = w := by
  by_cases h1 : n < 1
  · clear hn
    go_enter Tryd.func12, Tryd.ntmps12
    go_wp2_with fail
    go_ret2
    exact ⟨rfl, rfl⟩
  · have h2 : (4096 : Int) < n := by omega
    clear hn
    go_enter Tryd.func12, Tryd.ntmps12
    go_wp2_with fail
    go_ret2
    exact ⟨rfl, rfl⟩
end Go.Proofs.YtcgojnofkbjinaaDoor
