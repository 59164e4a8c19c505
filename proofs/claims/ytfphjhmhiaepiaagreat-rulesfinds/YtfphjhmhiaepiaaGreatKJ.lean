/-
  The cells of a list of things, one behind the other (plain).
-/
import Derived.Lib.SliceRun
import Derived.Test.YtfphjhmhiaepiaaGreatKF
import Derived.Test.YtfphjhmhiaepiaaGreatKG
import Derived.Test.YtfphjhmhiaepiaaGreatKI
namespace Go.Proofs.YtfphjhmhiaepiaaGreat.RU
open Go.ChangeShapes Go.WideShapes Go.ChangeAt Go.RowKit Go.Lib

/-- The cells of the first n things. -/
def flatK (c : Nat → List Value) : Nat → List Value
  | 0 => []
  | n + 1 => flatK c n ++ c n
theorem flatK_length {c : Nat → List Value} {k : Nat} (h : ∀ i, (c i).length = k) : ∀ n, (flatK c n).length = n * k
  | 0 => by simp [flatK]
  | n + 1 => by rw [flatK, List.length_append, flatK_length h n, h n, Nat.succ_mul]
theorem flatK_at {c : Nat → List Value} {k : Nat} (h : ∀ i, (c i).length = k) {i j : Nat} (hj : j < k) : ∀ n, i < n → (flatK c n)[i * k + j]? = (c i)[j]?
  | 0, hi => absurd hi (by omega)
  | n + 1, hi => by
    rw [flatK]
    by_cases e : i = n
    · subst e
      rw [List.getElem?_append_right (by rw [flatK_length h]; omega), flatK_length h, Nat.add_sub_cancel_left]
    · have : i * k + j < n * k := by
        have h1 : (i + 1) * k ≤ n * k := Nat.mul_le_mul_right k (by omega)
        rw [Nat.succ_mul] at h1
        omega
      rw [List.getElem?_append_left (by rw [flatK_length h]; exact this)]
      exact flatK_at h hj n (by omega)
theorem flatK_inv {c : Nat → List Value} {k : Nat} (h : ∀ i, (c i).length = k) {q : Nat} {u : Value} : ∀ n, (flatK c n)[q]? = some u → ∃ i j, i < n ∧ j < k ∧ q = i * k + j ∧ (c i)[j]? = some u
  | 0, hq => by simp [flatK] at hq
  | n + 1, hq => by
    rw [flatK] at hq
    by_cases e : q < n * k
    · rw [List.getElem?_append_left (by rw [flatK_length h]; exact e)] at hq
      obtain ⟨i, j, h1, h2, h3, h4⟩ := flatK_inv h n hq
      exact ⟨i, j, by omega, h2, h3, h4⟩
    · rw [List.getElem?_append_right (by rw [flatK_length h]; omega), flatK_length h] at hq
      have hl := (List.getElem?_eq_some_iff.1 hq).1
      rw [h n] at hl
      exact ⟨n, q - n * k, by omega, hl, by omega, hq⟩
theorem flatK_mem {c : Nat → List Value} {u : Value} : ∀ n, u ∈ flatK c n → ∃ i, i < n ∧ u ∈ c i
  | 0, h => by simp [flatK] at h
  | n + 1, h => by
    rw [flatK, List.mem_append] at h
    rcases h with h | h
    · obtain ⟨i, h1, h2⟩ := flatK_mem n h
      exact ⟨i, by omega, h2⟩
    · exact ⟨n, by omega, h⟩
theorem flatK_same {c d : Nat → List Value} : ∀ n, (∀ i, i < n → c i = d i) → flatK c n = flatK d n
  | 0, _ => rfl
  | n + 1, h => by rw [flatK, flatK, flatK_same n (fun i hi => h i (by omega)), h n (by omega)]
end Go.Proofs.YtfphjhmhiaepiaaGreat.RU
/-
  Rows of accounts in memory of one's own; contract of slices.Clone at accounts.
-/
namespace Go.Proofs.YtfphjhmhiaepiaaGreat.RU
open Go.ChangeShapes Go.WideShapes Go.ChangeAt Go.RowKit Go.Lib

/-- The cells of one account. -/
def cellsA (x : It) : List Value := [.string x.1, .int .i64 (x.2.1 1)]
theorem cellsA_len (g : Nat → It) (i : Nat) : (cellsA (g i)).length = 2 := rfl
theorem cellsA_one (x : It) : ∀ u ∈ cellsA x, u.oneCell' = true := by
  intro u hu
  simp only [cellsA, List.mem_cons, List.not_mem_nil, or_false] at hu
  rcases hu with rfl | rfl <;> rfl
/-- The cells of n of them. -/
def allA (g : Nat → It) (n : Nat) : List Value := flatK (fun i => cellsA (g i)) n
theorem allA_length (g : Nat → It) (n : Nat) : (allA g n).length = n * 2 := flatK_length (cellsA_len g) n
theorem allA_more (g : Nat → It) (n : Nat) : allA g (n + 1) = allA g n ++ cellsA (g n) := rfl
theorem allA_one (g : Nat → It) (n : Nat) : ∀ u ∈ allA g n, u.oneCell' = true := by
  intro u hu
  obtain ⟨i, _, h⟩ := flatK_mem n hu
  exact cellsA_one _ u h
theorem rowA_of_own {w : World} {base : Nat} {e : TypeId} {v : Value} {n : Nat} {g : Nat → It} (h : w.ownsRow base e 2 v n (allA g n)) : RowA w v n g := by
  have hcs := fun q hq => h.cells (g := q) hq
  rcases h.2 with ⟨rfl, rfl⟩ | ⟨q, cap, cur, rfl, _, _, h1, h2, _⟩
  · exact RowA.none w g
  · refine ⟨_, cap, rfl, h1, h2, fun i hi => ⟨q, 0, rfl, ?_, ?_⟩⟩
    · have := hcs q rfl (i * 2 + 0) _ ((flatK_at (cellsA_len g) (by omega) n hi).trans rfl)
      rw [Addr.add_lit] at this
      exact this
    · have := hcs q rfl (i * 2 + 1) _ ((flatK_at (cellsA_len g) (by omega) n hi).trans rfl)
      rw [Addr.add_lit] at this
      exact this
/-- What an own row's cells are, read from a row. -/
theorem rowA_cells {w : World} {b off n cap : Nat} {g : Nat → It} (h : RowA w (.slice (some ⟨b, off, none⟩) n cap) n g) : ∀ j u, (allA g n)[j]? = some u → w.cell? ((⟨b, off, none⟩ : Addr).add j) = some u := by
  obtain ⟨a, cap', e, _, _, h3⟩ := h
  injection e with e1
  subst e1
  intro j u hj
  obtain ⟨i, q, hi, hq, rfl, hu⟩ := flatK_inv (cellsA_len g) n hj
  obtain ⟨b', off', e', c0, c1⟩ := h3 i hi
  injection e' with e'
  injection e' with e1 e2
  subst e1 e2
  rw [Addr.add_lit, ← Nat.add_assoc]
  match q, hq, hu with
  | 0, _, hu => cases hu; exact c0
  | 1, _, hu => cases hu; exact c1
theorem infoA : (Tryz.prog.info? 55).map (fun i => (i.zero, i.size, i.bytes)) = some (some (.agg #[.string ⟨#[]⟩, .int .i64 0]), 2, 24) := by kernel_rfl

set_option maxHeartbeats 2000000 in
set_option maxRecDepth 100000 in
theorem cloneA_any {w : World} {v : Value} {n : Nat} {g : Nat → It} (h : RowA w v n g) (h1 : 1 ≤ n) (h2 : n ≤ 1000000) :
    Calls Tryz.prog 38 #[v] w fun e w' => ∃ v', e = .returned v' ∧ w'.ownsRow w.heap.size 55 2 v' n (allA g n) ∧ Below w.heap.size w w' := by
  obtain ⟨a, cap, rfl, k1, k2, k3⟩ := id h
  obtain ⟨b, off, rfl, _⟩ := k3 0 (by omega)
  clear k3
  obtain ⟨i0, hi, hz0, hz1, hz2⟩ := info_parts infoA
  have q22 : ∀ (w : World) (a : Option Addr) (n c n' c' : Nat), (binOp .eql 22 (.slice a n c) (.slice none n' c')).run Tryz.prog w = .ok (.bool a.isNone) w := fun w a n c n' c' => Lib.run_eql_slice_nil w _ _ a n c n' c' Tryz.underlying22
  have A : Hid (∀ j u, (allA g n)[j]? = some u → w.cell? ((⟨b, off, none⟩ : Addr).add j) = some u) := rowA_cells h
  clear h
  go_enter Tryz.func38, Tryz.ntmps38
  go_wp2_with (at_builtin; refine wpList_append_own _ rfl _ _ 22 rfl w.heap.size 55 i0 (.agg #[.string ⟨#[]⟩, .int .i64 0]) 2 24 Tryz.underlying22 hi hz0 hz1 hz2 rfl (by decide) _ _ _ rfl (World.ownsRow_made w #[] 0 (Nat.le_refl _) (Nat.zero_le _) rfl) ⟨b, off, none⟩ n cap (allA g n) rfl ?qc1 ?qc2 ?qc3 ?qc4 ?qc5 ?qc6 ?_)
  case qc1 => exact allA_length g n
  case qc2 =>
    intro j u hj
    have := A.out j u hj
    rw [Addr.add_lit] at this ⊢
    exact Lib.cell?_alloc_some _ this
  case qc3 => exact allA_one g n
  case qc4 => unfold maxLen; omega
  case qc5 => omega
  case qc6 => simp
  intro v' w1 hown hgrow hnil
  have hown' : Hid (w1.ownsRow w.heap.size 55 2 v' n (allA g n)) := by
    show w1.ownsRow w.heap.size 55 2 v' n (allA g n)
    simpa using hown
  clear hown hnil
  go_wp2
  go_ret
  exact ⟨v', rfl, hown'.out, ((Below.refl _ w).alloc (Nat.le_refl _) _).grown hgrow (by simp) (by intro k hk; simp [Value.ownBlock] at hk; omega)⟩
set_option maxHeartbeats 1000000 in
theorem cloneA_nil (w : World) :
    Calls Tryz.prog 38 #[.slice none 0 0] w fun e w' => e = .returned (.slice none 0 0) ∧ w' = w := by
  have q22 : ∀ (w : World) (a : Option Addr) (n c n' c' : Nat), (binOp .eql 22 (.slice a n c) (.slice none n' c')).run Tryz.prog w = .ok (.bool a.isNone) w := fun w a n c n' c' => Lib.run_eql_slice_nil w _ _ a n c n' c' Tryz.underlying22
  go_enter Tryz.func38, Tryz.ntmps38
  go_wp2
  go_ret
  exact ⟨rfl, rfl⟩
end Go.Proofs.YtfphjhmhiaepiaaGreat.RU
/-
  Rows of symbols in memory of one's own; contract of slices.Clone at symbols.
-/
namespace Go.Proofs.YtfphjhmhiaepiaaGreat.RU
open Go.ChangeShapes Go.WideShapes Go.ChangeAt Go.RowKit Go.Lib

/-- The cells of one symbol. -/
def cellsS (x : It) : List Value := [.string x.1, .int .i64 (x.2.1 1), .int .i64 (x.2.1 2), .int .i64 (x.2.1 3), .int .i64 (x.2.1 4), .int .i64 (x.2.1 5), .int .i64 (x.2.1 6)]
theorem cellsS_len (g : Nat → It) (i : Nat) : (cellsS (g i)).length = 7 := rfl
theorem cellsS_one (x : It) : ∀ u ∈ cellsS x, u.oneCell' = true := by
  intro u hu
  simp only [cellsS, List.mem_cons, List.not_mem_nil, or_false] at hu
  rcases hu with rfl | rfl | rfl | rfl | rfl | rfl | rfl <;> rfl
/-- The cells of n of them. -/
def allS (g : Nat → It) (n : Nat) : List Value := flatK (fun i => cellsS (g i)) n
theorem allS_length (g : Nat → It) (n : Nat) : (allS g n).length = n * 7 := flatK_length (cellsS_len g) n
theorem allS_more (g : Nat → It) (n : Nat) : allS g (n + 1) = allS g n ++ cellsS (g n) := rfl
theorem allS_one (g : Nat → It) (n : Nat) : ∀ u ∈ allS g n, u.oneCell' = true := by
  intro u hu
  obtain ⟨i, _, h⟩ := flatK_mem n hu
  exact cellsS_one _ u h
theorem rowS_of_own {w : World} {base : Nat} {e : TypeId} {v : Value} {n : Nat} {g : Nat → It} (h : w.ownsRow base e 7 v n (allS g n)) : RowS w v n g := by
  have hcs := fun q hq => h.cells (g := q) hq
  rcases h.2 with ⟨rfl, rfl⟩ | ⟨q, cap, cur, rfl, _, _, h1, h2, _⟩
  · exact RowS.none w g
  · refine ⟨_, cap, rfl, h1, h2, fun i hi => ⟨q, 0, rfl, ?_, ?_, ?_, ?_, ?_, ?_, ?_⟩⟩
    · have := hcs q rfl (i * 7 + 0) _ ((flatK_at (cellsS_len g) (by omega) n hi).trans rfl)
      rw [Addr.add_lit] at this
      exact this
    · have := hcs q rfl (i * 7 + 1) _ ((flatK_at (cellsS_len g) (by omega) n hi).trans rfl)
      rw [Addr.add_lit] at this
      exact this
    · have := hcs q rfl (i * 7 + 2) _ ((flatK_at (cellsS_len g) (by omega) n hi).trans rfl)
      rw [Addr.add_lit] at this
      exact this
    · have := hcs q rfl (i * 7 + 3) _ ((flatK_at (cellsS_len g) (by omega) n hi).trans rfl)
      rw [Addr.add_lit] at this
      exact this
    · have := hcs q rfl (i * 7 + 4) _ ((flatK_at (cellsS_len g) (by omega) n hi).trans rfl)
      rw [Addr.add_lit] at this
      exact this
    · have := hcs q rfl (i * 7 + 5) _ ((flatK_at (cellsS_len g) (by omega) n hi).trans rfl)
      rw [Addr.add_lit] at this
      exact this
    · have := hcs q rfl (i * 7 + 6) _ ((flatK_at (cellsS_len g) (by omega) n hi).trans rfl)
      rw [Addr.add_lit] at this
      exact this
/-- What an own row's cells are, read from a row. -/
theorem rowS_cells {w : World} {b off n cap : Nat} {g : Nat → It} (h : RowS w (.slice (some ⟨b, off, none⟩) n cap) n g) : ∀ j u, (allS g n)[j]? = some u → w.cell? ((⟨b, off, none⟩ : Addr).add j) = some u := by
  obtain ⟨a, cap', e, _, _, h3⟩ := h
  injection e with e1
  subst e1
  intro j u hj
  obtain ⟨i, q, hi, hq, rfl, hu⟩ := flatK_inv (cellsS_len g) n hj
  obtain ⟨b', off', e', c0, c1, c2, c3, c4, c5, c6⟩ := h3 i hi
  injection e' with e'
  injection e' with e1 e2
  subst e1 e2
  rw [Addr.add_lit, ← Nat.add_assoc]
  match q, hq, hu with
  | 0, _, hu => cases hu; exact c0
  | 1, _, hu => cases hu; exact c1
  | 2, _, hu => cases hu; exact c2
  | 3, _, hu => cases hu; exact c3
  | 4, _, hu => cases hu; exact c4
  | 5, _, hu => cases hu; exact c5
  | 6, _, hu => cases hu; exact c6
theorem infoS : (Tryz.prog.info? 40).map (fun i => (i.zero, i.size, i.bytes)) = some (some (.agg #[.string ⟨#[]⟩, .int .i64 0, .int .i64 0, .int .i64 0, .int .i64 0, .int .i64 0, .int .i64 0]), 7, 64) := by kernel_rfl

set_option maxHeartbeats 2000000 in
set_option maxRecDepth 100000 in
theorem cloneS_any {w : World} {v : Value} {n : Nat} {g : Nat → It} (h : RowS w v n g) (h1 : 1 ≤ n) (h2 : n ≤ 1000000) :
    Calls Tryz.prog 39 #[v] w fun e w' => ∃ v', e = .returned v' ∧ w'.ownsRow w.heap.size 40 7 v' n (allS g n) ∧ Below w.heap.size w w' := by
  obtain ⟨a, cap, rfl, k1, k2, k3⟩ := id h
  obtain ⟨b, off, rfl, _⟩ := k3 0 (by omega)
  clear k3
  obtain ⟨i0, hi, hz0, hz1, hz2⟩ := info_parts infoS
  have q22 : ∀ (w : World) (a : Option Addr) (n c n' c' : Nat), (binOp .eql 23 (.slice a n c) (.slice none n' c')).run Tryz.prog w = .ok (.bool a.isNone) w := fun w a n c n' c' => Lib.run_eql_slice_nil w _ _ a n c n' c' Tryz.underlying23
  have A : Hid (∀ j u, (allS g n)[j]? = some u → w.cell? ((⟨b, off, none⟩ : Addr).add j) = some u) := rowS_cells h
  clear h
  go_enter Tryz.func39, Tryz.ntmps39
  go_wp2_with (at_builtin; refine wpList_append_own _ rfl _ _ 23 rfl w.heap.size 40 i0 (.agg #[.string ⟨#[]⟩, .int .i64 0, .int .i64 0, .int .i64 0, .int .i64 0, .int .i64 0, .int .i64 0]) 7 64 Tryz.underlying23 hi hz0 hz1 hz2 rfl (by decide) _ _ _ rfl (World.ownsRow_made w #[] 0 (Nat.le_refl _) (Nat.zero_le _) rfl) ⟨b, off, none⟩ n cap (allS g n) rfl ?qc1 ?qc2 ?qc3 ?qc4 ?qc5 ?qc6 ?_)
  case qc1 => exact allS_length g n
  case qc2 =>
    intro j u hj
    have := A.out j u hj
    rw [Addr.add_lit] at this ⊢
    exact Lib.cell?_alloc_some _ this
  case qc3 => exact allS_one g n
  case qc4 => unfold maxLen; omega
  case qc5 => omega
  case qc6 => simp
  intro v' w1 hown hgrow hnil
  have hown' : Hid (w1.ownsRow w.heap.size 40 7 v' n (allS g n)) := by
    show w1.ownsRow w.heap.size 40 7 v' n (allS g n)
    simpa using hown
  clear hown hnil
  go_wp2
  go_ret
  exact ⟨v', rfl, hown'.out, ((Below.refl _ w).alloc (Nat.le_refl _) _).grown hgrow (by simp) (by intro k hk; simp [Value.ownBlock] at hk; omega)⟩
set_option maxHeartbeats 1000000 in
theorem cloneS_nil (w : World) :
    Calls Tryz.prog 39 #[.slice none 0 0] w fun e w' => e = .returned (.slice none 0 0) ∧ w' = w := by
  have q22 : ∀ (w : World) (a : Option Addr) (n c n' c' : Nat), (binOp .eql 23 (.slice a n c) (.slice none n' c')).run Tryz.prog w = .ok (.bool a.isNone) w := fun w a n c n' c' => Lib.run_eql_slice_nil w _ _ a n c n' c' Tryz.underlying23
  go_enter Tryz.func39, Tryz.ntmps39
  go_wp2
  go_ret
  exact ⟨rfl, rfl⟩
end Go.Proofs.YtfphjhmhiaepiaaGreat.RU
/-
  Rows of venues in memory of one's own; contract of slices.Clone at venues.
-/
namespace Go.Proofs.YtfphjhmhiaepiaaGreat.RU
open Go.ChangeShapes Go.WideShapes Go.ChangeAt Go.RowKit Go.Lib

/-- The cells of one venue. -/
def cellsV (x : It) : List Value := [.string x.1, .int .i64 (x.2.1 1), .int .i64 (x.2.1 2), .int .i64 (x.2.1 3), .bool x.2.2]
theorem cellsV_len (g : Nat → It) (i : Nat) : (cellsV (g i)).length = 5 := rfl
theorem cellsV_one (x : It) : ∀ u ∈ cellsV x, u.oneCell' = true := by
  intro u hu
  simp only [cellsV, List.mem_cons, List.not_mem_nil, or_false] at hu
  rcases hu with rfl | rfl | rfl | rfl | rfl <;> rfl
/-- The cells of n of them. -/
def allV (g : Nat → It) (n : Nat) : List Value := flatK (fun i => cellsV (g i)) n
theorem allV_length (g : Nat → It) (n : Nat) : (allV g n).length = n * 5 := flatK_length (cellsV_len g) n
theorem allV_more (g : Nat → It) (n : Nat) : allV g (n + 1) = allV g n ++ cellsV (g n) := rfl
theorem allV_one (g : Nat → It) (n : Nat) : ∀ u ∈ allV g n, u.oneCell' = true := by
  intro u hu
  obtain ⟨i, _, h⟩ := flatK_mem n hu
  exact cellsV_one _ u h
theorem rowV_of_own {w : World} {base : Nat} {e : TypeId} {v : Value} {n : Nat} {g : Nat → It} (h : w.ownsRow base e 5 v n (allV g n)) : RowV w v n g := by
  have hcs := fun q hq => h.cells (g := q) hq
  rcases h.2 with ⟨rfl, rfl⟩ | ⟨q, cap, cur, rfl, _, _, h1, h2, _⟩
  · exact RowV.none w g
  · refine ⟨_, cap, rfl, h1, h2, fun i hi => ⟨q, 0, rfl, ?_, ?_, ?_, ?_, ?_⟩⟩
    · have := hcs q rfl (i * 5 + 0) _ ((flatK_at (cellsV_len g) (by omega) n hi).trans rfl)
      rw [Addr.add_lit] at this
      exact this
    · have := hcs q rfl (i * 5 + 1) _ ((flatK_at (cellsV_len g) (by omega) n hi).trans rfl)
      rw [Addr.add_lit] at this
      exact this
    · have := hcs q rfl (i * 5 + 2) _ ((flatK_at (cellsV_len g) (by omega) n hi).trans rfl)
      rw [Addr.add_lit] at this
      exact this
    · have := hcs q rfl (i * 5 + 3) _ ((flatK_at (cellsV_len g) (by omega) n hi).trans rfl)
      rw [Addr.add_lit] at this
      exact this
    · have := hcs q rfl (i * 5 + 4) _ ((flatK_at (cellsV_len g) (by omega) n hi).trans rfl)
      rw [Addr.add_lit] at this
      exact this
/-- What an own row's cells are, read from a row. -/
theorem rowV_cells {w : World} {b off n cap : Nat} {g : Nat → It} (h : RowV w (.slice (some ⟨b, off, none⟩) n cap) n g) : ∀ j u, (allV g n)[j]? = some u → w.cell? ((⟨b, off, none⟩ : Addr).add j) = some u := by
  obtain ⟨a, cap', e, _, _, h3⟩ := h
  injection e with e1
  subst e1
  intro j u hj
  obtain ⟨i, q, hi, hq, rfl, hu⟩ := flatK_inv (cellsV_len g) n hj
  obtain ⟨b', off', e', c0, c1, c2, c3, c4⟩ := h3 i hi
  injection e' with e'
  injection e' with e1 e2
  subst e1 e2
  rw [Addr.add_lit, ← Nat.add_assoc]
  match q, hq, hu with
  | 0, _, hu => cases hu; exact c0
  | 1, _, hu => cases hu; exact c1
  | 2, _, hu => cases hu; exact c2
  | 3, _, hu => cases hu; exact c3
  | 4, _, hu => cases hu; exact c4
theorem infoV : (Tryz.prog.info? 57).map (fun i => (i.zero, i.size, i.bytes)) = some (some (.agg #[.string ⟨#[]⟩, .int .i64 0, .int .i64 0, .int .i64 0, .bool false]), 5, 48) := by kernel_rfl

set_option maxHeartbeats 2000000 in
set_option maxRecDepth 100000 in
theorem cloneV_any {w : World} {v : Value} {n : Nat} {g : Nat → It} (h : RowV w v n g) (h1 : 1 ≤ n) (h2 : n ≤ 1000000) :
    Calls Tryz.prog 40 #[v] w fun e w' => ∃ v', e = .returned v' ∧ w'.ownsRow w.heap.size 57 5 v' n (allV g n) ∧ Below w.heap.size w w' := by
  obtain ⟨a, cap, rfl, k1, k2, k3⟩ := id h
  obtain ⟨b, off, rfl, _⟩ := k3 0 (by omega)
  clear k3
  obtain ⟨i0, hi, hz0, hz1, hz2⟩ := info_parts infoV
  have q22 : ∀ (w : World) (a : Option Addr) (n c n' c' : Nat), (binOp .eql 24 (.slice a n c) (.slice none n' c')).run Tryz.prog w = .ok (.bool a.isNone) w := fun w a n c n' c' => Lib.run_eql_slice_nil w _ _ a n c n' c' Tryz.underlying24
  have A : Hid (∀ j u, (allV g n)[j]? = some u → w.cell? ((⟨b, off, none⟩ : Addr).add j) = some u) := rowV_cells h
  clear h
  go_enter Tryz.func40, Tryz.ntmps40
  go_wp2_with (at_builtin; refine wpList_append_own _ rfl _ _ 24 rfl w.heap.size 57 i0 (.agg #[.string ⟨#[]⟩, .int .i64 0, .int .i64 0, .int .i64 0, .bool false]) 5 48 Tryz.underlying24 hi hz0 hz1 hz2 rfl (by decide) _ _ _ rfl (World.ownsRow_made w #[] 0 (Nat.le_refl _) (Nat.zero_le _) rfl) ⟨b, off, none⟩ n cap (allV g n) rfl ?qc1 ?qc2 ?qc3 ?qc4 ?qc5 ?qc6 ?_)
  case qc1 => exact allV_length g n
  case qc2 =>
    intro j u hj
    have := A.out j u hj
    rw [Addr.add_lit] at this ⊢
    exact Lib.cell?_alloc_some _ this
  case qc3 => exact allV_one g n
  case qc4 => unfold maxLen; omega
  case qc5 => omega
  case qc6 => simp
  intro v' w1 hown hgrow hnil
  have hown' : Hid (w1.ownsRow w.heap.size 57 5 v' n (allV g n)) := by
    show w1.ownsRow w.heap.size 57 5 v' n (allV g n)
    simpa using hown
  clear hown hnil
  go_wp2
  go_ret
  exact ⟨v', rfl, hown'.out, ((Below.refl _ w).alloc (Nat.le_refl _) _).grown hgrow (by simp) (by intro k hk; simp [Value.ownBlock] at hk; omega)⟩
set_option maxHeartbeats 1000000 in
theorem cloneV_nil (w : World) :
    Calls Tryz.prog 40 #[.slice none 0 0] w fun e w' => e = .returned (.slice none 0 0) ∧ w' = w := by
  have q22 : ∀ (w : World) (a : Option Addr) (n c n' c' : Nat), (binOp .eql 24 (.slice a n c) (.slice none n' c')).run Tryz.prog w = .ok (.bool a.isNone) w := fun w a n c n' c' => Lib.run_eql_slice_nil w _ _ a n c n' c' Tryz.underlying24
  go_enter Tryz.func40, Tryz.ntmps40
  go_wp2
  go_ret
  exact ⟨rfl, rfl⟩
end Go.Proofs.YtfphjhmhiaepiaaGreat.RU
/-
  Nine cells of a block; contract of rules' copied: a setup whose lists are memory of its own.
-/
namespace Go.Proofs.YtfphjhmhiaepiaaGreat.RU
open Go.ChangeShapes Go.WideShapes Go.ChangeAt Go.RowKit Go.Lib

/-- Block b holds the nine values that f tells, and may be written. -/
structure Box9 (w : World) (b : Nat) (f : Nat → Value) : Prop where
  cell : ∀ j, j < 9 → w.cell? ⟨b, j, none⟩ = some (f j)
  fz : ∀ j, w.frozen? ⟨b, j, none⟩ = false
theorem Box9.lt {w : World} {b : Nat} {f : Nat → Value} (h : Box9 w b f) : b < w.heap.size := World.block_lt_of_cell? _ _ (h.cell 0 (by omega))
theorem Box9.kept {w w' : World} {b : Nat} {f : Nat → Value} {S : Nat → Prop} (h : Box9 w b f) (k : But S w w') (hS : ¬ S b) : Box9 w' b f :=
  ⟨fun j hj => (k.cell h.lt hS).trans (h.cell j hj), fun j => (k.frozen h.lt hS).trans (h.fz j)⟩
theorem Box9.still {w w' : World} {b : Nat} {f : Nat → Value} (h : Box9 w b f) (k : Below w.heap.size w w') : Box9 w' b f := h.kept (S := fun _ => False) (But.of_below k) id
theorem Box9.set {w : World} {b : Nat} {f : Nat → Value} (h : Box9 w b f) {i : Nat} (hi : i < 9) (v : Value) : Box9 (w.setCell ⟨b, i, none⟩ v) b (upd f i v) := by
  refine ⟨fun j hj => ?_, fun j => by rw [World.frozen?_setCell]; exact h.fz j⟩
  by_cases e : j = i
  · subst e
    rw [upd_same]
    exact World.cell?_setCell_same _ _ _ (h.cell j hj)
  · rw [upd_other _ _ e, World.cell?_setCell_other _ _ _ _ (by simp only [ne_eq, Addr.mk.injEq]; omega)]
    exact h.cell j hj
/-- A setup's nine values. -/
def setF (a1 a2 a3 : Option Addr) (c1 c2 c3 : Nat) (s : Stp) : Nat → Value
  | 0 => .slice a1 s.nA c1
  | 1 => .slice a2 s.nS c2
  | 2 => .slice a3 s.nV c3
  | j => .int .i64 (s.P j)
/-- Nine values put into a block one by one. -/
def put9 (w : World) (r : Nat) (f : Nat → Value) : World := (((((((((w.setCell ⟨r, 0, none⟩ (f 0)).setCell ⟨r, 1, none⟩ (f 1)).setCell ⟨r, 2, none⟩ (f 2)).setCell ⟨r, 3, none⟩ (f 3)).setCell ⟨r, 4, none⟩ (f 4)).setCell ⟨r, 5, none⟩ (f 5)).setCell ⟨r, 6, none⟩ (f 6)).setCell ⟨r, 7, none⟩ (f 7)).setCell ⟨r, 8, none⟩ (f 8))
theorem put_cell9 {w : World} {r j j' : Nat} {v x : Value} (h : w.cell? ⟨r, j, none⟩ = some x) (hj : j ≠ j') : (w.setCell ⟨r, j', none⟩ v).cell? ⟨r, j, none⟩ = some x :=
  (World.cell?_setCell_other _ _ _ _ (by simp only [ne_eq, Addr.mk.injEq]; omega)).trans h
theorem put9_at {w : World} {r : Nat} {g : Nat → Value} (h' : Box9 w r g) (f : Nat → Value) : Box9 (put9 w r f) r f := by
  have h := h'.cell
  refine ⟨fun j hj => ?_, fun j => by unfold put9; simp only [World.frozen?_setCell]; exact h'.fz j⟩
  unfold put9
  rcases (show j = 0 ∨ j = 1 ∨ j = 2 ∨ j = 3 ∨ j = 4 ∨ j = 5 ∨ j = 6 ∨ j = 7 ∨ j = 8 by omega) with rfl | rfl | rfl | rfl | rfl | rfl | rfl | rfl | rfl
  · exact put_cell9 (put_cell9 (put_cell9 (put_cell9 (put_cell9 (put_cell9 (put_cell9 (put_cell9 (World.cell?_setCell_same _ _ _ (h 0 (by omega))) (by omega)) (by omega)) (by omega)) (by omega)) (by omega)) (by omega)) (by omega)) (by omega)
  · exact put_cell9 (put_cell9 (put_cell9 (put_cell9 (put_cell9 (put_cell9 (put_cell9 (World.cell?_setCell_same _ _ _ (put_cell9 (h 1 (by omega)) (by omega))) (by omega)) (by omega)) (by omega)) (by omega)) (by omega)) (by omega)) (by omega)
  · exact put_cell9 (put_cell9 (put_cell9 (put_cell9 (put_cell9 (put_cell9 (World.cell?_setCell_same _ _ _ (put_cell9 (put_cell9 (h 2 (by omega)) (by omega)) (by omega))) (by omega)) (by omega)) (by omega)) (by omega)) (by omega)) (by omega)
  · exact put_cell9 (put_cell9 (put_cell9 (put_cell9 (put_cell9 (World.cell?_setCell_same _ _ _ (put_cell9 (put_cell9 (put_cell9 (h 3 (by omega)) (by omega)) (by omega)) (by omega))) (by omega)) (by omega)) (by omega)) (by omega)) (by omega)
  · exact put_cell9 (put_cell9 (put_cell9 (put_cell9 (World.cell?_setCell_same _ _ _ (put_cell9 (put_cell9 (put_cell9 (put_cell9 (h 4 (by omega)) (by omega)) (by omega)) (by omega)) (by omega))) (by omega)) (by omega)) (by omega)) (by omega)
  · exact put_cell9 (put_cell9 (put_cell9 (World.cell?_setCell_same _ _ _ (put_cell9 (put_cell9 (put_cell9 (put_cell9 (put_cell9 (h 5 (by omega)) (by omega)) (by omega)) (by omega)) (by omega)) (by omega))) (by omega)) (by omega)) (by omega)
  · exact put_cell9 (put_cell9 (World.cell?_setCell_same _ _ _ (put_cell9 (put_cell9 (put_cell9 (put_cell9 (put_cell9 (put_cell9 (h 6 (by omega)) (by omega)) (by omega)) (by omega)) (by omega)) (by omega)) (by omega))) (by omega)) (by omega)
  · exact put_cell9 (World.cell?_setCell_same _ _ _ (put_cell9 (put_cell9 (put_cell9 (put_cell9 (put_cell9 (put_cell9 (put_cell9 (h 7 (by omega)) (by omega)) (by omega)) (by omega)) (by omega)) (by omega)) (by omega)) (by omega))) (by omega)
  · exact World.cell?_setCell_same _ _ _ (put_cell9 (put_cell9 (put_cell9 (put_cell9 (put_cell9 (put_cell9 (put_cell9 (put_cell9 (h 8 (by omega)) (by omega)) (by omega)) (by omega)) (by omega)) (by omega)) (by omega)) (by omega)) (by omega))
theorem put9_but (w : World) (r : Nat) (f : Nat → Value) : But (fun j => j = r) w (put9 w r f) := by
  unfold put9
  exact (((((((((But.refl (fun j => j = r) w).setCell r 0 _ (fun _ => rfl)).setCell r 1 _ (fun _ => rfl)).setCell r 2 _ (fun _ => rfl)).setCell r 3 _ (fun _ => rfl)).setCell r 4 _ (fun _ => rfl)).setCell r 5 _ (fun _ => rfl)).setCell r 6 _ (fun _ => rfl)).setCell r 7 _ (fun _ => rfl)).setCell r 8 _ (fun _ => rfl)
theorem box9_new (w : World) (a1 a2 a3 : Option Addr) (c1 c2 c3 : Nat) (s : Stp) (t : TypeId) : Box9 (w.alloc (.cells #[.slice a1 s.nA c1, .slice a2 s.nS c2, .slice a3 s.nV c3, .int .i64 (s.P 3), .int .i64 (s.P 4), .int .i64 (s.P 5), .int .i64 (s.P 6), .int .i64 (s.P 7), .int .i64 (s.P 8)] t)) w.heap.size (setF a1 a2 a3 c1 c2 c3 s) := by
  refine ⟨fun j hj => ?_, fun j => by simp⟩
  rcases (show j = 0 ∨ j = 1 ∨ j = 2 ∨ j = 3 ∨ j = 4 ∨ j = 5 ∨ j = 6 ∨ j = 7 ∨ j = 8 by omega) with rfl | rfl | rfl | rfl | rfl | rfl | rfl | rfl | rfl <;> simp [setF]
/-- An own row that may begin lower. -/
theorem own_base {w : World} {base base' : Nat} {e : TypeId} {size : Nat} {v : Value} {n : Nat} {xs : List Value} (h : w.ownsRow base e size v n xs) (hb : base' ≤ base) : w.ownsRow base' e size v n xs := by
  refine ⟨h.1, ?_⟩
  rcases h.2 with hn | ⟨g, cap, cur, rfl, h1, rest⟩
  · exact .inl hn
  · exact .inr ⟨g, cap, cur, rfl, Nat.le_trans hb h1, rest⟩
/-- The three lists of a setup lie in memory from B on that is nobody else's. -/
structure SetOwn (w : World) (B : Nat) (a1 a2 a3 : Option Addr) (c1 c2 c3 : Nat) (s : Stp) : Prop where
  oa : w.ownsRow B 55 2 (.slice a1 s.nA c1) s.nA (allA s.A s.nA)
  os : w.ownsRow B 40 7 (.slice a2 s.nS c2) s.nS (allS s.S s.nS)
  ov : w.ownsRow B 57 5 (.slice a3 s.nV c3) s.nV (allV s.V s.nV)
theorem SetOwn.into {w : World} {B : Nat} {a1 a2 a3 : Option Addr} {c1 c2 c3 : Nat} {s : Stp} (h : SetOwn w B a1 a2 a3 c1 c2 c3 s) : SetIn w a1 a2 a3 c1 c2 c3 s := ⟨rowA_of_own h.oa, rowS_of_own h.os, rowV_of_own h.ov⟩
theorem SetOwn.kept {w w' : World} {B : Nat} {a1 a2 a3 : Option Addr} {c1 c2 c3 : Nat} {s : Stp} {S : Nat → Prop} (h : SetOwn w B a1 a2 a3 c1 c2 c3 s) (k : But S w w') (hS : ∀ i, B ≤ i → ¬ S i) : SetOwn w' B a1 a2 a3 c1 c2 c3 s :=
  ⟨own_kept h.oa k (fun g hg => hS g (h.oa.lt g hg).1), own_kept h.os k (fun g hg => hS g (h.os.lt g hg).1), own_kept h.ov k (fun g hg => hS g (h.ov.lt g hg).1)⟩
theorem SetOwn.still {w w' : World} {B : Nat} {a1 a2 a3 : Option Addr} {c1 c2 c3 : Nat} {s : Stp} (h : SetOwn w B a1 a2 a3 c1 c2 c3 s) (k : Below w.heap.size w w') : SetOwn w' B a1 a2 a3 c1 c2 c3 s := h.kept (S := fun _ => False) (But.of_below k) (fun _ _ => id)
/-- The counts of a setup that copied is asked for. -/
def Cnt (s : Stp) : Prop := (1 ≤ s.nA ∧ s.nA ≤ 1000) ∧ (1 ≤ s.nS ∧ s.nS ≤ 1000) ∧ (1 ≤ s.nV ∧ s.nV ≤ 1000)
set_option maxRecDepth 100000 in
set_option maxHeartbeats 8000000 in
theorem copied_any {w : World} {a1 a2 a3 : Option Addr} {c1 c2 c3 : Nat} {s : Stp} (h : SetIn w a1 a2 a3 c1 c2 c3 s) (hc : Cnt s) :
    Calls Tryz.prog 24 #[.agg #[.slice a1 s.nA c1, .slice a2 s.nS c2, .slice a3 s.nV c3, .int .i64 (s.P 3), .int .i64 (s.P 4), .int .i64 (s.P 5), .int .i64 (s.P 6), .int .i64 (s.P 7), .int .i64 (s.P 8)]] w fun e w' => ∃ x1 x2 x3 y1 y2 y3, e = .returned (.agg #[.slice x1 s.nA y1, .slice x2 s.nS y2, .slice x3 s.nV y3, .int .i64 (s.P 3), .int .i64 (s.P 4), .int .i64 (s.P 5), .int .i64 (s.P 6), .int .i64 (s.P 7), .int .i64 (s.P 8)]) ∧ SetOwn w' w.heap.size x1 x2 x3 y1 y2 y3 s ∧ Below w.heap.size w w' := by
  have HB0 : Hid (Below w.heap.size w ((w.alloc (.cells #[.slice a1 s.nA c1, .slice a2 s.nS c2, .slice a3 s.nV c3, .int .i64 (s.P 3), .int .i64 (s.P 4), .int .i64 (s.P 5), .int .i64 (s.P 6), .int .i64 (s.P 7), .int .i64 (s.P 8)] 26)).alloc (.cells #[.slice none 0 0, .slice none 0 0, .slice none 0 0, .int .i64 0, .int .i64 0, .int .i64 0, .int .i64 0, .int .i64 0, .int .i64 0] 26))) := ((Below.refl _ _).alloc (Nat.le_refl _) _).alloc (by simp) _
  have X0 : Hid (Box9 ((w.alloc (.cells #[.slice a1 s.nA c1, .slice a2 s.nS c2, .slice a3 s.nV c3, .int .i64 (s.P 3), .int .i64 (s.P 4), .int .i64 (s.P 5), .int .i64 (s.P 6), .int .i64 (s.P 7), .int .i64 (s.P 8)] 26)).alloc (.cells #[.slice none 0 0, .slice none 0 0, .slice none 0 0, .int .i64 0, .int .i64 0, .int .i64 0, .int .i64 0, .int .i64 0, .int .i64 0] 26)) w.heap.size (setF a1 a2 a3 c1 c2 c3 s)) := (box9_new w a1 a2 a3 c1 c2 c3 s _).still ((Below.refl _ _).alloc (Nat.le_refl _) _)
  have Y0 : Hid (Box9 ((w.alloc (.cells #[.slice a1 s.nA c1, .slice a2 s.nS c2, .slice a3 s.nV c3, .int .i64 (s.P 3), .int .i64 (s.P 4), .int .i64 (s.P 5), .int .i64 (s.P 6), .int .i64 (s.P 7), .int .i64 (s.P 8)] 26)).alloc (.cells #[.slice none 0 0, .slice none 0 0, .slice none 0 0, .int .i64 0, .int .i64 0, .int .i64 0, .int .i64 0, .int .i64 0, .int .i64 0] 26)) (w.heap.size + 1) (fun j => if j < 3 then .slice none 0 0 else .int .i64 0)) := by
    refine ⟨fun j hj => ?_, fun j => by simp⟩
    rcases (show j = 0 ∨ j = 1 ∨ j = 2 ∨ j = 3 ∨ j = 4 ∨ j = 5 ∨ j = 6 ∨ j = 7 ∨ j = 8 by omega) with rfl | rfl | rfl | rfl | rfl | rfl | rfl | rfl | rfl <;> simp
  have hs0 : Hid (w.heap.size + 2 ≤ (((w.alloc (.cells #[.slice a1 s.nA c1, .slice a2 s.nS c2, .slice a3 s.nV c3, .int .i64 (s.P 3), .int .i64 (s.P 4), .int .i64 (s.P 5), .int .i64 (s.P 6), .int .i64 (s.P 7), .int .i64 (s.P 8)] 26)).alloc (.cells #[.slice none 0 0, .slice none 0 0, .slice none 0 0, .int .i64 0, .int .i64 0, .int .i64 0, .int .i64 0, .int .i64 0, .int .i64 0] 26))).heap.size) := by show w.heap.size + 2 ≤ _; simp
  have F1 : ∀ W, Below w.heap.size w W → Calls Tryz.prog 38 #[.slice a1 s.nA c1] W fun e w' => ∃ v', e = .returned v' ∧ w'.ownsRow W.heap.size 55 2 v' s.nA (allA s.A s.nA) ∧ Below W.heap.size W w' := fun W hW => cloneA_any (h.ra.below hW (Nat.le_refl _)) (by have := hc.1.1; omega) (by have := hc.1.2; omega)
  have F2 : ∀ W, Below w.heap.size w W → Calls Tryz.prog 39 #[.slice a2 s.nS c2] W fun e w' => ∃ v', e = .returned v' ∧ w'.ownsRow W.heap.size 40 7 v' s.nS (allS s.S s.nS) ∧ Below W.heap.size W w' := fun W hW => cloneS_any (h.rs.below hW (Nat.le_refl _)) (by have := hc.2.1.1; omega) (by have := hc.2.1.2; omega)
  have F3 : ∀ W, Below w.heap.size w W → Calls Tryz.prog 40 #[.slice a3 s.nV c3] W fun e w' => ∃ v', e = .returned v' ∧ w'.ownsRow W.heap.size 57 5 v' s.nV (allV s.V s.nV) ∧ Below W.heap.size W w' := fun W hW => cloneV_any (h.rv.below hW (Nat.le_refl _)) (by have := hc.2.2.1; omega) (by have := hc.2.2.2; omega)
  clear h hc
  go_enter Tryz.func24, Tryz.ntmps24
  go_wp2_with fail
  refine (F1 _ HB0.out).mono ?_
  rintro e w1 ⟨v1, rfl, o1, b1⟩
  obtain ⟨x1, y1, rfl⟩ := own_shape o1
  have Q1 : Hid (Box9 w1 w.heap.size (setF a1 a2 a3 c1 c2 c3 s)) := X0.out.still b1
  have Y1 : Hid (Box9 w1 (w.heap.size + 1) (fun j => if j < 3 then .slice none 0 0 else .int .i64 0)) := Y0.out.still b1
  have d0 : w1.cell? ⟨w.heap.size, 0, none⟩ = some (.slice a1 s.nA c1) := Q1.out.cell 0 (by omega)
  have d1 : w1.cell? ⟨w.heap.size, 1, none⟩ = some (.slice a2 s.nS c2) := Q1.out.cell 1 (by omega)
  have d2 : w1.cell? ⟨w.heap.size, 2, none⟩ = some (.slice a3 s.nV c3) := Q1.out.cell 2 (by omega)
  have d3 : w1.cell? ⟨w.heap.size, 3, none⟩ = some (.int .i64 (s.P 3)) := Q1.out.cell 3 (by omega)
  have d4 : w1.cell? ⟨w.heap.size, 4, none⟩ = some (.int .i64 (s.P 4)) := Q1.out.cell 4 (by omega)
  have d5 : w1.cell? ⟨w.heap.size, 5, none⟩ = some (.int .i64 (s.P 5)) := Q1.out.cell 5 (by omega)
  have d6 : w1.cell? ⟨w.heap.size, 6, none⟩ = some (.int .i64 (s.P 6)) := Q1.out.cell 6 (by omega)
  have d7 : w1.cell? ⟨w.heap.size, 7, none⟩ = some (.int .i64 (s.P 7)) := Q1.out.cell 7 (by omega)
  have d8 : w1.cell? ⟨w.heap.size, 8, none⟩ = some (.int .i64 (s.P 8)) := Q1.out.cell 8 (by omega)
  have z0 : w1.frozen? ⟨w.heap.size, 0, none⟩ = false := Q1.out.fz 0
  have X1 : Hid (Box9 (w1.setCell ⟨w.heap.size, 0, none⟩ (.slice x1 s.nA y1)) w.heap.size (upd (setF a1 a2 a3 c1 c2 c3 s) 0 (.slice x1 s.nA y1))) := Q1.out.set (by omega) _
  have U1 : Hid (But (fun k => k = w.heap.size) w1 (w1.setCell ⟨w.heap.size, 0, none⟩ (.slice x1 s.nA y1))) := (But.refl _ _).setCell _ _ _ (fun _ => rfl)
  have YY1 : Hid (Box9 (w1.setCell ⟨w.heap.size, 0, none⟩ (.slice x1 s.nA y1)) (w.heap.size + 1) (fun j => if j < 3 then .slice none 0 0 else .int .i64 0)) := Y1.out.kept U1.out (by omega)
  have HB1 : Hid (Below w.heap.size w (w1.setCell ⟨w.heap.size, 0, none⟩ (.slice x1 s.nA y1))) := (HB0.out.trans (b1.mono HB0.out.size)).trans (U1.out.below (Nat.le_trans HB0.out.size b1.size) (fun i e => by omega))
  have hs1 : Hid (w.heap.size + 2 ≤ (w1.setCell ⟨w.heap.size, 0, none⟩ (.slice x1 s.nA y1)).heap.size) := by show w.heap.size + 2 ≤ _; have := hs0.out; have := b1.size; simp only [World.size_setCell]; omega
  have O1_1 : Hid ((w1.setCell ⟨w.heap.size, 0, none⟩ (.slice x1 s.nA y1)).ownsRow (w.heap.size + 2) 55 2 (.slice x1 s.nA y1) s.nA (allA s.A s.nA)) := own_kept (own_base o1 hs0.out) U1.out (fun g hg => by have := (o1.lt g hg).1; have := hs0.out; omega)
  clear o1 b1 U1 Q1
  go_wp2_with fail
  refine (F2 _ HB1.out).mono ?_
  rintro e w2 ⟨v2, rfl, o2, b2⟩
  obtain ⟨x2, y2, rfl⟩ := own_shape o2
  have Q2 : Hid (Box9 w2 w.heap.size (upd (setF a1 a2 a3 c1 c2 c3 s) 0 (.slice x1 s.nA y1))) := X1.out.still b2
  have Y2 : Hid (Box9 w2 (w.heap.size + 1) (fun j => if j < 3 then .slice none 0 0 else .int .i64 0)) := YY1.out.still b2
  clear d0 d1 d2 d3 d4 d5 d6 d7 d8 z0
  have d0 : w2.cell? ⟨w.heap.size, 0, none⟩ = some (.slice x1 s.nA y1) := Q2.out.cell 0 (by omega)
  have d1 : w2.cell? ⟨w.heap.size, 1, none⟩ = some (.slice a2 s.nS c2) := Q2.out.cell 1 (by omega)
  have d2 : w2.cell? ⟨w.heap.size, 2, none⟩ = some (.slice a3 s.nV c3) := Q2.out.cell 2 (by omega)
  have d3 : w2.cell? ⟨w.heap.size, 3, none⟩ = some (.int .i64 (s.P 3)) := Q2.out.cell 3 (by omega)
  have d4 : w2.cell? ⟨w.heap.size, 4, none⟩ = some (.int .i64 (s.P 4)) := Q2.out.cell 4 (by omega)
  have d5 : w2.cell? ⟨w.heap.size, 5, none⟩ = some (.int .i64 (s.P 5)) := Q2.out.cell 5 (by omega)
  have d6 : w2.cell? ⟨w.heap.size, 6, none⟩ = some (.int .i64 (s.P 6)) := Q2.out.cell 6 (by omega)
  have d7 : w2.cell? ⟨w.heap.size, 7, none⟩ = some (.int .i64 (s.P 7)) := Q2.out.cell 7 (by omega)
  have d8 : w2.cell? ⟨w.heap.size, 8, none⟩ = some (.int .i64 (s.P 8)) := Q2.out.cell 8 (by omega)
  have z0 : w2.frozen? ⟨w.heap.size, 1, none⟩ = false := Q2.out.fz 1
  have X2 : Hid (Box9 (w2.setCell ⟨w.heap.size, 1, none⟩ (.slice x2 s.nS y2)) w.heap.size (upd (upd (setF a1 a2 a3 c1 c2 c3 s) 0 (.slice x1 s.nA y1)) 1 (.slice x2 s.nS y2))) := Q2.out.set (by omega) _
  have U2 : Hid (But (fun k => k = w.heap.size) w2 (w2.setCell ⟨w.heap.size, 1, none⟩ (.slice x2 s.nS y2))) := (But.refl _ _).setCell _ _ _ (fun _ => rfl)
  have YY2 : Hid (Box9 (w2.setCell ⟨w.heap.size, 1, none⟩ (.slice x2 s.nS y2)) (w.heap.size + 1) (fun j => if j < 3 then .slice none 0 0 else .int .i64 0)) := Y2.out.kept U2.out (by omega)
  have HB2 : Hid (Below w.heap.size w (w2.setCell ⟨w.heap.size, 1, none⟩ (.slice x2 s.nS y2))) := (HB1.out.trans (b2.mono HB1.out.size)).trans (U2.out.below (Nat.le_trans HB1.out.size b2.size) (fun i e => by omega))
  have hs2 : Hid (w.heap.size + 2 ≤ (w2.setCell ⟨w.heap.size, 1, none⟩ (.slice x2 s.nS y2)).heap.size) := by show w.heap.size + 2 ≤ _; have := hs1.out; have := b2.size; simp only [World.size_setCell]; omega
  have O1_2 : Hid ((w2.setCell ⟨w.heap.size, 1, none⟩ (.slice x2 s.nS y2)).ownsRow (w.heap.size + 2) 55 2 (.slice x1 s.nA y1) s.nA (allA s.A s.nA)) := own_kept (own_below O1_1.out b2) U2.out (fun g hg => by have := (O1_1.out.lt g hg).1; omega)
  have O2_2 : Hid ((w2.setCell ⟨w.heap.size, 1, none⟩ (.slice x2 s.nS y2)).ownsRow (w.heap.size + 2) 40 7 (.slice x2 s.nS y2) s.nS (allS s.S s.nS)) := own_kept (own_base o2 hs1.out) U2.out (fun g hg => by have := (o2.lt g hg).1; have := hs1.out; omega)
  clear o2 b2 U2 Q2
  go_wp2_with fail
  refine (F3 _ HB2.out).mono ?_
  rintro e w3 ⟨v3, rfl, o3, b3⟩
  obtain ⟨x3, y3, rfl⟩ := own_shape o3
  have Q3 : Hid (Box9 w3 w.heap.size (upd (upd (setF a1 a2 a3 c1 c2 c3 s) 0 (.slice x1 s.nA y1)) 1 (.slice x2 s.nS y2))) := X2.out.still b3
  have Y3 : Hid (Box9 w3 (w.heap.size + 1) (fun j => if j < 3 then .slice none 0 0 else .int .i64 0)) := YY2.out.still b3
  clear d0 d1 d2 d3 d4 d5 d6 d7 d8 z0
  have d0 : w3.cell? ⟨w.heap.size, 0, none⟩ = some (.slice x1 s.nA y1) := Q3.out.cell 0 (by omega)
  have d1 : w3.cell? ⟨w.heap.size, 1, none⟩ = some (.slice x2 s.nS y2) := Q3.out.cell 1 (by omega)
  have d2 : w3.cell? ⟨w.heap.size, 2, none⟩ = some (.slice a3 s.nV c3) := Q3.out.cell 2 (by omega)
  have d3 : w3.cell? ⟨w.heap.size, 3, none⟩ = some (.int .i64 (s.P 3)) := Q3.out.cell 3 (by omega)
  have d4 : w3.cell? ⟨w.heap.size, 4, none⟩ = some (.int .i64 (s.P 4)) := Q3.out.cell 4 (by omega)
  have d5 : w3.cell? ⟨w.heap.size, 5, none⟩ = some (.int .i64 (s.P 5)) := Q3.out.cell 5 (by omega)
  have d6 : w3.cell? ⟨w.heap.size, 6, none⟩ = some (.int .i64 (s.P 6)) := Q3.out.cell 6 (by omega)
  have d7 : w3.cell? ⟨w.heap.size, 7, none⟩ = some (.int .i64 (s.P 7)) := Q3.out.cell 7 (by omega)
  have d8 : w3.cell? ⟨w.heap.size, 8, none⟩ = some (.int .i64 (s.P 8)) := Q3.out.cell 8 (by omega)
  have z0 : w3.frozen? ⟨w.heap.size, 2, none⟩ = false := Q3.out.fz 2
  have X3 : Hid (Box9 (w3.setCell ⟨w.heap.size, 2, none⟩ (.slice x3 s.nV y3)) w.heap.size (upd (upd (upd (setF a1 a2 a3 c1 c2 c3 s) 0 (.slice x1 s.nA y1)) 1 (.slice x2 s.nS y2)) 2 (.slice x3 s.nV y3))) := Q3.out.set (by omega) _
  have U3 : Hid (But (fun k => k = w.heap.size) w3 (w3.setCell ⟨w.heap.size, 2, none⟩ (.slice x3 s.nV y3))) := (But.refl _ _).setCell _ _ _ (fun _ => rfl)
  have YY3 : Hid (Box9 (w3.setCell ⟨w.heap.size, 2, none⟩ (.slice x3 s.nV y3)) (w.heap.size + 1) (fun j => if j < 3 then .slice none 0 0 else .int .i64 0)) := Y3.out.kept U3.out (by omega)
  have HB3 : Hid (Below w.heap.size w (w3.setCell ⟨w.heap.size, 2, none⟩ (.slice x3 s.nV y3))) := (HB2.out.trans (b3.mono HB2.out.size)).trans (U3.out.below (Nat.le_trans HB2.out.size b3.size) (fun i e => by omega))
  have hs3 : Hid (w.heap.size + 2 ≤ (w3.setCell ⟨w.heap.size, 2, none⟩ (.slice x3 s.nV y3)).heap.size) := by show w.heap.size + 2 ≤ _; have := hs2.out; have := b3.size; simp only [World.size_setCell]; omega
  have O1_3 : Hid ((w3.setCell ⟨w.heap.size, 2, none⟩ (.slice x3 s.nV y3)).ownsRow (w.heap.size + 2) 55 2 (.slice x1 s.nA y1) s.nA (allA s.A s.nA)) := own_kept (own_below O1_2.out b3) U3.out (fun g hg => by have := (O1_2.out.lt g hg).1; omega)
  have O2_3 : Hid ((w3.setCell ⟨w.heap.size, 2, none⟩ (.slice x3 s.nV y3)).ownsRow (w.heap.size + 2) 40 7 (.slice x2 s.nS y2) s.nS (allS s.S s.nS)) := own_kept (own_below O2_2.out b3) U3.out (fun g hg => by have := (O2_2.out.lt g hg).1; omega)
  have O3_3 : Hid ((w3.setCell ⟨w.heap.size, 2, none⟩ (.slice x3 s.nV y3)).ownsRow (w.heap.size + 2) 57 5 (.slice x3 s.nV y3) s.nV (allV s.V s.nV)) := own_kept (own_base o3 hs2.out) U3.out (fun g hg => by have := (o3.lt g hg).1; have := hs2.out; omega)
  clear o3 b3 U3 Q3
  have P : Hid (Box9 (put9 (w3.setCell ⟨w.heap.size, 2, none⟩ (.slice x3 s.nV y3)) (w.heap.size + 1) (setF x1 x2 x3 y1 y2 y3 s)) (w.heap.size + 1) (setF x1 x2 x3 y1 y2 y3 s)) := put9_at YY3.out _
  have PB : Hid (But (fun j => j = w.heap.size + 1) (w3.setCell ⟨w.heap.size, 2, none⟩ (.slice x3 s.nV y3)) (put9 (w3.setCell ⟨w.heap.size, 2, none⟩ (.slice x3 s.nV y3)) (w.heap.size + 1) (setF x1 x2 x3 y1 y2 y3 s))) := put9_but _ _ _
  have r0 : w3.cell? ⟨w.heap.size + 1, 0, none⟩ = some (.slice none 0 0) := Y3.out.cell 0 (by omega)
  have r1 : w3.cell? ⟨w.heap.size + 1, 1, none⟩ = some (.slice none 0 0) := Y3.out.cell 1 (by omega)
  have r2 : w3.cell? ⟨w.heap.size + 1, 2, none⟩ = some (.slice none 0 0) := Y3.out.cell 2 (by omega)
  have r3 : w3.cell? ⟨w.heap.size + 1, 3, none⟩ = some (.int .i64 0) := Y3.out.cell 3 (by omega)
  have r4 : w3.cell? ⟨w.heap.size + 1, 4, none⟩ = some (.int .i64 0) := Y3.out.cell 4 (by omega)
  have r5 : w3.cell? ⟨w.heap.size + 1, 5, none⟩ = some (.int .i64 0) := Y3.out.cell 5 (by omega)
  have r6 : w3.cell? ⟨w.heap.size + 1, 6, none⟩ = some (.int .i64 0) := Y3.out.cell 6 (by omega)
  have r7 : w3.cell? ⟨w.heap.size + 1, 7, none⟩ = some (.int .i64 0) := Y3.out.cell 7 (by omega)
  have r8 : w3.cell? ⟨w.heap.size + 1, 8, none⟩ = some (.int .i64 0) := Y3.out.cell 8 (by omega)
  have z1 : ∀ j, w3.frozen? ⟨w.heap.size + 1, j, none⟩ = false := Y3.out.fz
  unfold put9 at P PB
  simp only [setF] at P PB
  go_wp2_with fail
  generalize hV : World.setCell _ ⟨w.heap.size + 1, 8, none⟩ _ = V
  rw [hV] at P PB
  have BV : Below w.heap.size w V := HB3.out.trans (PB.out.below HB3.out.size (fun i e => by omega))
  have p0 : V.cell? ⟨w.heap.size + 1, 0, none⟩ = some (.slice x1 s.nA y1) := P.out.cell 0 (by omega)
  have p1 : V.cell? ⟨w.heap.size + 1, 1, none⟩ = some (.slice x2 s.nS y2) := P.out.cell 1 (by omega)
  have p2 : V.cell? ⟨w.heap.size + 1, 2, none⟩ = some (.slice x3 s.nV y3) := P.out.cell 2 (by omega)
  have p3 : V.cell? ⟨w.heap.size + 1, 3, none⟩ = some (.int .i64 (s.P 3)) := P.out.cell 3 (by omega)
  have p4 : V.cell? ⟨w.heap.size + 1, 4, none⟩ = some (.int .i64 (s.P 4)) := P.out.cell 4 (by omega)
  have p5 : V.cell? ⟨w.heap.size + 1, 5, none⟩ = some (.int .i64 (s.P 5)) := P.out.cell 5 (by omega)
  have p6 : V.cell? ⟨w.heap.size + 1, 6, none⟩ = some (.int .i64 (s.P 6)) := P.out.cell 6 (by omega)
  have p7 : V.cell? ⟨w.heap.size + 1, 7, none⟩ = some (.int .i64 (s.P 7)) := P.out.cell 7 (by omega)
  have p8 : V.cell? ⟨w.heap.size + 1, 8, none⟩ = some (.int .i64 (s.P 8)) := P.out.cell 8 (by omega)
  refine bodyPost_ret (v := .agg #[.slice x1 s.nA y1, .slice x2 s.nS y2, .slice x3 s.nV y3, .int .i64 (s.P 3), .int .i64 (s.P 4), .int .i64 (s.P 5), .int .i64 (s.P 6), .int .i64 (s.P 7), .int .i64 (s.P 8)]) (by simp [results, Tryz.results24, go_sem, p0, p1, p2, p3, p4, p5, p6, p7, p8]) rfl ?_
  refine ⟨x1, x2, x3, y1, y2, y3, rfl, ⟨?_, ?_, ?_⟩, BV⟩
  · exact own_base (own_kept O1_3.out PB.out (fun g hg => by have := (O1_3.out.lt g hg).1; omega)) (by omega)
  · exact own_base (own_kept O2_3.out PB.out (fun g hg => by have := (O2_3.out.lt g hg).1; omega)) (by omega)
  · exact own_base (own_kept O3_3.out PB.out (fun g hg => by have := (O3_3.out.lt g hg).1; omega)) (by omega)
end Go.Proofs.YtfphjhmhiaepiaaGreat.RU
