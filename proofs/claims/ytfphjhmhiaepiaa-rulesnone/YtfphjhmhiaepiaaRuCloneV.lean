/-
  Rows of venues in memory of one's own; contract of slices.Clone at venues.
-/
import Derived.Test.YtfphjhmhiaepiaaRuFlat
import Derived.Test.YtfphjhmhiaepiaaRuRowV
import Derived.Lib.SliceRun
namespace Go.Proofs.Ytfphjhmhiaepiaa.RU
open Go.ChangeShapes Go.WideShapes Go.ChangeAt Go.RowKit Go.Lib

/-- The cells of one venue. -/
def cellsV (x : It) : List Value := [.string x.1, .int .i64 (x.2.1 1), .int .i64 (x.2.1 2), .int .i64 (x.2.1 3), .bool x.2.2]
theorem cellsV_len (g : Nat → It) (i : Nat) : (cellsV (g i)).length = 5 := rfl
theorem cellsV_one (x : It) : ∀ u ∈ cellsV x, u.oneCell' = true := by
  intro u hu
  simp only [cellsV, List.mem_cons, List.not_mem_nil, or_false] at hu
  rcases hu with rfl | rfl | rfl | rfl | rfl <;> rfl
/-- The cells of n of them. -/
def allV (g : Nat → It) (n : Nat) : List Value := flatK (fun i => cellsV (g i)) n
theorem allV_length (g : Nat → It) (n : Nat) : (allV g n).length = n * 5 := flatK_length (cellsV_len g) n
theorem allV_more (g : Nat → It) (n : Nat) : allV g (n + 1) = allV g n ++ cellsV (g n) := rfl
theorem allV_one (g : Nat → It) (n : Nat) : ∀ u ∈ allV g n, u.oneCell' = true := by
  intro u hu
  obtain ⟨i, _, h⟩ := flatK_mem n hu
  exact cellsV_one _ u h
theorem rowV_of_own {w : World} {base : Nat} {e : TypeId} {v : Value} {n : Nat} {g : Nat → It} (h : w.ownsRow base e 5 v n (allV g n)) : RowV w v n g := by
  have hcs := fun q hq => h.cells (g := q) hq
  rcases h.2 with ⟨rfl, rfl⟩ | ⟨q, cap, cur, rfl, _, _, h1, h2, _⟩
  · exact RowV.none w g
  · refine ⟨_, cap, rfl, h1, h2, fun i hi => ⟨q, 0, rfl, ?_, ?_, ?_, ?_, ?_⟩⟩
    · have := hcs q rfl (i * 5 + 0) _ ((flatK_at (cellsV_len g) (by omega) n hi).trans rfl)
      rw [Addr.add_lit] at this
      exact this
    · have := hcs q rfl (i * 5 + 1) _ ((flatK_at (cellsV_len g) (by omega) n hi).trans rfl)
      rw [Addr.add_lit] at this
      exact this
    · have := hcs q rfl (i * 5 + 2) _ ((flatK_at (cellsV_len g) (by omega) n hi).trans rfl)
      rw [Addr.add_lit] at this
      exact this
    · have := hcs q rfl (i * 5 + 3) _ ((flatK_at (cellsV_len g) (by omega) n hi).trans rfl)
      rw [Addr.add_lit] at this
      exact this
    · have := hcs q rfl (i * 5 + 4) _ ((flatK_at (cellsV_len g) (by omega) n hi).trans rfl)
      rw [Addr.add_lit] at this
      exact this
/-- What an own row's cells are, read from a row. -/
theorem rowV_cells {w : World} {b off n cap : Nat} {g : Nat → It} (h : RowV w (.slice (some ⟨b, off, none⟩) n cap) n g) : ∀ j u, (allV g n)[j]? = some u → w.cell? ((⟨b, off, none⟩ : Addr).add j) = some u := by
  obtain ⟨a, cap', e, _, _, h3⟩ := h
  injection e with e1
  subst e1
  intro j u hj
  obtain ⟨i, q, hi, hq, rfl, hu⟩ := flatK_inv (cellsV_len g) n hj
  obtain ⟨b', off', e', c0, c1, c2, c3, c4⟩ := h3 i hi
  injection e' with e'
  injection e' with e1 e2
  subst e1 e2
  rw [Addr.add_lit, ← Nat.add_assoc]
  match q, hq, hu with
  | 0, _, hu => cases hu; exact c0
  | 1, _, hu => cases hu; exact c1
  | 2, _, hu => cases hu; exact c2
  | 3, _, hu => cases hu; exact c3
  | 4, _, hu => cases hu; exact c4
theorem infoV : (Try.prog.info? 55).map (fun i => (i.zero, i.size, i.bytes)) = some (some (.agg #[.string ⟨#[]⟩, .int .i64 0, .int .i64 0, .int .i64 0, .bool false]), 5, 48) := by kernel_rfl

set_option maxHeartbeats 2000000 in
set_option maxRecDepth 100000 in
theorem cloneV_any {w : World} {v : Value} {n : Nat} {g : Nat → It} (h : RowV w v n g) (h1 : 1 ≤ n) (h2 : n ≤ 1000000) :
    Calls Try.prog 36 #[v] w fun e w' => ∃ v', e = .returned v' ∧ w'.ownsRow w.heap.size 55 5 v' n (allV g n) ∧ Below w.heap.size w w' := by
  obtain ⟨a, cap, rfl, k1, k2, k3⟩ := id h
  obtain ⟨b, off, rfl, _⟩ := k3 0 (by omega)
  clear k3
  obtain ⟨i0, hi, hz0, hz1, hz2⟩ := info_parts infoV
  have q22 : ∀ (w : World) (a : Option Addr) (n c n' c' : Nat), (binOp .eql 24 (.slice a n c) (.slice none n' c')).run Try.prog w = .ok (.bool a.isNone) w := fun w a n c n' c' => Lib.run_eql_slice_nil w _ _ a n c n' c' Try.underlying24
  have A : Hid (∀ j u, (allV g n)[j]? = some u → w.cell? ((⟨b, off, none⟩ : Addr).add j) = some u) := rowV_cells h
  clear h
  go_enter Try.func36, Try.ntmps36
  go_wp2_with (at_builtin; refine wpList_append_own _ rfl _ _ 24 rfl w.heap.size 55 i0 (.agg #[.string ⟨#[]⟩, .int .i64 0, .int .i64 0, .int .i64 0, .bool false]) 5 48 Try.underlying24 hi hz0 hz1 hz2 rfl (by decide) _ _ _ rfl (World.ownsRow_made w #[] 0 (Nat.le_refl _) (Nat.zero_le _) rfl) ⟨b, off, none⟩ n cap (allV g n) rfl ?qc1 ?qc2 ?qc3 ?qc4 ?qc5 ?qc6 ?_)
  case qc1 => exact allV_length g n
  case qc2 =>
    intro j u hj
    have := A.out j u hj
    rw [Addr.add_lit] at this ⊢
    exact Lib.cell?_alloc_some _ this
  case qc3 => exact allV_one g n
  case qc4 => unfold maxLen; omega
  case qc5 => omega
  case qc6 => simp
  intro v' w1 hown hgrow hnil
  have hown' : Hid (w1.ownsRow w.heap.size 55 5 v' n (allV g n)) := by
    show w1.ownsRow w.heap.size 55 5 v' n (allV g n)
    simpa using hown
  clear hown hnil
  go_wp2
  go_ret
  exact ⟨v', rfl, hown'.out, ((Below.refl _ w).alloc (Nat.le_refl _) _).grown hgrow (by simp) (by intro k hk; simp [Value.ownBlock] at hk; omega)⟩
set_option maxHeartbeats 1000000 in
theorem cloneV_nil (w : World) :
    Calls Try.prog 36 #[.slice none 0 0] w fun e w' => e = .returned (.slice none 0 0) ∧ w' = w := by
  have q22 : ∀ (w : World) (a : Option Addr) (n c n' c' : Nat), (binOp .eql 24 (.slice a n c) (.slice none n' c')).run Try.prog w = .ok (.bool a.isNone) w := fun w a n c n' c' => Lib.run_eql_slice_nil w _ _ a n c n' c' Try.underlying24
  go_enter Try.func36, Try.ntmps36
  go_wp2
  go_ret
  exact ⟨rfl, rfl⟩
end Go.Proofs.Ytfphjhmhiaepiaa.RU
