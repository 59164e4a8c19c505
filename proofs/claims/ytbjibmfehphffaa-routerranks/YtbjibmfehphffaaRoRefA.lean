/-
  The reference's offers: the statements' plain, and the reference's ahead, in, StepOf.
-/
import Derived.Test.YtbjibmfehphffaaRoPieces
import Derived.Test.YtbjibmfehphffaaRoRefStep
namespace Go.Proofs.Ytbjibmfehphffaa.RO
open Go.ChangeShapes Go.WideShapes Go.ChangeAt Go.RowKit

def cellsO (x : Of) : List Value := [.int .i64 x.pl, .int .i64 x.lt, .int .i64 x.fe, .int .i64 x.sh, .bool x.ok]
def allO (xs : List Of) : List Value := xs.flatMap cellsO
theorem cellsO_one (x : Of) : ∀ u ∈ cellsO x, u.oneCell' = true := by
  intro u hu
  simp only [cellsO, List.mem_cons, List.not_mem_nil, or_false] at hu
  rcases hu with rfl | rfl | rfl | rfl | rfl <;> rfl
theorem allO_one (xs : List Of) : ∀ u ∈ allO xs, u.oneCell' = true := by
  intro u hu
  simp only [allO, List.mem_flatMap] at hu
  obtain ⟨x, _, hx⟩ := hu
  exact cellsO_one x u hx
theorem allO_append (xs ys : List Of) : allO (xs ++ ys) = allO xs ++ allO ys := by simp [allO]
theorem allO_length : ∀ xs : List Of, (allO xs).length = xs.length * 5
  | [] => rfl
  | x :: r => by
    have := allO_length r
    simp only [allO, List.flatMap_cons, List.length_append, List.length_cons] at *
    simp only [cellsO, List.length_cons, List.length_nil]
    omega
theorem allO_at : ∀ (xs : List Of) (i j : Nat) (x : Of), xs[i]? = some x → j < 5 → (allO xs)[i * 5 + j]? = (cellsO x)[j]?
  | [], i, _, x, h, _ => by simp at h
  | y :: r, 0, j, x, h, hj => by
    simp at h
    subst h
    rw [Nat.zero_mul, Nat.zero_add]
    show (cellsO y ++ allO r)[j]? = _
    rw [List.getElem?_append_left (by simpa [cellsO] using hj)]
  | y :: r, i + 1, j, x, h, hj => by
    show (cellsO y ++ allO r)[(i + 1) * 5 + j]? = _
    have hl : (cellsO y).length = 5 := rfl
    rw [List.getElem?_append_right (by omega), hl, show (i + 1) * 5 + j - 5 = i * 5 + j by omega]
    exact allO_at r i j x (by simpa using h) hj
theorem cellsO_at (x : Of) (j : Nat) (hj : j < 5) : (cellsO x)[j]? = some (cO x j) := by
  rcases (show j = 0 ∨ j = 1 ∨ j = 2 ∨ j = 3 ∨ j = 4 by omega) with rfl | rfl | rfl | rfl | rfl <;> rfl
theorem listO_at {L : Nat → Of} {n i : Nat} (hi : i < n) : (listO L n)[i]? = some (L i) := by simp [listO, hi]
/-- A list of one's own reads as its offers. -/
theorem rowL_of_own {w : World} {B : Nat} {v : Value} {n : Nat} {L : Nat → Of} {e : TypeId} (h : w.ownsRow B e 5 v n (allO (listO L n))) : RowL w v n L := by
  have hcs := fun g hg => h.cells (g := g) hg
  rcases h.2 with ⟨rfl, rfl⟩ | ⟨g, cap, cur, rfl, hb, hg, hc, _⟩
  · exact ⟨none, 0, rfl, Nat.le_refl _, fun i hi => absurd hi (Nat.not_lt_zero _)⟩
  · refine ⟨_, cap, rfl, hc, fun i hi => ⟨g, 0, rfl, fun j hj => ?_⟩⟩
    have := hcs g rfl (i * 5 + j) (cO (L i) j) (by rw [allO_at _ i j (L i) (listO_at hi) hj, cellsO_at _ _ hj])
    rw [Addr.add_lit] at this
    rw [← this, Nat.add_assoc]
/-- The cells of a list that is read. -/
theorem rowL_cells {w : World} {b o m : Nat} {M : Nat → Of} (h : ∀ i, i < m → Fiv w b (o + i * 5) (M i)) : ∀ j u, (allO (listO M m))[j]? = some u → w.cell? ((⟨b, o, none⟩ : Addr).add j) = some u := by
  intro j u hj
  have hl := (List.getElem?_eq_some_iff.1 hj).1
  rw [allO_length, listO_length] at hl
  have e : j = j / 5 * 5 + j % 5 := by omega
  have hi : j / 5 < m := by omega
  rw [e, allO_at _ (j / 5) (j % 5) (M (j / 5)) (listO_at hi) (by omega), cellsO_at _ _ (by omega)] at hj
  rw [Addr.add_lit, ← hj, show o + j = o + j / 5 * 5 + j % 5 by omega]
  exact h (j / 5) hi (j % 5) (by omega)
theorem info_offerR : (Try.prog.info? 36).map (fun i => (i.zero, i.size, i.bytes)) = some (some (.agg #[.int .i64 0, .int .i64 0, .int .i64 0, .int .i64 0, .bool false]), 5, 40) := by kernel_rfl
theorem run_append_none5 {P : Program} (w : World) (base : Nat) (t ty e : TypeId) (i : TypeInfo) (size : Nat) (ht : P.underlying t = some (.slice e)) (hi : P.info? e = some i)
    (v : Value) (n : Nat) (xs : List Value) (hown : w.ownsRow base e size v n xs) (c : Nat) : (Builtin.append_ #[t, t] ty #[v, .slice none 0 c]).run P w = .ok v w := by
  rcases hown.2 with ⟨rfl, rfl⟩ | ⟨g, cap, cur, rfl, hbg, hg, hnc, hcm, hcs, htake⟩
  · simp [Builtin.append_, run_underlying ht, sizeOf, typeInfo, hi, Builtin.lenOf, Builtin.firstCells]
  · simp [Builtin.append_, run_underlying ht, sizeOf, typeInfo, hi, Builtin.lenOf, Builtin.firstCells, hnc, storeCells]
/-- Offers are appended to a list of one's own, from wherever they are read. -/
theorem wpList_append_offers {w : World} {ops : Array Oper} {rest : List Oper} {o : Oper} {a : Act} {Q : Exit → Act → World → Prop} (hgd : o.guard = none) (s x : Operand)
    (ho : o.op = .call { callee := .builtin .append, args := #[s, x], argTypes := #[31, 31] }) (base : Nat) (v u : Value) {n : Nat} (l : List Of) (m : Nat) (M : Nat → Of) (hs : a.eval s = v) (hx : a.eval x = u)
    (hown : w.ownsRow base 36 5 v n (allO l)) (hu : RowL w u m M) (hl : l.length ≤ 100000) (hm : m ≤ 100000) (hbase : base ≤ w.heap.size)
    (h : ∀ a' c' k' w', Hid (k' = (l ++ listO M m).length ∧ w'.ownsRow base 36 5 (.slice a' k' c') k' (allO (l ++ listO M m)) ∧ w.grownBy w' v.ownBlock) → wpList Try.prog ops Q rest (a.put o.dst (.slice a' k' c')) w') : wpList Try.prog ops Q (o :: rest) a w := by
  obtain ⟨i0, hi0, hz0, hzs, hzb⟩ := info_parts info_offerR
  obtain ⟨ad, cap, rfl, h1, h3⟩ := hu
  obtain rfl : n = l.length := by have := hown.1; rw [allO_length] at this; omega
  have e0 : (l ++ listO M m).length = l.length + m := by rw [List.length_append, listO_length]
  have fin : ∀ v' w', w'.ownsRow base 36 5 v' (l ++ listO M m).length (allO (l ++ listO M m)) → w.grownBy w' v.ownBlock → wpList Try.prog ops Q rest (a.put o.dst v') w' := by
    intro v' w' h1 h2
    obtain ⟨a', c', rfl⟩ := own_shape h1
    exact h a' c' _ w' ⟨rfl, h1, h2⟩
  clear h
  cases ad with
  | none =>
    obtain rfl : m = 0 := by
      rcases Nat.eq_zero_or_pos m with e | e
      · exact e
      · obtain ⟨_, _, e, _⟩ := h3 0 e; cases e
    refine wpList_plain hgd fun K hK => ?_
    have hr := fun ty => run_append_none5 (P := Try.prog) w base 31 ty _ i0 5 Try.underlying31 hi0 v _ _ hown cap
    unfold Oper.wp execOp
    simp only [ho, resolve, invoke, builtin, Sem.run_bind, Sem.run_pure, Result.andThen_ok, List.map_toArray, List.map_cons, List.map_nil, hs, hx, hr]
    refine hK _ _ (fin v w ?_ ⟨rfl, rfl, rfl, Nat.le_refl _, fun _ _ _ => rfl⟩)
    have e1 : l ++ listO M 0 = l := List.append_nil l
    rw [e1]; exact hown
  | some ad =>
    obtain ⟨b, o', spot⟩ := ad
    rcases Nat.eq_zero_or_pos m with hm0 | hm0
    · subst hm0
      have e1 : l ++ listO M 0 = l := List.append_nil l
      rw [e1] at fin
      refine wpList_append_own_at _ hgd s x _ ho base _ i0 _ 5 40 Try.underlying31 hi0 hz0 hzs hzb rfl (by decide) v _ _ hs hown ⟨b, o', spot⟩ 0 cap [] hx rfl (fun j u hj => by simp at hj) (fun u hu => by simp at hu) (by unfold maxLen; omega) (by omega) hbase ?_
      intro v' w' hown' hg _ _
      exact fin v' w' (by simpa using hown') hg
    · obtain ⟨b', o'', e, _⟩ := h3 0 hm0
      injection e with e
      injection e with e1 e2 e3
      subst e1 e2 e3
      have src : ∀ i, i < m → Fiv w b (o' + i * 5) (M i) := fun i hi => by
        obtain ⟨b', o'', e, c⟩ := h3 i hi
        injection e with e
        injection e with e1 e2
        subst e1 e2
        exact c
      refine wpList_append_own_at _ hgd s x _ ho base _ i0 _ 5 40 Try.underlying31 hi0 hz0 hzs hzb rfl (by decide) v _ _ hs hown ⟨b, o', none⟩ m cap (allO (listO M m)) hx (by rw [allO_length, listO_length]) (rowL_cells src) (allO_one _) (by unfold maxLen; omega) (by omega) hbase ?_
      intro v' w' hown' hg _ _
      exact fin v' w' (by rw [e0, allO_append]; exact hown') hg
end Go.Proofs.Ytbjibmfehphffaa.RO
