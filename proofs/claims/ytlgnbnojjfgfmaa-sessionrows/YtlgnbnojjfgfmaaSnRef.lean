/-
  The twenty-second reference's session in memory, and the contracts of its Take, Pop and Send; an order held against itself.
-/
import Derived.Test.YtlgnbnojjfgfmaaSnMath
import Derived.Test.YtlgnbnojjfgfmaaRuFlat
import Derived.Test.YtlgnbnojjfgfmaaPostRefEncO
import Derived.Deep.RegionLaw
namespace Go.Proofs.Ytlgnbnojjfgfmaa.SN
open Go.ChangeShapes Go.WideShapes Go.ChangeAt Go.RowKit Go.Lib RU

set_option maxRecDepth 100000 in
set_option maxHeartbeats 4000000 in
theorem od_eq (xk xs xd xq xp : Int) (xi xy : ByteArray) (w : World) : (Op.equalIn 10000 34 (.agg #[.int .i64 xk, .int .i64 xs, .string xi, .string xy, .int .i64 xd, .int .i64 xq, .int .i64 xp]) (.agg #[.int .i64 xk, .int .i64 xs, .string xi, .string xy, .int .i64 xd, .int .i64 xq, .int .i64 xp])).run Try.prog w = .ok true w := by
  rw [show (10000 : Nat) = 9999 + 1 from rfl, run_equalIn_struct (P := Try.prog) w 9999 _ _ _ (by kernel_rfl) (by kernel_rfl)]
  simp [Program.fieldsOf, Try.underlying34, Op.eqFields, go_sem, Try.underlying3, Try.underlying9]
set_option maxRecDepth 100000 in
set_option maxHeartbeats 4000000 in
theorem od_eqR (xk xs xd xq xp : Int) (xi xy : ByteArray) (w : World) : (Op.equalIn 10000 55 (.agg #[.int .i64 xk, .int .i64 xs, .string xi, .string xy, .int .i64 xd, .int .i64 xq, .int .i64 xp]) (.agg #[.int .i64 xk, .int .i64 xs, .string xi, .string xy, .int .i64 xd, .int .i64 xq, .int .i64 xp])).run Try.prog w = .ok true w := by
  rw [show (10000 : Nat) = 9999 + 1 from rfl, run_equalIn_struct (P := Try.prog) w 9999 _ _ _ (by kernel_rfl) (by kernel_rfl)]
  simp [Program.fieldsOf, Try.underlying55, Op.eqFields, go_sem, Try.underlying3, Try.underlying9]
/-- The cells of orders, one behind the other. -/
def cellsO (x : Od) : List Value := [.int .i64 x.k, .int .i64 x.s, .string x.i, .string x.y, .int .i64 x.d, .int .i64 x.q, .int .i64 x.p]
def allO (L : Nat → Od) (n : Nat) : List Value := flatK (fun i => cellsO (L i)) n
theorem allO_more (L : Nat → Od) (n : Nat) (x : Od) : allO (upd L n x) (n + 1) = allO L n ++ cellsO x := by
  unfold allO
  rw [flatK, upd_same, flatK_same n (fun i hi => by show cellsO (upd L n x i) = cellsO (L i); rw [upd_other _ _ (by omega)])]
theorem cellsO_at (x : Od) {j : Nat} (hj : j < 7) : (cellsO x)[j]? = some (oc x j) := by
  rcases (show j = 0 ∨ j = 1 ∨ j = 2 ∨ j = 3 ∨ j = 4 ∨ j = 5 ∨ j = 6 by omega) with rfl | rfl | rfl | rfl | rfl | rfl | rfl <;> rfl
theorem allO_at (L : Nat → Od) {n i j : Nat} (hi : i < n) (hj : j < 7) : (allO L n)[i * 7 + j]? = some (oc (L i) j) := (flatK_at (c := fun i => cellsO (L i)) (fun _ => rfl) hj n hi).trans (cellsO_at _ hj)
theorem cellsO_one (x : Od) : ∀ u ∈ cellsO x, u.oneCell' = true := by
  intro u hu
  simp only [cellsO, List.mem_cons, List.not_mem_nil, or_false] at hu
  rcases hu with rfl | rfl | rfl | rfl | rfl | rfl | rfl <;> rfl
/-- A list of orders of one's own: an order's cells. -/
theorem own_cells {w : World} {base : Nat} {e : TypeId} {v : Value} {n : Nat} {L : Nat → Od} (h : w.ownsRow base e 7 v n (allO L n)) {i : Nat} (hi : i < n) : ∃ q cap, v = .slice (some ⟨q, 0, none⟩) n cap ∧ n ≤ cap ∧ cap ≤ maxLen ∧ q < w.heap.size ∧ Sev w q (i * 7) (L i) := by
  have ho := h
  rcases ho.2 with ⟨rfl, e⟩ | ⟨q, cap, cur, rfl, hb, _, h1, h2, _⟩
  · omega
  · exact ⟨q, cap, rfl, h1, h2, (ho.lt q rfl).2, fun j hj => by rw [ho.cellAt (i * 7 + j) (by omega), allO_at L hi hj]⟩
/-- Six cells in block b, which may be written. -/
structure Bx6 (w : World) (b : Nat) (G : Nat → Value) : Prop where
  cell : ∀ j, j < 6 → w.cell? ⟨b, j, none⟩ = some (G j)
  thaw : ∀ j, w.frozen? ⟨b, j, none⟩ = false
theorem Bx6.lt {w : World} {b : Nat} {G : Nat → Value} (h : Bx6 w b G) : b < w.heap.size := World.block_lt_of_cell? _ _ (h.cell 0 (by omega))
theorem Bx6.kept {T : Nat → Prop} {w w' : World} {b : Nat} {G : Nat → Value} (h : Bx6 w b G) (k : But T w w') (hb : ¬ T b) : Bx6 w' b G := ⟨fun j hj => (k.cell h.lt hb).trans (h.cell j hj), fun j => (k.frozen h.lt hb).trans (h.thaw j)⟩
theorem Bx6.set {w : World} {b : Nat} {G G' : Nat → Value} (h : Bx6 w b G) {i : Nat} (u : Value) (hi : i < 6) (e : ∀ j, j < 6 → upd G i u j = G' j) : Bx6 (w.setCell ⟨b, i, none⟩ u) b G' := by
  refine ⟨fun j hj => ?_, fun j => by rw [World.frozen?_setCell]; exact h.thaw j⟩
  rw [← e j hj]
  by_cases c : j = i
  · subst c
    rw [upd_same]
    exact World.cell?_setCell_same' _ _ _ (by rw [h.cell j hj]; rfl)
  · rw [upd_other _ _ c, World.cell?_setCell_other _ _ _ _ (nep (fun e => c e.symm))]
    exact h.cell j hj
/-- The reference's six cells. -/
def rF (y : Ss) (v : Value) (j : Nat) : Value := if j = 0 then .int .i64 (y.room : Int) else if j = 1 then .int .i64 (y.out : Int) else if j = 2 then .int .i64 (y.tk : Int) else if j = 3 then .int .i64 (y.fa : Int) else if j = 4 then v else .bool y.dn
/-- The reference's session lies in block g, the list v from block base on. -/
structure RefAt (w : World) (g base : Nat) (y : Ss) (v : Value) : Prop where
  box : Bx6 w g (rF y v)
  own : w.ownsRow base 55 7 v y.sn (allO y.L y.sn)
  lo : g < base
  hi : base ≤ w.heap.size
  ord : y.out ≤ y.sn
/-- Its blocks. -/
def ownR (g : Nat) (v : Value) (k : Nat) : Prop := k = g ∨ v.ownBlock = some k
theorem RefAt.there {w : World} {g base : Nat} {y : Ss} {v : Value} (K : RefAt w g base y v) {k : Nat} (hk : ownR g v k) : k < w.heap.size := by
  rcases hk with rfl | hk
  · exact K.box.lt
  · exact (K.own.lt k hk).2
theorem RefAt.kept {w' : World} {T : Nat → Prop} {w : World} {g base : Nat} {y : Ss} {v : Value} (K : RefAt w g base y v) (k : But T w w') (hT : ∀ i, ownR g v i → ¬ T i) : RefAt w' g base y v :=
  ⟨K.box.kept k (hT g (.inl rfl)), own_kept K.own k (fun q hq => hT q (.inr hq)), K.lo, Nat.le_trans K.hi k.size, K.ord⟩
theorem RefAt.below {w' : World} {w : World} {g base : Nat} {y : Ss} {v : Value} (K : RefAt w g base y v) (k : Below w.heap.size w w') : RefAt w' g base y v :=
  K.kept (T := fun _ => False) (But.of_below k) (fun _ _ => id)
theorem RefAt.gv {w : World} {g base : Nat} {y : Ss} {v : Value} (K : RefAt w g base y v) : ¬ v.ownBlock = some g := fun e => by have := (K.own.lt g e).1; have := K.lo; omega
/-- The reference's session behind a call: only its own blocks changed. -/
def RefOk (w w' : World) (g base : Nat) (v : Value) (y : Ss) : Prop := ∃ v', RefAt w' g base y v' ∧ But (ownR g v) w w' ∧ ∀ k, ownR g v' k → ownR g v k ∨ w.heap.size ≤ k
theorem RefAt.ok {w' : World} {w : World} {g base : Nat} {y : Ss} {v : Value} (K : RefAt w g base y v) (k : Below w.heap.size w w') : RefOk w w' g base v y := ⟨v, K.below k, But.of_below k, fun _ hk => .inl hk⟩
/-- One of its numbers was written. -/
theorem RefAt.wrote {w : World} {g base : Nat} {y : Ss} {v : Value} (K : RefAt w g base y v) {z : Ss} {i : Nat} (u : Value) (hi : i < 6) (e : ∀ j, j < 6 → upd (rF y v) i u j = rF z v j) (e1 : z.sn = y.sn) (e3 : z.L = y.L) (eo : z.out ≤ z.sn) : RefOk w (w.setCell ⟨g, i, none⟩ u) g base v z := by
  have k : But (fun j => j = g) w (w.setCell ⟨g, i, none⟩ u) := (But.refl _ w).setCell g i u (fun _ => rfl)
  refine ⟨v, ⟨K.box.set u hi e, ?_, K.lo, Nat.le_trans K.hi k.size, eo⟩, k.mono (fun _ _ e => .inl e), fun _ hk => .inl hk⟩
  rw [e1, e3]
  exact own_kept K.own k (fun q hq e => K.gv (by rw [hq, e]))
theorem RefAt.cells {w : World} {g base : Nat} {y : Ss} {v : Value} (K : RefAt w g base y v) : w.cell? ⟨g, 0, none⟩ = some (.int .i64 (y.room : Int)) ∧ w.cell? ⟨g, 1, none⟩ = some (.int .i64 (y.out : Int)) ∧ w.cell? ⟨g, 2, none⟩ = some (.int .i64 (y.tk : Int)) ∧ w.cell? ⟨g, 3, none⟩ = some (.int .i64 (y.fa : Int)) ∧ w.cell? ⟨g, 4, none⟩ = some v ∧ w.cell? ⟨g, 5, none⟩ = some (.bool y.dn) :=
  ⟨K.box.cell 0 (by omega), K.box.cell 1 (by omega), K.box.cell 2 (by omega), K.box.cell 3 (by omega), K.box.cell 4 (by omega), K.box.cell 5 (by omega)⟩
theorem six_lt {j : Nat} {P : Nat → Prop} (hj : j < 6) (h : P 0 ∧ P 1 ∧ P 2 ∧ P 3 ∧ P 4 ∧ P 5) : P j := by
  rcases (show j = 0 ∨ j = 1 ∨ j = 2 ∨ j = 3 ∨ j = 4 ∨ j = 5 by omega) with rfl | rfl | rfl | rfl | rfl | rfl
  · exact h.1
  · exact h.2.1
  · exact h.2.2.1
  · exact h.2.2.2.1
  · exact h.2.2.2.2.1
  · exact h.2.2.2.2.2
set_option maxRecDepth 100000 in
set_option maxHeartbeats 4000000 in
theorem refTake_any {w : World} {g base : Nat} {y : Ss} {v : Value} (K : RefAt w g base y v) (n : Int) (ht : y.tk ≤ 4096) : Calls Try.prog 24 #[.pointer (some ⟨g, 0, none⟩), .int .i64 n] w fun e w' => e = .returned (.int .i64 (tkE y n)) ∧ RefOk w w' g base v (tkX y n) := by
  obtain ⟨_, _, c2, _, _, _⟩ := K.cells
  have f2 := K.box.thaw 2
  have HS : Hid (RefOk w w g base v y) := K.ok (Below.refl _ _)
  have t : (y.tk : Int) ≤ 4096 := by omega
  by_cases h1 : n ≤ (y.tk : Int)
  · rw [(tk_low h1).1, (tk_low h1).2]
    clear K
    go_enter Try.func24, Try.ntmps24
    go_wp2_with fail
    go_ret
    exact ⟨rfl, HS.out⟩
  by_cases h2 : (y.tk : Int) + 1 < n
  · rw [(tk_high h2).1, (tk_high h2).2]
    clear K
    go_enter Try.func24, Try.ntmps24
    go_wp2_with fail
    go_ret
    exact ⟨rfl, HS.out⟩
  · have en : n = (y.tk : Int) + 1 := by omega
    rw [show tkE y n = 0 by rw [en]; exact tk_ok.1, show tkX y n = ⟨y.room, y.sn, y.out, y.tk + 1, y.fa, y.dn, y.L⟩ by rw [en]; exact tk_ok.2]
    have HR : Hid (RefOk w (w.setCell ⟨g, 2, none⟩ (.int .i64 n)) g base v ⟨y.room, y.sn, y.out, y.tk + 1, y.fa, y.dn, y.L⟩) := K.wrote _ (by omega) (fun j hj => six_lt (P := fun j => upd (rF y v) 2 (.int .i64 n) j = rF _ v j) hj ⟨rfl, rfl, by rw [upd_same, en]; rfl, rfl, rfl, rfl⟩) rfl rfl K.ord
    clear K HS en
    go_enter Try.func24, Try.ntmps24
    go_wp2_with fail
    go_ret
    exact ⟨rfl, HR.out⟩
end Go.Proofs.Ytlgnbnojjfgfmaa.SN
