/-
  Lists of offers in memory: a list of one's own that is changed in place.
-/
import Derived.Test.YtbjibmfehphffaaRoCmp
import Derived.Test.YtbjibmfehphffaaStMath
namespace Go.Proofs.Ytbjibmfehphffaa.RO
open Go.ChangeShapes Go.WideShapes Go.ChangeAt Go.RowKit Go.Proofs.Ytbjibmfehphffaa.ST

/-- Five cells from cell a of block b on hold an offer. -/
def Fiv (w : World) (b a : Nat) (x : Of) : Prop := ∀ j, j < 5 → w.cell? ⟨b, a + j, none⟩ = some (cO x j)
theorem Fiv.all {w : World} {b a : Nat} {x : Of} (h : Fiv w b a x) : w.cell? ⟨b, a, none⟩ = some (.int .i64 x.pl) ∧ w.cell? ⟨b, a + 1, none⟩ = some (.int .i64 x.lt) ∧ w.cell? ⟨b, a + 2, none⟩ = some (.int .i64 x.fe) ∧ w.cell? ⟨b, a + 3, none⟩ = some (.int .i64 x.sh) ∧ w.cell? ⟨b, a + 4, none⟩ = some (.bool x.ok) :=
  ⟨h 0 (by omega), h 1 (by omega), h 2 (by omega), h 3 (by omega), h 4 (by omega)⟩
theorem Fiv.all0 {w : World} {b : Nat} {x : Of} (h : Fiv w b 0 x) : w.cell? ⟨b, 0, none⟩ = some (.int .i64 x.pl) ∧ w.cell? ⟨b, 1, none⟩ = some (.int .i64 x.lt) ∧ w.cell? ⟨b, 2, none⟩ = some (.int .i64 x.fe) ∧ w.cell? ⟨b, 3, none⟩ = some (.int .i64 x.sh) ∧ w.cell? ⟨b, 4, none⟩ = some (.bool x.ok) :=
  ⟨h 0 (by omega), h 1 (by omega), h 2 (by omega), h 3 (by omega), h 4 (by omega)⟩
theorem Fiv.lt {w : World} {b a : Nat} {x : Of} (h : Fiv w b a x) : b < w.heap.size := World.block_lt_of_cell? _ _ (h 0 (by omega))
theorem Fiv.kept {T : Nat → Prop} {w w' : World} {b a : Nat} {x : Of} (h : Fiv w b a x) (k : But T w w') (hb : ¬ T b) : Fiv w' b a x := fun j hj => (k.cell h.lt hb).trans (h j hj)
theorem Fiv.below {w w' : World} {b a : Nat} {x : Of} (h : Fiv w b a x) (k : Below w.heap.size w w') : Fiv w' b a x := h.kept (T := fun _ => False) (But.of_below k) id
/-- An offer put into five cells. -/
def put5 (w : World) (b a : Nat) (x : Of) : World := ((((w.setCell ⟨b, a, none⟩ (.int .i64 x.pl)).setCell ⟨b, a + 1, none⟩ (.int .i64 x.lt)).setCell ⟨b, a + 2, none⟩ (.int .i64 x.fe)).setCell ⟨b, a + 3, none⟩ (.int .i64 x.sh)).setCell ⟨b, a + 4, none⟩ (.bool x.ok)
theorem put5_out (w : World) (b a : Nat) (x : Of) (c k : Nat) (h : c ≠ b ∨ k < a ∨ a + 5 ≤ k) : (put5 w b a x).cell? ⟨c, k, none⟩ = w.cell? ⟨c, k, none⟩ := by
  unfold put5
  have e : ∀ j, j < 5 → (⟨b, a + j, none⟩ : Addr) ≠ ⟨c, k, none⟩ := fun j hj e => by
    injection e with e1 e2
    rcases h with h | h | h
    · exact h e1.symm
    · omega
    · omega
  rw [World.cell?_setCell_other _ _ _ _ (e 4 (by omega)), World.cell?_setCell_other _ _ _ _ (e 3 (by omega)), World.cell?_setCell_other _ _ _ _ (e 2 (by omega)), World.cell?_setCell_other _ _ _ _ (e 1 (by omega))]
  exact World.cell?_setCell_other _ _ _ _ (e 0 (by omega))
theorem some_set {w : World} {p q : Addr} {v : Value} (h : (w.cell? q).isSome = true) : ((w.setCell p v).cell? q).isSome = true := by
  by_cases e : p = q
  · subst e
    rw [World.cell?_setCell_same' _ _ _ h]; rfl
  · rw [World.cell?_setCell_other _ _ _ _ e]; exact h
theorem put5_in (w : World) (b a : Nat) (x : Of) (h : ∀ j, j < 5 → (w.cell? ⟨b, a + j, none⟩).isSome = true) : Fiv (put5 w b a x) b a x := by
  intro j hj
  have n : ∀ i, i ≠ j → (⟨b, a + i, none⟩ : Addr) ≠ ⟨b, a + j, none⟩ := fun i hi e => by injection e with _ e2; omega
  unfold put5
  rcases (show j = 0 ∨ j = 1 ∨ j = 2 ∨ j = 3 ∨ j = 4 by omega) with rfl | rfl | rfl | rfl | rfl
  · rw [World.cell?_setCell_other _ _ _ _ (n 4 (by omega)), World.cell?_setCell_other _ _ _ _ (n 3 (by omega)), World.cell?_setCell_other _ _ _ _ (n 2 (by omega)), World.cell?_setCell_other _ _ _ _ (n 1 (by omega))]; exact World.cell?_setCell_same' _ _ _ (h 0 (by omega))
  · rw [World.cell?_setCell_other _ _ _ _ (n 4 (by omega)), World.cell?_setCell_other _ _ _ _ (n 3 (by omega)), World.cell?_setCell_other _ _ _ _ (n 2 (by omega))]; exact World.cell?_setCell_same' _ _ _ (some_set (h 1 (by omega)))
  · rw [World.cell?_setCell_other _ _ _ _ (n 4 (by omega)), World.cell?_setCell_other _ _ _ _ (n 3 (by omega))]; exact World.cell?_setCell_same' _ _ _ (some_set (some_set (h 2 (by omega))))
  · rw [World.cell?_setCell_other _ _ _ _ (n 4 (by omega))]; exact World.cell?_setCell_same' _ _ _ (some_set (some_set (some_set (h 3 (by omega)))))
  · exact World.cell?_setCell_same' _ _ _ (some_set (some_set (some_set (some_set (h 4 (by omega))))))
theorem put5_frozen (w : World) (b a : Nat) (x : Of) (c k : Nat) : (put5 w b a x).frozen? ⟨c, k, none⟩ = w.frozen? ⟨c, k, none⟩ := by
  unfold put5
  simp only [World.frozen?_setCell]
theorem put5_but {S : Nat → Prop} {v w : World} (h : But S v w) (b a : Nat) (x : Of) (hb : b < v.heap.size → S b) : But S v (put5 w b a x) :=
  ((((h.setCell b _ _ hb).setCell b _ _ hb).setCell b _ _ hb).setCell b _ _ hb).setCell b _ _ hb

/-- Block b, which may be written, holds n offers, told by g. -/
structure HoldO (w : World) (b n : Nat) (g : Nat → Of) : Prop where
  cell : ∀ i, i < n → Fiv w b (i * 5) (g i)
  thaw : ∀ j, w.frozen? ⟨b, j, none⟩ = false
  lt : b < w.heap.size
theorem HoldO.kept {T : Nat → Prop} {w w' : World} {b n : Nat} {g : Nat → Of} (h : HoldO w b n g) (k : But T w w') (hb : ¬ T b) : HoldO w' b n g :=
  ⟨fun i hi => (h.cell i hi).kept k hb, fun j => (k.frozen h.lt hb).trans (h.thaw j), Nat.lt_of_lt_of_le h.lt k.size⟩
theorem HoldO.below {w w' : World} {b n : Nat} {g : Nat → Of} (h : HoldO w b n g) (k : Below w.heap.size w w') : HoldO w' b n g := h.kept (T := fun _ => False) (But.of_below k) id
theorem HoldO.same {w : World} {b n : Nat} {g g' : Nat → Of} (h : HoldO w b n g) (e : ∀ i, i < n → g i = g' i) : HoldO w b n g' :=
  ⟨fun i hi => e i hi ▸ h.cell i hi, h.thaw, h.lt⟩
/-- Two places change. -/
theorem HoldO.swap {w : World} {b n : Nat} {L : Nat → Of} {f : Nat → Nat} (h : HoldO w b n (fun k => L (f k))) {i j : Nat} (hi : i < n) (hj : j < n) (hij : i ≠ j) (W : World) (hW : Below w.heap.size w W) :
    HoldO (put5 (put5 W b (i * 5) (L (f j))) b (j * 5) (L (f i))) b n (fun k => L (sw f i j k)) ∧ But (fun k => k = b) w (put5 (put5 W b (i * 5) (L (f j))) b (j * 5) (L (f i))) := by
  have hB : But (fun k => k = b) w (put5 (put5 W b (i * 5) (L (f j))) b (j * 5) (L (f i))) := put5_but (S := fun k => k = b) (put5_but (S := fun k => k = b) (But.of_below hW) b _ _ (fun _ => rfl)) b _ _ (fun _ => rfl)
  have k := h.below hW
  refine ⟨⟨fun m hm => ?_, fun m => by rw [put5_frozen, put5_frozen]; exact k.thaw m, Nat.lt_of_lt_of_le h.lt hB.size⟩, hB⟩
  have ss : ∀ m, m < n → ∀ c, c < 5 → (W.cell? ⟨b, m * 5 + c, none⟩).isSome = true := fun m hm c hc => by rw [k.cell m hm c hc]; rfl
  by_cases ej : m = j
  · subst ej
    rw [sw_j]
    refine put5_in _ _ _ _ (fun c hc => ?_)
    rw [put5_out _ _ _ _ _ _ (by omega)]
    exact ss m hm c hc
  · intro c hc
    rw [put5_out _ _ _ _ _ _ (by omega)]
    by_cases ei : m = i
    · subst ei
      rw [sw_i f ej]
      exact put5_in _ _ _ _ (fun c hc => ss m hm c hc) c hc
    · rw [sw_o f ei ej, put5_out _ _ _ _ _ _ (by omega)]
      exact k.cell m hm c hc

/-- Does what lies at one place stand ahead of what lies at another? -/
def ltP (L : Nat → Of) (i j : Nat) : Bool := ltO (L i) (L j)
theorem ltP_swo (L : Nat → Of) : Swo (ltP L) := by
  refine ⟨fun i => ?_, fun i j k => ?_, fun i j k => ?_⟩
  · unfold ltP ltO; exact decide_eq_false (by omega)
  · unfold ltP ltO
    intro h1 h2
    have h1 := of_decide_eq_true h1
    have h2 := of_decide_eq_true h2
    exact decide_eq_true (by omega)
  · unfold ltP ltO
    intro h1 h2
    have h1 := of_decide_eq_false h1
    have h2 := of_decide_eq_false h2
    exact decide_eq_false (by omega)
end Go.Proofs.Ytbjibmfehphffaa.RO
