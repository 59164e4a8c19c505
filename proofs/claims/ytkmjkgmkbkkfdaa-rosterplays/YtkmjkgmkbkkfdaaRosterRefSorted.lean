/-
  Contract of the reference's Sorted: the least name above the last one, again and again, tells the names in their order.
-/
import Derived.Test.YtkmjkgmkbkkfdaaRosterRef
namespace Go.Proofs.Ytkmjkgmkbkkfdaa
open Go.ChangeShapes Go.WideShapes Go.ChangeAt Go.RowKit Go.Lib

/-- The name that was told last, when k were. -/
def lastOf (L : List (ByteArray × Nat)) (k : Nat) : ByteArray := if k = 0 then none4 else nmOf L (k - 1)
/-- b is the least of the first j slots' names that lie above l; nothing, where none does. -/
def Best (sl : Nat → ByteArray) (l : ByteArray) (j : Nat) (b : ByteArray) : Prop :=
  (b = none4 ∧ ∀ i, i < j → ¬ Lt l (sl i)) ∨ (b ≠ none4 ∧ (∃ i, i < j ∧ sl i = b) ∧ Lt l b ∧ ∀ i, i < j → Lt l (sl i) → ¬ Lt (sl i) b)
theorem best_zero (sl : Nat → ByteArray) (l : ByteArray) : Best sl l 0 none4 := .inl ⟨rfl, fun i h => absurd h (by omega)⟩
theorem best_skip {sl : Nat → ByteArray} {l : ByteArray} {j : Nat} {b : ByteArray} (h : Best sl l j b) (hn : ¬ Lt l (sl j)) : Best sl l (j + 1) b := by
  rcases h with ⟨e, h⟩ | ⟨hb, ⟨i, hi, e⟩, hl, h⟩
  · exact .inl ⟨e, fun i hi => if k : i = j then by subst k; exact hn else h i (by omega)⟩
  · exact .inr ⟨hb, ⟨i, by omega, e⟩, hl, fun i hi hl' => if k : i = j then by subst k; exact absurd hl' hn else h i (by omega) hl'⟩
theorem best_keep {sl : Nat → ByteArray} {l : ByteArray} {j : Nat} {b : ByteArray} (h : Best sl l j b) (hb : b ≠ none4) (hn : ¬ Lt (sl j) b) : Best sl l (j + 1) b := by
  rcases h with ⟨e, h⟩ | ⟨hb, ⟨i, hi, e⟩, hl, h⟩
  · exact absurd e hb
  · exact .inr ⟨hb, ⟨i, by omega, e⟩, hl, fun i hi hl' => if k : i = j then by subst k; exact hn else h i (by omega) hl'⟩
theorem best_take {sl : Nat → ByteArray} {l : ByteArray} {j : Nat} {b : ByteArray} (h : Best sl l j b) (hl : Lt l (sl j)) (hb : b = none4 ∨ Lt (sl j) b) : Best sl l (j + 1) (sl j) := by
  refine .inr ⟨fun e => by rw [e] at hl; exact not_lt_none _ hl, ⟨j, by omega, rfl⟩, hl, fun i hi hl' => ?_⟩
  by_cases k : i = j
  · subst k; exact Lt.irrefl _
  · rcases h with ⟨e, h⟩ | ⟨hb', _, _, h⟩
    · exact absurd hl' (h i (by omega))
    · rcases hb with e | hb
      · exact absurd e hb'
      · intro hij
        exact h i (by omega) hl' (hij.trans hb)
theorem above_iff {room : Nat} {sl : Nat → ByteArray} {L : List (ByteArray × Nat)} (h : Seated room sl L) {k i : Nat} (hk : k ≤ L.length) (hi : i < room) (hl : Lt (lastOf L k) (sl i)) : ∃ j, k ≤ j ∧ j < L.length ∧ nmOf L j = sl i := by
  have hne : sl i ≠ none4 := fun e => by rw [e] at hl; exact not_lt_none _ hl
  obtain ⟨j, hj, e⟩ := List.getElem_of_mem (h.mem i hi hne)
  have ej : nmOf L j = sl i := by rw [nmOf_at hj, e]
  refine ⟨j, ?_, hj, ej⟩
  apply Decidable.byContradiction
  intro hc
  have hk0 : k ≠ 0 := by omega
  rw [lastOf, if_neg hk0, ← ej] at hl
  by_cases e1 : j = k - 1
  · rw [e1] at hl; exact Lt.irrefl _ hl
  · exact hl.asymm (h.sorted j (k - 1) (by omega) (by omega))
theorem last_lt {room : Nat} {sl : Nat → ByteArray} {L : List (ByteArray × Nat)} (h : Seated room sl L) {k : Nat} (hk : k < L.length) : Lt (lastOf L k) (nmOf L k) := by
  unfold lastOf
  by_cases e : k = 0
  · rw [if_pos e]; exact lt_none.2 (h.at hk).2.2
  · rw [if_neg e]; exact h.sorted _ _ (by omega) hk
theorem best_end {room : Nat} {sl : Nat → ByteArray} {L : List (ByteArray × Nat)} (h : Seated room sl L) {k : Nat} (hk : k < L.length) {b : ByteArray} (hb : Best sl (lastOf L k) room b) : b = nmOf L k := by
  obtain ⟨h1, h2, h3⟩ := h.at hk
  have hl := last_lt h hk
  rcases hb with ⟨_, hb⟩ | ⟨_, ⟨i, hi, e⟩, hlb, hb⟩
  · exact absurd (by rw [h2]; exact hl) (hb _ h1)
  · obtain ⟨j, hkj, hj, ej⟩ := above_iff h (k := k) (by omega) hi (by rw [e]; exact hlb)
    have := hb _ h1 (by rw [h2]; exact hl)
    rw [h2] at this
    rw [← e, ← ej]
    by_cases hjk : j = k
    · rw [hjk]
    · rw [← e, ← ej] at this
      exact absurd (h.sorted k j (by omega) hj) this
theorem best_none {room : Nat} {sl : Nat → ByteArray} {L : List (ByteArray × Nat)} (h : Seated room sl L) {b : ByteArray} (hb : Best sl (lastOf L L.length) room b) : b = none4 := by
  rcases hb with ⟨e, _⟩ | ⟨_, ⟨i, hi, e⟩, hlb, _⟩
  · exact e
  · obtain ⟨j, h1, h2, _⟩ := above_iff h (Nat.le_refl _) hi (by rw [e]; exact hlb)
    omega
theorem lastOf_succ {L : List (ByteArray × Nat)} {k : Nat} : lastOf L (k + 1) = nmOf L k := by simp [lastOf]

set_option maxRecDepth 100000 in
set_option maxHeartbeats 8000000 in
theorem refSorted_any {w : World} {p q room : Nat} {sl : Nat → ByteArray} {L : List (ByteArray × Nat)} (h : Ref w p q room sl) (hS : Seated room sl L) :
    Calls Try.prog 20 #[.pointer (some ⟨p, 0, none⟩)] w fun e w' => ∃ v', e = .returned v' ∧ Below w.heap.size w w' ∧ w'.ownsRow w.heap.size 9 1 v' L.length (nameCells L) := by
  have hm := h.most
  have hlen := hS.le
  obtain ⟨i0, hi0, hz0, hzs, hzb⟩ := info_parts infoStr
  have HSE : Hid (Seated room sl L) := hS
  clear hS
  go_enter Try.func20, Try.ntmps20
  go_wp2_with fail
  go_loopg [3, 4] L.length (fun g v l wr => ∃ k : Nat, k + g = L.length ∧ l = .string (lastOf L k) ∧ wr.ownsRow w.heap.size 9 1 v k (nameCells (L.take k)) ∧ Below w.heap.size w wr)
  case atStart => exact ⟨0, by omega, rfl, World.ownsRow_nil _ _ _ _, Below.refl _ _⟩
  case round =>
    obtain ⟨k, hk, rfl, hown, hB⟩ := hrel
    have h1 : Ref wr p q room sl := h.kept (T := fun k => w.heap.size ≤ k) ⟨hB.os, hB.tape, hB.output, hB.size, fun i hi _ => hB.block i hi⟩ (by have := h.pthere; omega) (by have := h.qthere; omega)
    have hsl := h1.slots
    have HO : Hid (wr.ownsRow w.heap.size 9 1 u3 k (nameCells (L.take k))) := hown
    clear hown
    obtain ⟨l, HL'⟩ : ∃ l, lastOf L k = l := ⟨_, rfl⟩
    have HL : Hid (lastOf L k = l) := HL'
    rw [HL']
    clear HL'
    go_wp2_with fail
    go_loop [5, 6] (fun b i => ∃ (j : Nat) (y : ByteArray), i = .int .i64 (j : Int) ∧ j ≤ room ∧ b = .string y ∧ Hid (Best sl l j y)) (fun _ i => room - (RowKit.intOf i).toNat)
    case atStart => exact ⟨0, none4, rfl, Nat.zero_le _, rfl, best_zero _ _⟩
    case round =>
      obtain ⟨j, b, rfl, hj, rfl, hb⟩ := hrel
      by_cases hlt : j < room
      · have t : (j : Int) < (room : Int) := by omega
        have hc := h1.slot j hlt
        have bs := fun hn => best_skip (sl := sl) (j := j) hb.out hn
        have bk := fun hb' hn => best_keep (sl := sl) (j := j) hb.out hb' hn
        have bt := fun hl hb' => best_take (sl := sl) (j := j) hb.out hl hb'
        have he := empty_bytes b
        obtain ⟨y, HY'⟩ : ∃ y, sl j = y := ⟨_, rfl⟩
        rw [HY'] at hc bs bk bt
        clear HY'
        have heq := beq_bytes y l
        by_cases c1 : Lt l y
        · have d1 : Op.bytesLess y.toList l.toList = false := by
            cases e : Op.bytesLess y.toList l.toList
            · rfl
            · exact absurd e c1.asymm
          have d2 : (y.toList == l.toList) = false := by rw [heq, decide_eq_false (fun e => c1.ne e.symm)]
          by_cases c2 : b = none4
          · rw [decide_eq_true c2] at he
            have HN : Hid (Best sl l (j + 1) y) := bt c1 (.inl c2)
            clear bs bk bt heq c1 c2
            go_wp2_with fail
            go_round
            case rel => exact ⟨j + 1, y, by simp, by omega, rfl, HN⟩
            case measure => simp [RowKit.intOf]; omega
          · rw [decide_eq_false c2] at he
            cases d3 : Op.bytesLess y.toList b.toList
            · have HN : Hid (Best sl l (j + 1) b) := bk c2 (by unfold Lt; rw [d3]; simp)
              clear bs bk bt heq c1 c2
              go_wp2_with fail
              go_round
              case rel => exact ⟨j + 1, b, by simp, by omega, rfl, HN⟩
              case measure => simp [RowKit.intOf]; omega
            · have HN : Hid (Best sl l (j + 1) y) := bt c1 (.inr d3)
              clear bs bk bt heq c1 c2
              go_wp2_with fail
              go_round
              case rel => exact ⟨j + 1, y, by simp, by omega, rfl, HN⟩
              case measure => simp [RowKit.intOf]; omega
        · have HN : Hid (Best sl l (j + 1) b) := bs c1
          cases d1 : Op.bytesLess y.toList l.toList
          · have d2 : (y.toList == l.toList) = true := by
              rw [heq]
              refine decide_eq_true ?_
              rcases Lt.total l y with e | e | e
              · exact absurd e c1
              · exact e.symm
              · unfold Lt at e; rw [d1] at e; cases e
            clear bs bk bt heq c1 he
            go_wp2_with fail
            go_round
            case rel => exact ⟨j + 1, b, by simp, by omega, rfl, HN⟩
            case measure => simp [RowKit.intOf]; omega
          · clear bs bk bt heq c1 he
            go_wp2_with fail
            go_round
            case rel => exact ⟨j + 1, b, by simp, by omega, rfl, HN⟩
            case measure => simp [RowKit.intOf]; omega
      · obtain rfl : j = room := by omega
        have t : ¬ (j : Int) < (j : Int) := by omega
        have hb' := hb.out
        rw [← HL.out] at hb'
        by_cases hkn : k < L.length
        · have e := best_end HSE.out hkn hb'
          have hne := (HSE.out.at hkn).2.2
          rw [← e] at hne
          have he := empty_bytes b
          rw [decide_eq_false hne] at he
          have HE : Hid (b = nmOf L k) := e
          have HN := nameCells_take hkn
          rw [← e] at HN
          have HN' : Hid (nameCells (L.take (k + 1)) = nameCells (L.take k) ++ [.string b]) := HN
          clear e hne HN hb' hb
          have hsz := hB.size
          have hown := HO.out
          have hge := own_ge hown
          have hown2 := hown.alloc (.cells #[.string b] 9)
          have hB2 : Below w.heap.size w (wr.alloc (.cells #[.string b] 9)) := hB.alloc hsz _
          have hcn := cell_one_new wr (.string b) 9
          go_wp2_with (at_builtin; refine wpList_append_own _ rfl _ _ 31 rfl w.heap.size 9 i0 (.string { data := #[] }) 1 16 Try.underlying31 hi0 hz0 hzs hzb rfl (by decide) _ _ _ rfl hown2 ⟨wr.heap.size, 0, none⟩ 1 1 [.string b] rfl rfl ?hnews ?hone ?h63 ?hbytes ?hbase ?_)
          case hone => rfl
          case h63 => unfold maxLen; omega
          case hbytes => omega
          case hbase => omega
          intro v' w' hown' hgrow _
          have hB3 : Below w.heap.size w w' := hB2.grown hgrow (by simp; omega) hge
          rw [← HN'.out] at hown'
          clear hown2 hB2 hcn hown hgrow
          go_wp2_with fail
          go_roundg (gk - 1)
          case measure => omega
          case rel => exact ⟨k + 1, by omega, by rw [lastOf_succ, ← HE.out], hown', hB3⟩
        · obtain rfl : k = L.length := by omega
          have e := best_none HSE.out hb'
          subst e
          clear hb' hb
          have hown := HO.out
          rw [List.take_of_length_le (Nat.le_refl _)] at hown
          have he := empty_bytes none4
          rw [decide_eq_true rfl] at he
          have HO2 : Hid (wr.ownsRow w.heap.size 9 1 u3 L.length (nameCells L)) := hown
          clear hown HO
          go_wp2_with fail
          go_ret
          exact ⟨_, rfl, hB, HO2.out⟩
end Go.Proofs.Ytkmjkgmkbkkfdaa
