/-
  Contract of roster's Sorted: the names in their order, in new memory.
-/
import Derived.Test.YtkmjkgmkbkkfdaaRosterPut
namespace Go.Proofs.Ytkmjkgmkbkkfdaa
open Go.ChangeShapes Go.WideShapes Go.ChangeAt Go.RowKit Go.Lib

/-- Names as cells. -/
def nameCells (L : List (ByteArray × Nat)) : List Value := L.map fun x => .string x.1
theorem nameCells_take {L : List (ByteArray × Nat)} {k : Nat} (h : k < L.length) : nameCells (L.take (k + 1)) = nameCells (L.take k) ++ [.string (nmOf L k)] := by
  unfold nameCells
  rw [List.take_succ_eq_append_getElem h, nmOf_at h, List.map_append]
  rfl
theorem nameCells_at {L : List (ByteArray × Nat)} {i : Nat} (hi : i < L.length) : (nameCells L)[i]? = some (.string (nmOf L i)) := by
  unfold nameCells
  rw [nmOf_at hi]
  simp [hi]
theorem row_of_own {w : World} {base : Nat} {e : TypeId} {v : Value} {n : Nat} {xs : List Value} (h : w.ownsRow base e 1 v n xs) (f : Nat → Value) (hf : ∀ i, i < n → xs[i]? = some (f i)) : Row w v n f := by
  have hcs := fun g hg => h.cells (g := g) hg
  rcases h.2 with ⟨rfl, rfl⟩ | ⟨g, cap, cur, rfl, _, _, h1, h2, _⟩
  · exact ⟨none, 0, rfl, Nat.le_refl _, by unfold maxLen; omega, fun i hi => absurd hi (by omega)⟩
  · refine ⟨_, cap, rfl, h1, h2, fun i hi => ⟨g, 0, rfl, ?_⟩⟩
    have := hcs g rfl i (f i) (hf i hi)
    rw [show (⟨g, 0, none⟩ : Addr).add i = ⟨g, 0 + i, none⟩ from by unfold Addr.add; split <;> simp_all] at this
    exact this

theorem own_ge {w : World} {base : Nat} {e : TypeId} {size : Nat} {v : Value} {n : Nat} {xs : List Value} (h : w.ownsRow base e size v n xs) : ∀ g, v.ownBlock = some g → base ≤ g := fun g hg => by
  rcases h.2 with ⟨rfl, _⟩ | ⟨g', cap, cur, rfl, hb, _⟩
  · simp [Value.ownBlock] at hg
  · simp [Value.ownBlock] at hg
    omega

set_option maxRecDepth 100000 in
set_option maxHeartbeats 4000000 in
theorem sorted_any {w : World} {p q c room : Nat} {S : Option Addr} {sl : Nat → ByteArray} {L : List (ByteArray × Nat)} (h : Ros w p q S c room sl L) :
    Calls Try.prog 23 #[.pointer (some ⟨p, 0, none⟩)] w fun e w' => ∃ v', e = .returned v' ∧ Below w.heap.size w w' ∧ w'.ownsRow w.heap.size 9 1 v' L.length (nameCells L) := by
  have F1 := made_yes p room room _ w h.first h.slots
  have hs := h.seats
  have hlen := h.len
  obtain ⟨i0, hi0, hz0, hzs, hzb⟩ := info_parts infoStr
  have hmk : ∀ w, (Instr.makeSlice 31 (.int .i64 0) (.int .i64 (L.length : Int))).run Try.prog w = .ok (.slice (some ⟨w.heap.size, 0, none⟩) 0 L.length) (w.alloc (.cells (madeCells #[.string { data := #[] }] L.length) 9)) := fun w => by
    have := run_make (P := Try.prog) w 31 9 i0 _ Try.underlying31 hi0 hz0 .i64 .i64 0 (L.length : Int) (by omega) (by omega) (by rw [hzb]; omega) (by omega)
    simpa [hzs, Value.cells] using this
  obtain ⟨A, HA⟩ : ∃ A, madeCells #[.string { data := #[] }] L.length = A := ⟨_, rfl⟩
  have hA : A.size = L.length := by rw [← HA, size_madeCells]
  rw [HA] at hmk
  have hp := h.pthere
  have hs1 : (w.alloc (.cells A 9)).cell? ⟨p, 0, none⟩ = some (.slice S L.length c) := by rw [World.cell?_alloc_past _ _ _ hp]; exact hs
  have eR : (w.alloc (.cells A 9)).ownsRow w.heap.size 9 1 (.slice (some ⟨w.heap.size, 0, none⟩) 0 L.length) 0 [] :=
    World.ownsRow_made (e := 9) (size := 1) (base := w.heap.size) w A L.length (Nat.le_refl _) (by unfold maxLen; omega) (by omega)
  have HR : Hid ((w.alloc (.cells A 9)).ownsRow w.heap.size 9 1 (.slice (some ⟨w.heap.size, 0, none⟩) 0 L.length) 0 []) := eR
  have hB0 : Below w.heap.size w (w.alloc (.cells A 9)) := (Below.refl _ w).alloc (Nat.le_refl _) _
  clear HA hA eR
  go_enter Try.func23, Try.ntmps23
  go_wp2_with fail
  refine F1.mono ?_
  rintro e w1 ⟨rfl, rfl⟩
  go_wp2_with fail
  go_loopw [3, 20] (fun v i wr => ∃ k : Nat, i = .int .i64 (k : Int) ∧ k ≤ L.length ∧ wr.ownsRow w1.heap.size 9 1 v k (nameCells (L.take k)) ∧ Below w1.heap.size w1 wr) (fun _ i _ => L.length - (RowKit.intOf i).toNat)
  case atStart => exact ⟨0, rfl, Nat.zero_le _, HR.out, hB0⟩
  case round =>
    obtain ⟨k, rfl, hk, hown, hB⟩ := hrel
    clear HR hB0 F1 hmk hs1
    by_cases hlt : k < L.length
    · have t : (k : Int) < (L.length : Int) := by omega
      obtain ⟨s, rfl, hc⟩ := h.names k hlt
      obtain ⟨s', e', hc'⟩ := h.nums k hlt
      injection e' with e'
      injection e' with e'
      subst e'
      have hd := (hB.cell (p := ⟨s, k * 2, none⟩) (World.block_lt_of_cell? _ _ hc)).trans hc
      have hd' := (hB.cell (p := ⟨s, k * 2 + 1, none⟩) (World.block_lt_of_cell? _ _ hc')).trans hc'
      have HN := nameCells_take hlt
      obtain ⟨y, HY⟩ : ∃ y, nmOf L k = y := ⟨_, rfl⟩
      obtain ⟨z, HZ⟩ : ∃ z, slOf L k = z := ⟨_, rfl⟩
      rw [HY] at hd HN
      rw [HZ] at hd'
      have HN' : Hid (nameCells (L.take (k + 1)) = nameCells (L.take k) ++ [.string y]) := HN
      have hsz := hB.size
      clear hc hc' HN HY HZ hs
      have hown2 := (hown.alloc (.cells #[.string y, .int .i64 (z : Int)] 61)).alloc (.cells #[.string y] 9)
      have hB2 : Below w1.heap.size w1 ((wr.alloc (.cells #[.string y, .int .i64 (z : Int)] 61)).alloc (.cells #[.string y] 9)) := (hB.alloc hsz _).alloc (by simp; omega) _
      have hcn := cell_one_new (wr.alloc (.cells #[.string y, .int .i64 (z : Int)] 61)) (.string y) 9
      go_wp2_with (at_builtin; refine wpList_append_own _ rfl _ _ 31 rfl w1.heap.size 9 i0 (.string { data := #[] }) 1 16 Try.underlying31 hi0 hz0 hzs hzb rfl (by decide) _ _ _ rfl hown2 ⟨wr.heap.size + 1, 0, none⟩ 1 1 [.string y] rfl rfl ?hnews ?hone ?h63 ?hbytes ?hbase ?_)
      case hone => rfl
      case h63 => unfold maxLen; omega
      case hbytes => omega
      case hbase => omega
      intro v' w' hown' hgrow _
      have hge := own_ge hown
      have hB3 : Below w1.heap.size w1 w' := hB2.grown hgrow (by simp; omega) hge
      rw [← HN'.out] at hown'
      clear hown2 hB2 hcn hown hgrow hd hd'
      go_wp2_with fail
      go_roundw
      case rel => exact ⟨k + 1, by simp, by omega, hown', hB3⟩
      case measure => simp [RowKit.intOf]; omega
    · obtain rfl : k = L.length := by omega
      rw [List.take_of_length_le (Nat.le_refl _)] at hown
      have t : ¬ (L.length : Int) < (L.length : Int) := by omega
      clear hs
      go_wp2_with fail
      go_ret
      exact ⟨_, rfl, hB, hown⟩
end Go.Proofs.Ytkmjkgmkbkkfdaa
