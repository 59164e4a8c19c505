/-
  Contract of slices.Delete at seats, one seat taken out.
-/
import Derived.Test.YtkmjkgmkbkkfdaaSeatIns
namespace Go.Proofs.Ytkmjkgmkbkkfdaa
open Go.ChangeShapes Go.WideShapes Go.ChangeAt Go.RowKit Go.Lib

theorem run_clear_seat (w : World) (ty : TypeId) (b o c : Nat)
    (hc : ∀ j, j < 2 → (w.cell? ⟨b, o + j, none⟩).isSome = true) (hf : ∀ j, j < 2 → w.frozen? ⟨b, o + j, none⟩ = false) :
    (Builtin.clear_ #[50] ty #[.slice (some ⟨b, o, none⟩) 1 c]).run Try.prog w = .ok (.tuple #[]) (w.setCells b o (seatCells (none4, 0))) := by
  obtain ⟨i0, hi0, hz0, hzs, hzb⟩ := info_parts infoSeat
  have hv : ∀ w, (zeroValue 61).run Try.prog w = .ok (.agg #[.string { data := #[] }, .int .i64 0]) w := fun w => by simp [zeroValue, typeInfo, hi0, hz0]
  have hst := run_storeCells_cells (P := Try.prog) b o (seatCells (none4, 0)) 0 w (by simpa [seat_length] using hc) (by simpa [seat_length] using hf) (seat_one _)
  simp only [Nat.add_zero] at hst
  have hzc : (Builtin.zeroCells (Value.agg #[.string { data := #[] }, .int .i64 0]).cells 1).toList = seatCells (none4, 0) := by simp [Builtin.zeroCells, Value.cells, seatCells]; rfl
  simp [Builtin.clear_, run_underlying Try.underlying50, hv, hzc, hst]

set_option maxHeartbeats 4000000 in
set_option maxRecDepth 1000000 in
theorem delete_one (b n c i : Nat) (L : List (ByteArray × Nat)) (w : World) (hi : i < n) (hn : n ≤ 1000000) (hnc : n ≤ c) (_hc63 : c ≤ 9223372036854775807) (hcl : L.length = n)
    (hcs : ∀ j v, (flat L)[j]? = some v → w.cell? ⟨b, j, none⟩ = some v) (hsp : ∀ j, j < c * 2 → (w.cell? ⟨b, j, none⟩).isSome = true) (hfz : ∀ j, j < c * 2 → w.frozen? ⟨b, j, none⟩ = false) :
    Calls Try.prog 29 #[.slice (some ⟨b, 0, none⟩) n c, .int .i64 (i : Int), .int .i64 ((i : Int) + 1)] w fun e w' =>
      e = .returned (.slice (some ⟨b, 0, none⟩) (n - 1) c) ∧ w' = (w.drew.setCells b (i * 2) (flat (L.drop (i + 1)))).setCells b ((n - 1) * 2) (seatCells (none4, 0)) := by
  obtain ⟨i0, hi0, hz0, hzs, hzb⟩ := info_parts infoSeat
  have hne : ((i : Int) == (i : Int) + 1) = false := beq_false_of_ne (by omega)
  have hlen : (flat (L.drop (i + 1))).length = (n - (i + 1)) * 2 := by rw [flat_length, List.length_drop, hcl]
  obtain ⟨A, hA, hsrc⟩ : ∃ A : Addr, (if c = i + 1 then some (⟨b, 0, none⟩ : Addr) else some ⟨b, (i + 1) * 2, none⟩) = some A ∧ Hid (∀ t u, (flat (L.drop (i + 1)))[t]? = some u → w.drew.cell? (A.add t) = some u) := by
    by_cases h : c = i + 1
    · refine ⟨⟨b, 0, none⟩, by simp [h], fun t u hu => ?_⟩
      have h0 : (flat (L.drop (i + 1))).length = 0 := by rw [hlen]; omega
      rw [List.length_eq_zero_iff.1 h0] at hu
      simp at hu
    · refine ⟨⟨b, (i + 1) * 2, none⟩, by simp [h], fun t u hu => ?_⟩
      rw [Addr.add_lit]
      rw [← flat_drop, List.getElem?_drop] at hu
      exact hcs _ _ hu
  obtain ⟨news, hnews⟩ : ∃ news, news = flat (L.drop (i + 1)) := ⟨_, rfl⟩
  have s2 : Hid (∀ u ∈ news, u.oneCell' = true) := by rw [hnews]; exact flat_one _
  rw [← hnews] at hlen hsrc ⊢
  have s1 : Hid (news.length = (n - (i + 1)) * 2) := hlen
  have s3 : Hid (∀ t, t < news.length → (w.drew.cell? ⟨b, 0 + i * 2 + t, none⟩).isSome = true ∧ w.drew.frozen? ⟨b, 0 + i * 2 + t, none⟩ = false) := by
    intro t ht
    exact ⟨hsp _ (by omega), hfz _ (by omega)⟩
  obtain ⟨W1, hW1⟩ : ∃ W1, W1 = w.drew.setCells b (0 + i * 2) news := ⟨_, rfl⟩
  have hcl1 : ∀ ty cc, (Builtin.clear_ #[50] ty #[.slice (some ⟨b, (n - 1) * 2, none⟩) 1 cc]).run Try.prog W1 = .ok (.tuple #[]) (W1.setCells b ((n - 1) * 2) (seatCells (none4, 0))) := fun ty cc =>
    run_clear_seat W1 ty b ((n - 1) * 2) cc (fun j hj => by rw [hW1]; exact isSome_setCells b news (0 + i * 2) w.drew (fun t ht => hsp _ (by omega)) _ (hsp _ (by omega))) (fun j hj => by rw [hW1, World.frozen?_setCells]; exact hfz _ (by omega))
  have HW : Hid (W1 = w.drew.setCells b (0 + i * 2) news) := hW1
  have hic : i ≤ c := by omega
  have hjc : i + 1 ≤ c := by omega
  have hq1 : (0 : Int) ≤ (i : Int) + 1 := by omega
  have hq2 : (i : Int) + 1 ≤ (n : Int) := by omega
  have e1 : n - 1 = i + (n - (i + 1)) := by omega
  have e2 : n - (i + (n - (i + 1))) = 1 := by omega
  rw [e1] at hcl1 ⊢
  clear hW1 hcs hsp hfz hnews hlen e1
  go_enter Try.func29, Try.ntmps29
  go_wp2_with fail
  go_region_law (refine step_append_room rfl (.tmp 22) (.tmp 25) 50 rfl 61 i0 2 Try.underlying50 hi0 hzs b 0 i c (by simp [Act.eval, Act.put]) A (n - (i + 1)) (c - (i + 1)) news (by simp [Act.eval, Act.put]) s1.out hsrc.out s2.out (by omega) s3.out ?_; rw [← HW.out])
  go_wp2
  go_ret
  refine ⟨rfl, ?_⟩
  rw [HW.out, Nat.zero_add]
end Go.Proofs.Ytkmjkgmkbkkfdaa
