/-
  The contract of the law's text: so many letters.
-/
import Derived.Test.YtcgojnofkbjinaaSumForms
import Derived.Test.YtcgojnofkbjinaaOwnRows
import Derived.OwnWalk
namespace Go.Proofs.Ytcgojnofkbjinaa
open Go.ChangeShapes Go.WideShapes Go.ChangeAt Go.RowKit Go.Lib

theorem infoB : (Try.prog.info? 5).map (fun i => (i.zero, i.size, i.bytes)) = some (some (.int .u8 0), 1, 1) := by kernel_rfl
theorem cell_byte_new (w : World) (x : Value) (t : TypeId) : ∀ j u, ([x] : List Value)[j]? = some u → (w.alloc (.cells #[x] t)).cell? ((⟨w.heap.size, 0, none⟩ : Addr).add j) = some u := by
  intro j u hj
  rw [Addr.add_lit, Nat.zero_add]
  match j, hj with
  | 0, hj => simp at hj; subst hj; simp
  | j + 1, hj => simp at hj
theorem letters_text (m : Nat) (hm : 1 ≤ m) (W : World) (v : Value) (h : Row W v m fun _ => .int .u8 97) : (convert 52 9 v).run Try.prog W = .ok (.string (mk (List.replicate m 97))) W := by
  obtain ⟨a, cap, rfl, h1, h2, h3⟩ := h
  obtain ⟨b, off, rfl, _⟩ := h3 0 (by omega)
  have := bytes_text (List.replicate m 97) W b off cap (fun j hj => by
    rw [List.length_replicate] at hj
    obtain ⟨b', off', e, hc⟩ := h3 j hj
    simp only [Option.some.injEq, Addr.mk.injEq, and_true] at e
    obtain ⟨rfl, rfl⟩ := e
    rw [List.getElem_replicate]
    exact hc)
  rw [List.length_replicate] at this
  exact this
set_option maxRecDepth 1000000 in
set_option maxHeartbeats 4000000 in
theorem text_any (m : Nat) (hm : 1 ≤ m) (hm2 : m ≤ 1000) (w : World) :
    Calls Try.prog 15 #[.int .i64 (m : Int)] w fun e w' => e = .returned (.string (mk (List.replicate m 97))) ∧ Below w.heap.size w w' := by
  obtain ⟨i0, hi0, hz0, hzs, hzb⟩ := info_parts infoB
  go_enter Try.func15, Try.ntmps15
  go_wp2_with (at_make; refine wpList_make_own _ rfl _ _ 52 rfl w.heap.size 5 i0 (.int .u8 0) 1 Try.underlying52 hi0 hz0 hzs .i64 .i64 _ m rfl rfl ?hC ?b2 ?b3 ?b4 ?_)
  case b2 => rw [hzb]; omega
  case b3 => unfold maxLen; omega
  case b4 => exact Nat.le_refl _
  case hC => first | rfl | omega | (simp; omega)
  intro w1 hown1 hg1
  have B1 : Below w.heap.size w w1 := (But.of_grown hg1).below (Nat.le_refl _) (fun i hi => by simp at hi)
  clear hg1
  go_wp2_with fail
  go_loopw [3, 8] (fun v i wr => ∃ k : Nat, i = .int .i64 (k : Int) ∧ k ≤ m ∧ wr.ownsRow w.heap.size 5 1 v k (List.replicate k (.int .u8 97)) ∧ Below w.heap.size w wr) (fun _ i _ => m - (RowKit.intOf i).toNat)
  case atStart => exact ⟨0, rfl, by omega, hown1, B1⟩
  case round =>
    clear hown1 B1
    obtain ⟨k, rfl, hk, ho, hB⟩ := hrel
    obtain ⟨a0, cap0, rfl⟩ := own_shape ho
    by_cases hp : k < m
    · have t0 : (k : Int) < (m : Int) := by omega
      have BA := (Below.refl _ wr).alloc (Nat.le_refl _) (.cells #[.int .u8 97] 5)
      have hown := own_below ho BA
      have hcn := cell_byte_new wr (.int .u8 97) 5
      have hz := hB.size
      have HB2 : Hid (Below w.heap.size w (wr.alloc (.cells #[.int .u8 97] 5))) := hB.trans (BA.mono hz)
      clear ho BA hB
      go_wp2_with (at_builtin; refine wpList_append_own_at _ rfl _ _ 52 rfl w.heap.size 5 i0 (.int .u8 0) 1 1 Try.underlying52 hi0 hz0 hzs hzb rfl (by decide) _ _ _ rfl hown ⟨wr.heap.size, 0, none⟩ 1 1 [.int .u8 97] rfl rfl ?hnews ?hone ?h63 ?hbytes ?hbase ?_)
      case hnews => exact hcn
      case hone => simp [Value.oneCell']
      case h63 => unfold maxLen; omega
      case hbytes => omega
      case hbase => first | omega | (simp; omega)
      intro v5 w5 hown5 hg5 _ _
      have B5 := HB2.out.trans ((But.of_grown hg5).below (n := w.heap.size) HB2.out.size (fun g hg => own_ge hown g hg))
      rw [← List.replicate_succ'] at hown5
      clear hg5 hown hcn
      go_wp2_with fail
      go_roundw
      case rel => exact ⟨k + 1, by simp, by omega, hown5, B5⟩
      case measure => simp [RowKit.intOf]; omega
    · obtain rfl : k = m := by omega
      have t0 : ¬ (k : Int) < (k : Int) := by omega
      have cv := letters_text k hm wr _ (row_of_own ho (fun _ => .int .u8 97) (fun i hi => by simp [hi]))
      clear ho
      go_wp2_with fail
      go_ret
      exact ⟨rfl, hB⟩
end Go.Proofs.Ytcgojnofkbjinaa
