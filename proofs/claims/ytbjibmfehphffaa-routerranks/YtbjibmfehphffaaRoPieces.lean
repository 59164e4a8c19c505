/-
  Contract of router's pieces: what those got that got something.
-/
import Derived.Test.YtbjibmfehphffaaRoRound
namespace Go.Proofs.Ytbjibmfehphffaa.RO
open Go.ChangeShapes Go.WideShapes Go.ChangeAt Go.RowKit

def cellsP (x : Pc) : List Value := [.int .i64 x.pl, .int .i64 x.q]
def allP (xs : List Pc) : List Value := xs.flatMap cellsP
theorem cellsP_one (x : Pc) : ∀ u ∈ cellsP x, u.oneCell' = true := by
  intro u hu
  simp only [cellsP, List.mem_cons, List.not_mem_nil, or_false] at hu
  rcases hu with rfl | rfl <;> rfl
theorem allP_more (xs : List Pc) (x : Pc) : allP (xs ++ [x]) = allP xs ++ cellsP x := by simp [allP]
theorem allP_at : ∀ (xs : List Pc) (i j : Nat) (x : Pc), xs[i]? = some x → j < 2 → (allP xs)[i * 2 + j]? = (cellsP x)[j]?
  | [], i, _, x, h, _ => by simp at h
  | y :: r, 0, j, x, h, hj => by
    simp at h
    subst h
    rw [Nat.zero_mul, Nat.zero_add]
    show (cellsP y ++ allP r)[j]? = _
    rw [List.getElem?_append_left (by simpa [cellsP] using hj)]
  | y :: r, i + 1, j, x, h, hj => by
    show (cellsP y ++ allP r)[(i + 1) * 2 + j]? = _
    have hl : (cellsP y).length = 2 := rfl
    rw [List.getElem?_append_right (by omega), hl, show (i + 1) * 2 + j - 2 = i * 2 + j by omega]
    exact allP_at r i j x (by simpa using h) hj
theorem piecesL_len : ∀ xs : List Sh, (piecesL xs).length ≤ xs.length
  | [] => Nat.le_refl _
  | x :: r => by
    have := piecesL_len r
    have : (pieceO x).length ≤ 1 := by unfold pieceO; split <;> simp
    simp only [piecesL, List.flatMap_cons, List.length_append, List.length_cons] at *
    omega
theorem info_piece : (Try.prog.info? 45).map (fun i => (i.zero, i.size, i.bytes)) = some (some (.agg #[.int .i64 0, .int .i64 0]), 2, 16) := by kernel_rfl
theorem cell_two_new (w : World) (x : Pc) (t : TypeId) : ∀ j u, (cellsP x)[j]? = some u → (w.alloc (.cells #[.int .i64 x.pl, .int .i64 x.q] t)).cell? ((⟨w.heap.size, 0, none⟩ : Addr).add j) = some u := by
  intro j u hj
  rw [Addr.add_lit, Nat.zero_add]
  match j, hj with
  | 0, hj => simp [cellsP] at hj; subst hj; simp
  | 1, hj => simp [cellsP] at hj; subst hj; simp
  | j + 2, hj => simp [cellsP] at hj
theorem pieces_nil (w : World) : Calls Try.prog 36 #[.slice none 0 0] w fun e w' => e = .returned (.slice none 0 0) ∧ w = w' := by
  go_enter Try.func36, Try.ntmps36
  go_wp2_with fail
  refine wp_loop_rounds 1 ?_
  rw [rounds_succ]
  go_wp2_with fail
  go_ret
  exact ⟨rfl, rfl⟩
set_option maxRecDepth 100000 in
set_option maxHeartbeats 2000000 in
theorem pieces_any (xs : List Sh) (g cap : Nat) (w : World) (h : ShG w g xs) (hn : xs.length ≤ 1000) :
    Calls Try.prog 36 #[.slice (some ⟨g, 0, none⟩) xs.length cap] w fun e w' => ∃ v', e = .returned v' ∧ Hid (w'.ownsRow w.heap.size 45 2 v' (piecesL xs).length (allP (piecesL xs)) ∧ Below w.heap.size w w') := by
  obtain ⟨i0, hi0, hz0, hzs, hzb⟩ := info_parts info_piece
  have HH : Hid (ShG w g xs) := h
  clear h
  go_enter Try.func36, Try.ntmps36
  go_wp2_with fail
  go_loopw [3, 8] (fun y x wr => ∃ ys zs : List Sh, x = .int .i64 (ys.length : Int) ∧ ys.length + zs.length = xs.length ∧ Hid (xs = ys ++ zs ∧ wr.ownsRow w.heap.size 45 2 y (piecesL ys).length (allP (piecesL ys))) ∧ Below w.heap.size w wr) (fun _ x _ => xs.length - (RowKit.intOf x).toNat)
  case atStart => exact ⟨[], xs, rfl, by simp, ⟨rfl, World.ownsRow_nil _ _ _ _⟩, Below.refl _ _⟩
  case round =>
    obtain ⟨ys, zs, rfl, hl, HI, hB⟩ := hrel
    cases zs with
    | nil =>
      have t : ¬ (ys.length : Int) < (xs.length : Int) := by simp at hl; omega
      have HE : Hid (xs = ys) := by show _ = _; rw [HI.out.1]; simp
      go_wp2_with fail
      go_ret
      exact ⟨_, rfl, by rw [HE.out]; exact HI.out.2, hB⟩
    | cons x zs =>
      have hle : ys.length + zs.length + 1 = xs.length := by simp at hl; omega
      have t : (ys.length : Int) < (xs.length : Int) := by omega
      have h1 := HH.out.below hB
      rw [HI.out.1] at h1
      have hc := h1.get
      have hs := hB.size
      have hg := HH.out.lt
      have hpl := piecesL_len ys
      have HM : Hid (xs = (ys ++ [x]) ++ zs ∧ piecesL (ys ++ [x]) = piecesL ys ++ pieceO x) := ⟨by rw [HI.out.1]; simp, piecesL_more ys x⟩
      have hown : Hid (wr.ownsRow w.heap.size 45 2 u3 (piecesL ys).length (allP (piecesL ys))) := HI.out.2
      obtain ⟨au, nu, cu, rfl⟩ : ∃ au nu cu, u3 = Value.slice au nu cu := by
        obtain ⟨au, cu, e⟩ := own_shape hown.out
        exact ⟨au, _, cu, e⟩
      clear h1 HI hl
      unfold pieceO at HM
      generalize piecesL ys = ps at *
      obtain ⟨x0, x1, x2, x3⟩ := x
      obtain ⟨c0, c1, c2, c3⟩ := hc.all
      clear hc
      simp only at c0 c1 c2 c3 HM
      have gl : g < wr.heap.size := by omega
      by_cases hk : 0 < x3
      · rw [if_pos hk] at HM
        go_wp2_with (at_builtin; refine wpList_append_own_at _ rfl _ _ 38 rfl w.heap.size 45 i0 (.agg #[.int .i64 0, .int .i64 0]) 2 16 Try.underlying38 hi0 hz0 hzs hzb rfl (by decide) _ _ _ rfl (own_below (own_below hown.out ((Below.refl _ _).alloc (Nat.le_refl _) _)) ((Below.refl _ _).alloc (Nat.le_refl _) _)) ⟨wr.heap.size + 1, 0, none⟩ 1 1 (cellsP ⟨x0, x3⟩) rfl rfl ?hnews (cellsP_one _) ?h63 ?hbytes ?hbase ?_)
        case hnews => exact fun j u hj => by have := cell_two_new (wr.alloc (.cells #[.int .i64 x0, .int .i64 x1, .int .i64 x2, .int .i64 x3] 66)) ⟨x0, x3⟩ 45 j u hj; simpa using this
        case h63 => unfold maxLen; omega
        case hbytes => omega
        case hbase => simp; omega
        intro v' w' hown' hgrow _ _
        have hB1 : Below w.heap.size w ((wr.alloc (.cells #[.int .i64 x0, .int .i64 x1, .int .i64 x2, .int .i64 x3] 66)).alloc (.cells #[.int .i64 x0, .int .i64 x3] 45)) := (hB.alloc hs _).alloc (by simp; omega) _
        have HO : Hid (w'.ownsRow w.heap.size 45 2 v' (piecesL (ys ++ [⟨x0, x1, x2, x3⟩])).length (allP (piecesL (ys ++ [⟨x0, x1, x2, x3⟩]))) ∧ Below w.heap.size w w') := by
          show _ ∧ _
          rw [HM.out.2, allP_more, List.length_append]
          exact ⟨hown', hB1.grown hgrow (by simp; omega) (fun k hk => (hown.out.lt k hk).1)⟩
        clear hown' hgrow
        go_wp2_with fail
        go_roundw
        case rel => exact ⟨ys ++ [⟨x0, x1, x2, x3⟩], zs, by simp, by simp; omega, ⟨HM.out.1, HO.out.1⟩, HO.out.2⟩
        case measure => simp [RowKit.intOf] <;> omega
      · rw [if_neg hk, List.append_nil] at HM
        have HO := own_below hown.out ((Below.refl wr.heap.size wr).alloc (Nat.le_refl _) (.cells #[.int .i64 x0, .int .i64 x1, .int .i64 x2, .int .i64 x3] 66))
        go_wp2_with fail
        go_roundw
        case rel => exact ⟨ys ++ [⟨x0, x1, x2, x3⟩], zs, by simp, by simp; omega, ⟨HM.out.1, by rw [HM.out.2]; exact HO⟩, hB.alloc hs _⟩
        case measure => simp [RowKit.intOf] <;> omega
end Go.Proofs.Ytbjibmfehphffaa.RO
