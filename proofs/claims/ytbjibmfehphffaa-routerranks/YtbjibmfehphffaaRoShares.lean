/-
  Contract of router's shares: those of the offers that may get something.
-/
import Derived.Test.YtbjibmfehphffaaRoMath
import Derived.Test.YtbjibmfehphffaaOwnRows
import Derived.Maps.AppendAt
import Derived.Laws.OwnMore
namespace Go.Proofs.Ytbjibmfehphffaa.RO
open Go.ChangeShapes Go.WideShapes Go.ChangeAt Go.RowKit

def cellsS (x : Sh) : List Value := [.int .i64 x.pl, .int .i64 x.sh, .int .i64 x.st, .int .i64 x.gt]
def allS (xs : List Sh) : List Value := xs.flatMap cellsS
theorem cellsS_one (x : Sh) : ∀ u ∈ cellsS x, u.oneCell' = true := by
  intro u hu
  simp only [cellsS, List.mem_cons, List.not_mem_nil, or_false] at hu
  rcases hu with rfl | rfl | rfl | rfl <;> rfl
theorem allS_more (xs : List Sh) (x : Sh) : allS (xs ++ [x]) = allS xs ++ cellsS x := by simp [allS]
theorem allS_length : ∀ xs : List Sh, (allS xs).length = xs.length * 4
  | [] => rfl
  | x :: r => by
    have := allS_length r
    simp only [allS, List.flatMap_cons, List.length_append, List.length_cons] at *
    simp only [cellsS, List.length_cons, List.length_nil]
    omega
theorem allS_at : ∀ (xs : List Sh) (i j : Nat) (x : Sh), xs[i]? = some x → j < 4 → (allS xs)[i * 4 + j]? = (cellsS x)[j]?
  | [], i, _, x, h, _ => by simp at h
  | y :: r, 0, j, x, h, hj => by
    simp at h
    subst h
    rw [Nat.zero_mul, Nat.zero_add]
    show (cellsS y ++ allS r)[j]? = _
    rw [List.getElem?_append_left (by simpa [cellsS] using hj)]
  | y :: r, i + 1, j, x, h, hj => by
    show (cellsS y ++ allS r)[(i + 1) * 4 + j]? = _
    have hl : (cellsS y).length = 4 := rfl
    rw [List.getElem?_append_right (by omega), hl, show (i + 1) * 4 + j - 4 = i * 4 + j by omega]
    exact allS_at r i j x (by simpa using h) hj
theorem info_share : (Try.prog.info? 66).map (fun i => (i.zero, i.size, i.bytes)) = some (some (.agg #[.int .i64 0, .int .i64 0, .int .i64 0, .int .i64 0]), 4, 32) := by kernel_rfl
theorem cell_four_new (w : World) (x : Sh) (t : TypeId) : ∀ j u, (cellsS x)[j]? = some u → (w.alloc (.cells #[.int .i64 x.pl, .int .i64 x.sh, .int .i64 x.st, .int .i64 x.gt] t)).cell? ((⟨w.heap.size, 0, none⟩ : Addr).add j) = some u := by
  intro j u hj
  rw [Addr.add_lit, Nat.zero_add]
  match j, hj with
  | 0, hj => simp [cellsS] at hj; subst hj; simp
  | 1, hj => simp [cellsS] at hj; subst hj; simp
  | 2, hj => simp [cellsS] at hj; subst hj; simp
  | 3, hj => simp [cellsS] at hj; subst hj; simp
  | j + 4, hj => simp [cellsS] at hj
set_option maxRecDepth 100000 in
set_option maxHeartbeats 2000000 in
theorem shares_any (lot : Int) (n : Nat) (L : Nat → Of) (v : Value) (w : World) (h : RowL w v n L) (hn : n ≤ 1000) (l1 : 1 ≤ lot) (l2 : lot ≤ 1099511627776) (hw : ∀ i, i < n → wrongB (L i) = false) :
    Calls Try.prog 32 #[.int .i64 lot, v] w fun e w' => ∃ v', e = .returned v' ∧ Hid (w'.ownsRow w.heap.size 66 4 v' (sharesL lot (listO L n)).length (allS (sharesL lot (listO L n))) ∧ Below w.heap.size w w') := by
  obtain ⟨a, cap, rfl, hcap, hc⟩ := id h
  obtain ⟨i0, hi0, hz0, hzs, hzb⟩ := info_parts info_share
  have HW : Hid (∀ i, i < n → wrongB (L i) = false) := hw
  clear hw
  go_enter Try.func32, Try.ntmps32
  go_wp2_with fail
  go_loopw [5, 12] (fun y x wr => ∃ i : Nat, x = .int .i64 (i : Int) ∧ i ≤ n ∧ Hid (wr.ownsRow w.heap.size 66 4 y (sharesL lot (listO L i)).length (allS (sharesL lot (listO L i)))) ∧ Below w.heap.size w wr) (fun _ x _ => n - (RowKit.intOf x).toNat)
  case atStart => exact ⟨0, rfl, Nat.zero_le _, World.ownsRow_nil _ _ _ _, Below.refl _ _⟩
  case round =>
    obtain ⟨i, rfl, hi, hown, hB⟩ := hrel
    by_cases hlt : i < n
    · have t : (i : Int) < (n : Int) := by omega
      obtain ⟨b, o, rfl, c⟩ := hc i hlt
      have hx0 := wrong_false (HW.out i hlt)
      have HM : Hid (sharesL lot (listO L (i + 1)) = sharesL lot (listO L i) ++ shareO lot (L i)) := by show _ = _; rw [listO_more, sharesL_more]
      have hlen : (sharesL lot (listO L i)).length ≤ 1000 := by have := sharesL_len lot (listO L i); rw [listO_length] at this; omega
      have c' := c.below hB
      have hsp : stepOf lot (L i) = if (L i).ok = true ∧ stE lot (L i).lt = 0 ∧ stN lot (L i).lt ≤ 1099511627776 then stN lot (L i).lt else 0 := rfl
      have hpos := fun e => stN_pos l1 hx0.1 e
      have hstep := fun w => step_any lot (L i).lt w (by omega) (by omega) (by omega) (by omega)
      unfold shareO at HM
      generalize stepOf lot (L i) = sp at hsp HM
      generalize sharesL lot (listO L i) = xs at *
      obtain ⟨x, hx⟩ : ∃ x, L i = x := ⟨_, rfl⟩
      rw [hx] at c' hsp hpos hstep hx0 HM
      clear hx c hc h
      obtain ⟨x0, x1, x2, x3, x4⟩ := x
      obtain ⟨c0, c1, c2, c3, c4⟩ := c'.all
      clear c' hx0
      simp only at c0 c1 c2 c3 c4 hsp hpos hstep HM
      generalize stN lot x1 = N at hsp hpos hstep
      generalize stE lot x1 = E at hsp hpos hstep
      have HP : Hid (E = 0 → 1 ≤ N) := hpos
      clear hpos
      obtain ⟨au, nu, cu, rfl⟩ : ∃ au nu cu, u5 = Value.slice au nu cu := by
        obtain ⟨au, cu, e⟩ := own_shape hown.out
        exact ⟨au, _, cu, e⟩
      have hs := hB.size
      by_cases hk : x4 = true ∧ E = 0 ∧ N ≤ 1099511627776
      · obtain ⟨rfl, rfl, hN⟩ := hk
        have HN1 : Hid (1 ≤ N) := HP.out rfl
        rw [if_pos ⟨rfl, rfl, hN⟩] at hsp
        subst hsp
        have HM2 : Hid (sharesL lot (listO L (i + 1)) = xs ++ [⟨x0, x3, sp, 0⟩]) := by
          show _ = _
          rw [HM.out, if_neg (by have := HN1.out; omega)]
        clear HM HP
        go_wp2_with fail
        refine (hstep _).mono ?_
        rintro e w2 ⟨rfl, hb2⟩
        have hb3 : Below wr.heap.size wr w2 := ((Below.refl _ _).alloc (Nat.le_refl _) _).trans (hb2.mono (by simp))
        have q0 := (hb2.cell (p := ⟨wr.heap.size, 0, none⟩) (by simp)).trans (show _ = some (.int .i64 x0) by simp)
        have q3 := (hb2.cell (p := ⟨wr.heap.size, 3, none⟩) (by simp)).trans (show _ = some (.int .i64 x3) by simp)
        have q4 := (hb2.cell (p := ⟨wr.heap.size, 4, none⟩) (by simp)).trans (show _ = some (.bool true) by simp)
        have hown2 := own_below hown.out hb3
        have hs2 := hb3.size
        clear hstep hb2 hown c0 c1 c2 c3 c4
        go_wp2_with (at_builtin; refine wpList_append_own_at _ rfl _ _ 62 rfl w.heap.size 66 i0 (.agg #[.int .i64 0, .int .i64 0, .int .i64 0, .int .i64 0]) 4 32 Try.underlying62 hi0 hz0 hzs hzb rfl (by decide) _ _ _ rfl (own_below hown2 ((Below.refl _ _).alloc (Nat.le_refl _) _)) ⟨w2.heap.size, 0, none⟩ 1 1 (cellsS ⟨x0, x3, sp, 0⟩) rfl rfl ?hnews (cellsS_one _) ?h63 ?hbytes ?hbase ?_)
        case hnews => exact cell_four_new w2 ⟨x0, x3, sp, 0⟩ _
        case h63 => unfold maxLen; omega
        case hbytes => omega
        case hbase => simp; omega
        intro v' w' hown' hgrow _ _
        have HO : Hid (w'.ownsRow w.heap.size 66 4 v' (sharesL lot (listO L (i + 1))).length (allS (sharesL lot (listO L (i + 1)))) ∧ Below w.heap.size w w') := by
          show _ ∧ _
          rw [HM2.out, allS_more, List.length_append]
          exact ⟨hown', (hB.trans (hb3.mono hs)).trans (((Below.refl w2.heap.size w2).alloc (Nat.le_refl _) _).mono (by omega)) |>.grown hgrow (by simp; omega) (fun k hk => (hown2.lt k hk).1)⟩
        clear hown' hgrow hown2
        go_wp2_with fail
        go_roundw
        case rel => exact ⟨i + 1, by simp, by omega, HO.out.1, HO.out.2⟩
        case measure => simp [RowKit.intOf] <;> omega
      · have HM2 : Hid (sharesL lot (listO L (i + 1)) = xs) := by
          show _ = _
          rw [if_neg hk] at hsp
          rw [HM.out, hsp, if_pos rfl, List.append_nil]
        clear HM HP hsp
        cases x4
        · clear hk
          go_wp2_with fail
          refine (hstep _).mono ?_
          rintro e w2 ⟨rfl, hb2⟩
          have hb3 : Below wr.heap.size wr w2 := ((Below.refl _ _).alloc (Nat.le_refl _) _).trans (hb2.mono (by simp))
          have q4 := (hb2.cell (p := ⟨wr.heap.size, 4, none⟩) (by simp)).trans (show _ = some (.bool false) by simp)
          have hown2 := own_below hown.out hb3
          have HB2 := hB.trans (hb3.mono hs)
          clear hstep hb2 hown c0 c1 c2 c3 c4
          go_wp2_with fail
          go_roundw
          case rel => exact ⟨i + 1, by simp, by omega, by show World.ownsRow _ _ _ _ _ _ _; rw [HM2.out]; exact hown2, HB2⟩
          case measure => simp [RowKit.intOf] <;> omega
        · by_cases hE : E = 0
          · have hN : ¬ N ≤ 1099511627776 := fun k => hk ⟨rfl, hE, k⟩
            subst hE
            clear hk
            go_wp2_with fail
            refine (hstep _).mono ?_
            rintro e w2 ⟨rfl, hb2⟩
            have hb3 : Below wr.heap.size wr w2 := ((Below.refl _ _).alloc (Nat.le_refl _) _).trans (hb2.mono (by simp))
            have q4 := (hb2.cell (p := ⟨wr.heap.size, 4, none⟩) (by simp)).trans (show _ = some (.bool true) by simp)
            have hown2 := own_below hown.out hb3
            have HB2 := hB.trans (hb3.mono hs)
            clear hstep hb2 hown c0 c1 c2 c3 c4
            go_wp2_with fail
            go_roundw
            case rel => exact ⟨i + 1, by simp, by omega, by show World.ownsRow _ _ _ _ _ _ _; rw [HM2.out]; exact hown2, HB2⟩
            case measure => simp [RowKit.intOf] <;> omega
          · clear hk
            go_wp2_with fail
            refine (hstep _).mono ?_
            rintro e w2 ⟨rfl, hb2⟩
            have hb3 : Below wr.heap.size wr w2 := ((Below.refl _ _).alloc (Nat.le_refl _) _).trans (hb2.mono (by simp))
            have q4 := (hb2.cell (p := ⟨wr.heap.size, 4, none⟩) (by simp)).trans (show _ = some (.bool true) by simp)
            have hown2 := own_below hown.out hb3
            have HB2 := hB.trans (hb3.mono hs)
            clear hstep hb2 hown c0 c1 c2 c3 c4
            go_wp2_with fail
            go_roundw
            case rel => exact ⟨i + 1, by simp, by omega, by show World.ownsRow _ _ _ _ _ _ _; rw [HM2.out]; exact hown2, HB2⟩
            case measure => simp [RowKit.intOf] <;> omega
    · have t : ¬ (i : Int) < (n : Int) := by omega
      obtain rfl : i = n := by omega
      go_wp2_with fail
      go_ret
      exact ⟨_, rfl, hown.out, hB⟩
end Go.Proofs.Ytbjibmfehphffaa.RO
