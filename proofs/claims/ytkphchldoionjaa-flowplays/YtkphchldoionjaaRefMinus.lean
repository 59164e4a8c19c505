/-
  Contract of the reference's minus: the difference of two lists of bits, the first not below the second.
-/
import Derived.Test.YtkphchldoionjaaRefPlus
namespace Go.Proofs.Ytkphchldoionjaa
open Go.ChangeShapes Go.WideShapes Go.ChangeAt Go.RowKit

set_option maxHeartbeats 2000000 in
theorem minusR_any {B C : Nat} (x y : List Bool) (v u : Value) (w : World) (hv : Reads B w v x) (hu : Reads C w u y) (hx : x.length ≤ 1000000) (hle : val y ≤ val x) :
    Calls Try.prog 45 #[v, u] w fun e w' => ∃ v', e = .returned v' ∧ Below w.heap.size w w' ∧ ∃ l, Reads w.heap.size w' v' l ∧ Canon l ∧ val l = val x - val y ∧ l.length ≤ x.length := by
  obtain ⟨i0, hi, hz0, hz1, hz2⟩ := info_parts Try.infoBool
  have HL : Hid (val y ≤ val x) := hle
  clear hle
  obtain ⟨a, ca, rfl, h1, _, hcell⟩ := id hv
  go_enter Try.func45, Try.ntmps45
  go_wp2_with fail
  go_loopw [5, 6, 7] (fun o c i wr => ∃ (l : List Bool) (q : Bool), i = .int .i64 (l.length : Int) ∧ c = .bool q ∧ wr.ownsRow w.heap.size 4 1 o l.length (l.map Value.bool) ∧ l.length ≤ x.length ∧ Hid (val (x.take l.length) + 2 ^ l.length * q.toNat = val l + val (y.take l.length)) ∧ Below w.heap.size w wr) (fun _ _ i _ => x.length - (intOf i).toNat)
  case atStart => exact ⟨[], false, rfl, rfl, World.ownsRow_nil _ _ _ _, by simp, by show _ = _; simp [val], Below.refl _ _⟩
  case round =>
    obtain ⟨l, q, rfl, rfl, hown, h2, h4, hB⟩ := hrel
    by_cases hlt : l.length < x.length
    · have t : (l.length : Int) < (x.length : Int) := by omega
      obtain ⟨bl, off, rfl, _, hc⟩ := hcell l.length hlt
      have g4 := minus_step x y l q h4.out
      have hs := hB.size
      have hur := hu.below hB
      have hc' := (hB.cell (World.block_lt_of_cell? _ _ hc)).trans hc
      obtain ⟨bx, hbx⟩ : ∃ bx, Hid (x.getD l.length false = bx) := ⟨_, rfl⟩
      obtain ⟨by', hby⟩ : ∃ by', Hid (y.getD l.length false = by') := ⟨_, rfl⟩
      rw [hbx.out] at hc'
      rw [hbx.out, hby.out] at g4
      have G4 : Hid (val (x.take (l.length + 1)) + 2 ^ (l ++ [(bx != by') != q]).length * (bor bx by' q).toNat = val (l ++ [(bx != by') != q]) + val (y.take (l.length + 1))) := g4
      clear g4 h4 hcell hc
      go_wp2_with fail
      refine (at_any y _ l.length _ hur).mono ?_
      rintro e w2 ⟨rfl, rfl⟩
      rw [hby.out]
      obtain ⟨sb, hsb⟩ : ∃ sb, Hid (((bx != by') != q) = sb) := ⟨_, rfl⟩
      rw [hsb.out] at G4
      go_upto_region 8 with fail
      go_cut [5] from 10 to 47 (fun o wx => wx.ownsRow w.heap.size 4 1 o (l ++ [sb]).length ((l ++ [sb]).map Value.bool) ∧ Below w.heap.size w wx)
      case first =>
        have hsb2 : (!((!(bx == by')) == q)) = sb := by rw [← hsb.out]; rfl
        go_wp2_with (at_builtin; refine wpList_append_own _ rfl _ _ 56 rfl w.heap.size 4 i0 (.bool false) 1 1 Try.underlying56 hi hz0 hz1 hz2 rfl (by decide) _ _ _ rfl (hown.alloc _) ⟨_, 0, none⟩ 1 1 [.bool sb] rfl rfl ?c1 ?c2 ?c3 ?c4 ?c5 ?_)
        case c1 => exact cell_one_new _ _ _
        case c2 => exact bits_one [sb]
        case c3 => unfold maxLen; omega
        case c4 => omega
        case c5 => simp; omega
        intro v' w' hown' hgrow _
        have hB' := (hB.alloc (by omega) _).grown hgrow (by simp; omega) (fun k hk => (hown.lt k hk).1)
        have hown2 := owns_snoc hown'
        clear hown' hgrow
        go_wp2_with fail
        go_meet
        case rel => exact ⟨hown2, hB'⟩
      case rest =>
        obtain ⟨hown2, hB2⟩ := hcut
        clear hown hB hs hur hc'
        have R4 : Hid (val (x.take (l ++ [sb]).length) + 2 ^ (l ++ [sb]).length * (bor bx by' q).toNat = val (l ++ [sb]) + val (y.take (l ++ [sb]).length)) := by
          have := G4.out
          rw [List.length_append] at *
          exact this
        clear G4 hsb hbx hby hv hu
        cases bx <;> cases by' <;> cases q
        all_goals
          go_wp2_with fail
          go_roundw
          case rel => exact ⟨l ++ [sb], bor _ _ _, by simp, rfl, hown2, by simp; omega, R4, hB2⟩
          case measure => simp [intOf]; omega
    · have hlen : l.length = x.length := by omega
      have hval : Hid (val l = val x - val y) := minus_end x y l q hlen h4.out HL.out
      have t : ¬ (l.length : Int) < (x.length : Int) := by omega
      have hR := reads_of_owns hown
      clear hlen h4 hcell
      go_wp2_with fail
      refine (trim_any l _ _ hR).mono ?_
      rintro e w2 ⟨v', rfl, rfl, l', r1, r2, r3, r4⟩
      go_wp2_with fail
      go_ret
      exact ⟨_, rfl, hB, l', r1, r2, r3.trans hval.out, by omega⟩
end Go.Proofs.Ytkphchldoionjaa
