/-
  Contract of the reference's plus: the sum of two lists of bits.
-/
import Derived.Test.YtkphchldoionjaaRefCmp
namespace Go.Proofs.Ytkphchldoionjaa
open Go.ChangeShapes Go.WideShapes Go.ChangeAt Go.RowKit

set_option maxHeartbeats 2000000 in
theorem plusR_any {B C : Nat} (x y : List Bool) (v u : Value) (w : World) (hv : Reads B w v x) (hu : Reads C w u y) (hx : x.length ≤ 1000000) (hy : y.length ≤ 1000000) :
    Calls Try.prog 40 #[v, u] w fun e w' => ∃ v', e = .returned v' ∧ Below w.heap.size w w' ∧ ∃ l, Reads w.heap.size w' v' l ∧ Canon l ∧ val l = val x + val y ∧ l.length ≤ max x.length y.length + 1 := by
  obtain ⟨i0, hi, hz0, hz1, hz2⟩ := info_parts Try.infoBool
  obtain ⟨a, ca, rfl, h1, _, _⟩ := id hv
  obtain ⟨b, cb, rfl, k1, _, _⟩ := id hu
  obtain ⟨M, hM⟩ : ∃ M, Hid (max x.length y.length = M) := ⟨_, rfl⟩
  have m1 : x.length ≤ M := by rw [← hM.out]; omega
  have m2 : y.length ≤ M := by rw [← hM.out]; omega
  have m3 : M ≤ 1000000 := by rw [← hM.out]; omega
  rw [hM.out]
  go_enter Try.func40, Try.ntmps40
  go_wp2_with fail
  go_loopw [5, 6, 7] (fun o c i wr => ∃ (l : List Bool) (q : Bool), i = .int .i64 (l.length : Int) ∧ c = .bool q ∧ wr.ownsRow w.heap.size 4 1 o l.length (l.map Value.bool) ∧ l.length ≤ M + 1 ∧ Hid (l.length = M + 1 → q = false) ∧ Hid (val l + 2 ^ l.length * q.toNat = val (x.take l.length) + val (y.take l.length)) ∧ Below w.heap.size w wr) (fun _ _ i _ => M + 1 - (intOf i).toNat)
  case atStart => exact ⟨[], false, rfl, rfl, World.ownsRow_nil _ _ _ _, by simp, fun _ => rfl, by show _ = _; simp [val], Below.refl _ _⟩
  case round =>
    obtain ⟨l, q, rfl, rfl, hown, h2, h3, h4, hB⟩ := hrel
    go_upto_region 4 with fail
    go_cut [19] from 10 to 48 (fun t wx => t = .bool (decide (l.length < M) || q) ∧ wx = wr)
    case first =>
      by_cases hl : l.length < M
      · have e : Hid (true = (decide (l.length < M) || q)) := by show _ = _; simp [hl]
        rcases Nat.lt_or_ge x.length y.length with h | h
        · have t : (l.length : Int) < (y.length : Int) := by have := hM.out; omega
          go_wp2_with fail
          all_goals
            go_meet
            case rel => exact ⟨congrArg Value.bool e.out, rfl⟩
        · have t : (l.length : Int) < (x.length : Int) := by have := hM.out; omega
          go_wp2_with fail
          all_goals
            go_meet
            case rel => exact ⟨congrArg Value.bool e.out, rfl⟩
      · have e : Hid (q = (decide (l.length < M) || q)) := by show _ = _; simp [hl]
        have t1 : ¬ (l.length : Int) < (x.length : Int) := by omega
        have t2 : ¬ (l.length : Int) < (y.length : Int) := by omega
        rcases Nat.lt_or_ge x.length y.length with h | h
        · go_wp2_with fail
          all_goals
            go_meet
            case rel => exact ⟨congrArg Value.bool e.out, rfl⟩
        · go_wp2_with fail
          all_goals
            go_meet
            case rel => exact ⟨congrArg Value.bool e.out, rfl⟩
    case rest =>
      obtain ⟨rfl, rfl⟩ := hcut
      cases hg : (decide (l.length < M) || q)
      · simp at hg
        obtain ⟨hg1, rfl⟩ := hg
        have hR := reads_of_owns hown
        have hval : Hid (val l = val x + val y) := by
          have := h4.out
          rw [take_all x _ (by omega), take_all y _ (by omega)] at this
          show _ = _
          simpa using this
        clear h4 h3
        go_wp2_with fail
        refine (trim_any l _ _ hR).mono ?_
        rintro e w2 ⟨v', rfl, rfl, l', r1, r2, r3, r4⟩
        go_wp2_with fail
        go_ret
        exact ⟨_, rfl, hB, l', r1, r2, r3.trans hval.out, by omega⟩
      · have hlt : l.length ≤ M := by
          rcases Nat.lt_or_ge l.length (M + 1) with h | h
          · omega
          · have e := h3.out (by omega)
            rw [e] at hg
            simp at hg
            omega
        have HG : Hid ((decide (l.length < M) || q) = true) := hg
        clear hg
        have g4 := plus_step x y l q h4.out
        have hs := hB.size
        have hvr := hv.below hB
        have hur := hu.below hB
        have hmaj : Hid (l.length + 1 = M + 1 → maj (x.getD l.length false) (y.getD l.length false) q = false) := fun h => by
          rw [getD_end x _ (by omega), getD_end y _ (by omega)]; cases q <;> rfl
        obtain ⟨bx, hbx⟩ : ∃ bx, Hid (x.getD l.length false = bx) := ⟨_, rfl⟩
        obtain ⟨by', hby⟩ : ∃ by', Hid (y.getD l.length false = by') := ⟨_, rfl⟩
        rw [hbx.out, hby.out] at g4 hmaj
        have G4 : Hid (val (l ++ [(bx != by') != q]) + 2 ^ (l ++ [(bx != by') != q]).length * (maj bx by' q).toNat = val (x.take (l.length + 1)) + val (y.take (l.length + 1))) := g4
        clear g4 h3 h4
        go_wp2_with fail
        refine (at_any x _ l.length _ hvr).mono ?_
        rintro e w2 ⟨rfl, rfl⟩
        rw [hbx.out]
        go_wp2_with fail
        refine (at_any y _ l.length _ hur).mono ?_
        rintro e w2 ⟨rfl, rfl⟩
        rw [hby.out]
        obtain ⟨sb, hsb⟩ : ∃ sb, Hid (((bx != by') != q) = sb) := ⟨_, rfl⟩
        rw [hsb.out] at G4
        go_upto_region 8 with fail
        go_cut [5] from 10 to 48 (fun o wx => wx.ownsRow w.heap.size 4 1 o (l ++ [sb]).length ((l ++ [sb]).map Value.bool) ∧ Below w.heap.size w wx)
        case first =>
          have hsb2 : (!((!(bx == by')) == q)) = sb := by rw [← hsb.out]; rfl
          go_wp2_with (at_builtin; refine wpList_append_own _ rfl _ _ 56 rfl w.heap.size 4 i0 (.bool false) 1 1 Try.underlying56 hi hz0 hz1 hz2 rfl (by decide) _ _ _ rfl (hown.alloc _) ⟨_, 0, none⟩ 1 1 [.bool sb] rfl rfl ?c1 ?c2 ?c3 ?c4 ?c5 ?_)
          case c1 => exact cell_one_new _ _ _
          case c2 => exact bits_one [sb]
          case c3 => unfold maxLen; omega
          case c4 => omega
          case c5 => simp; omega
          intro v' w' hown' hgrow _
          have hB' := (hB.alloc (by omega) _).grown hgrow (by simp; omega) (fun k hk => (hown.lt k hk).1)
          have hown2 := owns_snoc hown'
          clear hown' hgrow
          go_wp2_with fail
          go_meet
          case rel => exact ⟨hown2, hB'⟩
        case rest =>
          obtain ⟨hown2, hB2⟩ := hcut
          clear hown hB hs hvr hur
          have R4 : Hid (val (l ++ [sb]) + 2 ^ (l ++ [sb]).length * (maj bx by' q).toNat = val (x.take (l ++ [sb]).length) + val (y.take (l ++ [sb]).length)) := by
            have := G4.out
            rw [List.length_append] at *
            exact this
          have R3 : Hid ((l ++ [sb]).length = M + 1 → maj bx by' q = false) := fun h => hmaj.out (by simpa using h)
          clear G4 hmaj HG hsb hbx hby hv hu
          cases bx <;> cases by' <;> cases q
          all_goals
            go_wp2_with fail
            go_roundw
            case rel => exact ⟨l ++ [sb], maj _ _ _, by simp, rfl, hown2, by simp; omega, R3, R4, hB2⟩
            case measure => simp [intOf]; omega
end Go.Proofs.Ytkphchldoionjaa
