/-
  The contract of body's Numbers.
-/
import Derived.Test.YtbbocekijkpjnaaBodyCut
import Derived.Test.YtbbocekijkpjnaaIntRows
namespace Go.Proofs.Ytbbocekijkpjnaa
open Go.ChangeShapes Go.WideShapes Go.ChangeAt Go.RowKit Go.Lib

/-- How many bytes a text has. -/
def szOf : Value → Nat
  | .string b => b.size
  | _ => 0
/-- One for true. -/
def oneOf : Value → Nat
  | .bool true => 1
  | _ => 0
/-- What a list of numbers is told as: they and no error, or none and an error. -/
def listE (R : Option (List Nat)) : List Nat × Int := match R with
  | some L => (L, 0)
  | none => ([], 112)
set_option maxRecDepth 1000000 in
set_option maxHeartbeats 4000000 in
theorem numbers_any (s : ByteArray) (w : World) (hs : s.size ≤ 1000000) :
    Calls Try.prog 9 #[.string s] w fun e w' => ∃ v, e = .returned (.tuple #[v, .int .i64 (listE (numsO s.data.toList)).2]) ∧ GrowsI w w' v (listE (numsO s.data.toList)).1 := by
  obtain ⟨i0, hi0, hz0, hzs, hzb⟩ := info_parts infoI
  obtain ⟨R, hR⟩ : ∃ R, numsO s.data.toList = R := ⟨_, rfl⟩
  rw [hR]
  go_enter Try.func9, Try.ntmps9
  go_wp2_with fail
  go_loopw [0, 4, 5] (fun t v m wr => ∃ (l : List UInt8) (acc : List Nat) (b : Bool), t = .string (mk l) ∧ m = .bool b ∧ (b = true → l.length + acc.length ≤ s.size) ∧ (b = false → acc.length ≤ s.size + 1) ∧ (b = true → numsA (segs l) acc = R) ∧ (b = false → some acc = R) ∧ GrowsI w wr v acc) (fun t _ m _ => szOf t + oneOf m)
  case atStart => exact ⟨s.data.toList, [], true, by rw [list_mk], rfl, fun _ => by rw [← size_eq]; simp, fun h => by simp at h, fun _ => hR, fun h => by simp at h, GrowsI.none _ _ (Below.refl _ _)⟩
  case round =>
    clear hR
    obtain ⟨l, acc, b, rfl, rfl, hlen, hlen', hg, hg', Q⟩ := hrel
    obtain ⟨a0, cap0, rfl⟩ := Q.shape
    cases b with
    | false =>
      have HR : Hid (some acc = R) := hg' rfl
      have HQ : Hid (GrowsI w wr (.slice a0 acc.length cap0) acc) := Q
      clear hlen hlen' hg hg' Q
      go_wp2_with fail
      go_ret2
      exact ⟨_, by rw [← HR.out]; rfl, by rw [← HR.out]; exact HQ.out⟩
    | true =>
      have hl := hlen rfl
      have h1 := hg rfl
      clear hlen hlen' hg hg'
      have F := fun w => cut_any (mk l) w (by rw [mk_size]; unfold maxLen; omega)
      rw [mk_list] at F
      rw [segs_cut, numsA] at h1
      have k1 := cut_le l
      have k2 := cut_lt l
      have k3 := cut_end l
      obtain ⟨x, r, c, hC⟩ : ∃ x r c, cutC l = (x, r, c) := ⟨_, _, _, rfl⟩
      rw [hC] at F h1 k1 k2 k3
      dsimp only at F h1 k1 k2 k3
      have G := fun w => number_any (mk x) w (by rw [mk_size]; unfold maxLen; omega)
      rw [mk_list] at G
      have hle := numE_le x
      have her := numE_err x
      obtain ⟨N, e0, hN⟩ : ∃ N e0, numE x = (N, e0) := ⟨_, _, rfl⟩
      rw [hN] at G h1 hle her
      dsimp only at G h1 hle her
      have sz : (mk l).size = l.length := mk_size l
      have HS : Hid ((mk l).size = l.length) := sz
      clear hC hN sz
      generalize mk l = ml at *
      generalize mk x = mx at *
      by_cases he : e0 = 0
      · subst he
        rw [if_pos rfl] at h1
        have HG : Hid (numsA (if c = true then segs r else []) (acc ++ [N]) = R) := h1
        have K2 : Hid (c = true → r.length < l.length) := k2
        have K3 : Hid (c = false → r = []) := k3
        have HQ : Hid (GrowsI w wr (.slice a0 acc.length cap0) acc) := Q
        have hacc : acc.length ≤ 1000000 := by omega
        clear her h1 k2 k3 Q
        go_wp2_with fail
        refine (F _).mono ?_
        rintro e w1 ⟨rfl, m, rfl⟩
        go_wp2_with fail
        refine (G _).mono ?_
        rintro e w2 ⟨rfl, rfl⟩
        have Q1 := HQ.out.still (below_drewN wr.heap.size m wr)
        have Q2 := Q1.still ((Below.refl _ _).alloc (Nat.le_refl _) (.cells #[.int .i64 (N : Int)] 3))
        have hown := Q2.own
        have hz := Q1.below.size
        have hcn := cell_int_new (wr.drewN m) (.int .i64 (N : Int)) 3
        have H2 : Hid (GrowsI w ((wr.drewN m).alloc (.cells #[.int .i64 (N : Int)] 3)) (.slice a0 acc.length cap0) acc) := Q2
        clear Q1 Q2
        go_wp2_with (at_builtin; refine wpList_append_own_at _ rfl _ _ 27 rfl w.heap.size 3 i0 (.int .i64 0) 1 8 Try.underlying27 hi0 hz0 hzs hzb rfl (by decide) _ _ _ rfl hown ⟨(wr.drewN m).heap.size, 0, none⟩ 1 1 [.int .i64 (N : Int)] rfl rfl ?hnews ?hone ?h63 ?hbytes ?hbase ?_)
        case hnews => exact hcn
        case hone => simp [Value.oneCell']
        case h63 => unfold maxLen; omega
        case hbytes => omega
        case hbase => first | omega | (simp; omega) | exact Nat.le_succ_of_le hz | (simp at hz ⊢; omega)
        intro v5 w5 hown5 hg5 _ _
        have Q5 := H2.out.more hg5 hown5
        clear hown5 hg5 hown hcn
        go_wp2_with fail
        go_roundw
        case rel =>
          refine ⟨r, acc ++ [N], c, rfl, rfl, ?_, ?_, ?_, ?_, Q5⟩
          · intro hc
            have := K2.out hc
            simp
            omega
          · intro _
            simp
            omega
          · intro hc
            have := HG.out
            rw [if_pos hc] at this
            exact this
          · intro hc
            have := HG.out
            rw [if_neg (by rw [hc]; simp), numsA] at this
            exact this
        case measure =>
          have e1 := HS.out
          show szOf (.string (mk r)) + oneOf (.bool c) < szOf (.string ml) + oneOf (.bool true)
          cases c with
          | true =>
            have := K2.out rfl
            show (mk r).size + 1 < ml.size + 1
            rw [mk_size, e1]
            omega
          | false =>
            show (mk r).size + 0 < ml.size + 1
            rw [K3.out rfl, mk_size]
            simp
      · have he2 : e0 = 112 := by
          rcases her with h | h
          · exact absurd h he
          · exact (Prod.mk.injEq .. ▸ h).2
        rw [if_neg he] at h1
        subst he2
        have HR : Hid (none = R) := h1
        have HQ : Hid (GrowsI w wr (.slice a0 acc.length cap0) acc) := Q
        clear her h1 k2 k3 Q
        go_wp2_with fail
        refine (F _).mono ?_
        rintro e w1 ⟨rfl, m, rfl⟩
        go_wp2_with fail
        refine (G _).mono ?_
        rintro e w2 ⟨rfl, rfl⟩
        have Q1 := HQ.out.still (below_drewN wr.heap.size m wr)
        go_wp2_with fail
        go_ret2
        exact ⟨_, by rw [← HR.out]; rfl, by rw [← HR.out]; exact GrowsI.none _ _ Q1.below⟩
end Go.Proofs.Ytbbocekijkpjnaa
