/-
  Contract of the nineteenth reference's Bust.
-/
import Derived.Test.YthkohopnoifibaaSeRef
namespace Go.Proofs.Ythkohopnoifibaa.SE
open Go.ChangeShapes Go.WideShapes Go.ChangeAt Go.RowKit Go.Lib RU

set_option maxRecDepth 100000 in
set_option maxHeartbeats 8000000 in
theorem refBust_any {w : World} {g base : Nat} {b : Sn} {N : Nat → ByteArray} {X : Nat → Xc} {v : Value} (K : RefAt w g base b N X v) (s : ByteArray) : Calls Try.prog 12 #[.pointer (some ⟨g, 0, none⟩), .string s] w fun e w' => e = .returned (.int .i64 (bstE b s)) ∧ RefOk w w' g base v (bstS b s) := by
  have HK : Hid (RefAt w g base b N X v) := K
  have G := refFind_any K s
  clear K
  obtain ⟨E, hE⟩ : ∃ E, Hid (bstE b s = E) := ⟨_, rfl⟩
  obtain ⟨b', hb'⟩ : ∃ b', Hid (bstS b s = b') := ⟨_, rfl⟩
  rw [hE.out, hb'.out]
  go_enter Try.func12, Try.ntmps12
  go_wp2_with fail
  refine G.mono ?_
  rintro e w2 ⟨⟨z, rfl, hz⟩, rfl⟩
  clear G
  rcases hz with ⟨i, rfl, hi, hN⟩ | ⟨rfl, hN⟩
  · have t0 : ¬ (i : Int) < 0 := by omega
    have t1 : (i : Int) < (b.c : Int) := by omega
    have hl : b.L s = some (X i) := by rw [← hN]; exact HK.out.rel.hit i hi
    have h1 : (b.L s).isSome = true := by rw [hl]; rfl
    have c1 := HK.out.c1
    have lg := HK.out.lt
    obtain ⟨q, cap, rfl, l1, l2, hq, lq, fq, y0, y1, y2, y3, y4⟩ := HK.out.cells hi
    have f0 := fq (i * 5)
    have f1 := fq (i * 5 + 1)
    have f2 := fq (i * 5 + 2)
    have f3 := fq (i * 5 + 3)
    have f4 := fq (i * 5 + 4)
    unfold maxLen at l2
    clear fq
    cases h2 : (X i).k
    · have e1 : bstE b s = 0 := bst_ok h1 (by rw [hl]; exact h2)
      have HR : Hid (E = 0 ∧ b' = ⟨b.r, b.c, setL b.L s (asB (X i) true)⟩) := ⟨hE.out ▸ e1, by rw [← hb'.out, bstS_ok e1, hl]; rfl⟩
      have K2 := HK.out.set hi (asB (X i) true)
      rw [hN] at K2 y0
      have HK2 : Hid (RefAt (put5 w2 q (i * 5) s (asB (X i) true)) g base ⟨b.r, b.c, setL b.L s (asB (X i) true)⟩ N (upd X i (asB (X i) true)) (.slice (some ⟨q, 0, none⟩) b.c cap)) := K2
      rw [h2] at y4
      clear h1 e1 hl hN K2
      generalize X i = x at *
      obtain ⟨xo, xq, xp, xk⟩ := x
      simp only at y1 y2 y3 h2
      subst h2
      go_wp2_with fail
      go_region
      go_wp2_with fail
      go_ret
      rw [HR.out.1, HR.out.2]
      have BB : Below (put5 w2 q (i * 5) s ⟨xo, xq, xp, true⟩).heap.size (put5 w2 q (i * 5) s ⟨xo, xq, xp, true⟩) ((put5 w2 q (i * 5) s ⟨xo, xq, xp, true⟩).alloc (.cells #[.string xo, .int .i64 xq, .int .i64 xp, .bool true] 39)).drew := ((Below.refl _ _).alloc (Nat.le_refl _) _).drew
      exact ⟨rfl, N, _, _, HK2.out.below BB, ((put5_but w2 q (i * 5) s ⟨xo, xq, xp, true⟩).mono (fun k _ e => .inr (by rw [e]; rfl))).trans (But.of_below BB (S := fun _ => False)) (fun _ _ h => h.elim)⟩
    · have e1 : bstE b s = 41 := bst_twice h1 (by rw [hl]; exact h2)
      have HR : Hid (E = 41 ∧ b' = b) := ⟨hE.out ▸ e1, by rw [← hb'.out]; exact bstS_no (by rw [e1]; omega)⟩
      rw [h2] at y4
      clear h1 e1 hl hN h2
      go_wp2_with fail
      go_ret
      rw [HR.out.1, HR.out.2]
      exact ⟨rfl, HK.out.same (Below.refl _ _)⟩
  · have e1 : bstE b s = 42 := bst_no (by rw [HK.out.rel.miss s hN]; rfl)
    have HR : Hid (E = 42 ∧ b' = b) := ⟨hE.out ▸ e1, by rw [← hb'.out]; exact bstS_no (by rw [e1]; omega)⟩
    clear e1 hN
    go_wp2_with fail
    go_ret
    rw [HR.out.1, HR.out.2]
    exact ⟨rfl, HK.out.same (Below.refl _ _)⟩
end Go.Proofs.Ythkohopnoifibaa.SE
