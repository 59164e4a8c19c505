/-
  Contracts of seen's Put and Bust: what they answer, and what was met behind them.
-/
import Derived.Test.YthkohopnoifibaaSeBook
namespace Go.Proofs.Ythkohopnoifibaa.SE
open Go.ChangeShapes Go.WideShapes Go.ChangeAt Go.RowKit Go.Lib

set_option maxRecDepth 100000 in
set_option maxHeartbeats 4000000 in
theorem putN {w : World} {r : Value} (h : NoSeen w r) (s : ByteArray) (xo : ByteArray) (xq xp : Int) (xk : Bool) : Calls Try.prog 9 #[r, .string s, .agg #[.string xo, .int .i64 xq, .int .i64 xp, .bool xk]] w fun e w' => e = .returned (.int .i64 1) ∧ Below w.heap.size w w' := by
  have F := made_no (h.below ((Below.refl _ _).alloc (Nat.le_refl _) (.cells #[.string xo, .int .i64 xq, .int .i64 xp, .bool xk] 34)))
  clear h
  go_enter Try.func9, Try.ntmps9
  go_wp2_with fail
  refine F.mono ?_
  rintro e w1 ⟨rfl, rfl⟩
  go_wp2_with fail
  go_ret
  exact ⟨rfl, (Below.refl _ _).alloc (Nat.le_refl _) _⟩
set_option maxRecDepth 100000 in
set_option maxHeartbeats 4000000 in
theorem put_walk {w : World} {n : Nat} {b : Sn} (K : SeenAt w n b) (s : ByteArray) (hs : s.size ≤ maxLen) (xo : ByteArray) (xq xp : Int) (xk : Bool) : Calls Try.prog 9 #[.pointer (some ⟨n + 1, 0, none⟩), .string s, .agg #[.string xo, .int .i64 xq, .int .i64 xp, .bool xk]] w fun e w' => e = .returned (.int .i64 (putE b s)) ∧ SeenAt w' n (putS b s ⟨xo, xq, xp, xk⟩) ∧ But (fun k => k = n) w w' := by
  have HK : Hid (SeenAt (w.alloc (.cells #[.string xo, .int .i64 xq, .int .i64 xp, .bool xk] 34)) n b) := K.below ((Below.refl _ _).alloc (Nat.le_refl _) _)
  have HX : Hid (Box4 (w.alloc (.cells #[.string xo, .int .i64 xq, .int .i64 xp, .bool xk] 34)) w.heap.size ⟨xo, xq, xp, xk⟩) := Box4.new w ⟨xo, xq, xp, xk⟩ _
  have HB : Hid (Below w.heap.size w (w.alloc (.cells #[.string xo, .int .i64 xq, .int .i64 xp, .bool xk] 34))) := (Below.refl _ _).alloc (Nat.le_refl _) _
  have LN : Hid (n + 1 < w.heap.size) := K.lt
  have F := made_yes HK.out
  have V := valid_any s (w.alloc (.cells #[.string xo, .int .i64 xq, .int .i64 xp, .bool xk] 34))
  clear K
  cases hv : vldB s
  · rw [put_name hv, putS_no (by rw [put_name hv]; omega)]
    rw [hv] at V
    clear hv
    go_enter Try.func9, Try.ntmps9
    go_wp2_with fail
    refine F.mono ?_
    rintro e w1 ⟨rfl, rfl⟩
    clear F
    go_wp2_with fail
    refine V.mono ?_
    rintro e w2 ⟨rfl, hb⟩
    have R : Hid (SeenAt w2 n b ∧ But (fun k => k = n) w w2) := ⟨HK.out.below hb, But.of_below (HB.out.trans (hb.mono HB.out.size))⟩
    clear V hb HK HX HB
    go_wp2_with fail
    go_ret
    exact ⟨rfl, R.out⟩
  rw [hv] at V
  cases h1 : (b.L s).isSome
  · by_cases h2 : b.r ≤ b.c
    · rw [put_full hv h1 h2, putS_no (by rw [put_full hv h1 h2]; omega)]
      go_enter Try.func9, Try.ntmps9
      go_wp2_with fail
      refine F.mono ?_
      rintro e w1 ⟨rfl, rfl⟩
      clear F
      go_wp2_with fail
      refine V.mono ?_
      rintro e w2 ⟨rfl, hb⟩
      have HK2 : Hid (SeenAt w2 n b) := HK.out.below hb
      have HX2 : Hid (Box4 w2 w.heap.size ⟨xo, xq, xp, xk⟩) := HX.out.below hb
      have HB2 : Hid (Below w.heap.size w w2) := HB.out.trans (hb.mono HB.out.size)
      clear V hb HK HX HB
      have G := find_any HK2.out s hs
      have E := fun W => met_eq (tell (b.L s)) (b.L s).isSome W
      rw [met_some] at E
      rw [h1] at E G
      simp only [metV, x0, Bool.not_false] at E G
      generalize tell (b.L s) = y at E G
      obtain ⟨yo, yq, yp, yk⟩ := y
      simp only at E G
      go_wp2_with fail
      refine G.mono ?_
      rintro e w3 ⟨rfl, hb⟩
      have HK3 : Hid (SeenAt w3 n b) := HK2.out.below hb
      have HX3 : Hid (Box4 w3 w.heap.size ⟨xo, xq, xp, xk⟩) := HX2.out.below hb
      have HB3 : Hid (Below w.heap.size w w3) := HB2.out.trans (hb.mono HB2.out.size)
      clear G hb HK2 HX2 HB2
      have c0 := HK3.out.cR
      have c1 := HK3.out.cM
      have L : ∀ ty, (Builtin.len_ #[48] ty #[.map (some n)]).run Try.prog w3.drew = .ok (.int .i64 (b.c : Int)) w3.drew := (HK3.out.mp.below (below_drewN _ 1 w3)).len
      have t0 := h2
      clear hv h1 h2
      go_wp2_with fail
      go_region
      have HK : Hid (SeenAt w3.drew n b) := HK3.out.below (below_drewN _ 1 w3)
      have HX : Hid (Box4 w3.drew w.heap.size ⟨xo, xq, xp, xk⟩) := HX3.out.below (below_drewN _ 1 w3)
      have HB : Hid (Below w.heap.size w w3.drew) := HB3.out.drew
      clear L HK3 HX3 HB3 c0 c1 E
      generalize w3.drew = w5 at *
      go_wp2_with fail
      go_ret
      exact ⟨rfl, HK.out, But.of_below HB.out⟩
    · have e0 := put_ok hv h1 h2
      rw [putS_ok e0, e0]
      have HM : Hid (more b.L s b.c = b.c + 1) := by show more b.L s b.c = _; unfold more; rw [h1]; rfl
      go_enter Try.func9, Try.ntmps9
      go_wp2_with fail
      refine F.mono ?_
      rintro e w1 ⟨rfl, rfl⟩
      clear F
      go_wp2_with fail
      refine V.mono ?_
      rintro e w2 ⟨rfl, hb⟩
      have HK2 : Hid (SeenAt w2 n b) := HK.out.below hb
      have HX2 : Hid (Box4 w2 w.heap.size ⟨xo, xq, xp, xk⟩) := HX.out.below hb
      have HB2 : Hid (Below w.heap.size w w2) := HB.out.trans (hb.mono HB.out.size)
      clear V hb HK HX HB
      have G := find_any HK2.out s hs
      have E := fun W => met_eq (tell (b.L s)) (b.L s).isSome W
      rw [met_some] at E
      rw [h1] at E G
      simp only [metV, x0, Bool.not_false] at E G
      generalize tell (b.L s) = y at E G
      obtain ⟨yo, yq, yp, yk⟩ := y
      simp only at E G
      go_wp2_with fail
      refine G.mono ?_
      rintro e w3 ⟨rfl, hb⟩
      have HK3 : Hid (SeenAt w3 n b) := HK2.out.below hb
      have HX3 : Hid (Box4 w3 w.heap.size ⟨xo, xq, xp, xk⟩) := HX2.out.below hb
      have HB3 : Hid (Below w.heap.size w w3) := HB2.out.trans (hb.mono HB2.out.size)
      clear G hb HK2 HX2 HB2
      have c0 := HK3.out.cR
      have c1 := HK3.out.cM
      have L : ∀ ty, (Builtin.len_ #[48] ty #[.map (some n)]).run Try.prog w3.drew = .ok (.int .i64 (b.c : Int)) w3.drew := (HK3.out.mp.below (below_drewN _ 1 w3)).len
      have t0 := h2
      have HC : Hid (b.c < b.r) := by show b.c < b.r; omega
      clear hv h1 h2
      go_wp2_with fail
      go_region
      have HK : Hid (SeenAt w3.drew n b) := HK3.out.below (below_drewN _ 1 w3)
      have HX : Hid (Box4 w3.drew w.heap.size ⟨xo, xq, xp, xk⟩) := HX3.out.below (below_drewN _ 1 w3)
      have HB : Hid (Below w.heap.size w w3.drew) := HB3.out.drew
      clear L HK3 HX3 HB3 c0 c1 E
      generalize w3.drew = w5 at *
      obtain ⟨d0, d1, d2, d3, f0, f1, f2, f3⟩ := HX.out
      simp only at d0 d1 d2 d3
      obtain ⟨w4, hw4⟩ : ∃ w4, w4 = w5.setCell ⟨w.heap.size, 3, none⟩ (.bool false) := ⟨_, rfl⟩
      have q0 : w4.cell? ⟨w.heap.size, 0, none⟩ = some (.string xo) := by rw [hw4, World.cell?_setCell_other]; exact d0; simp
      have q1 : w4.cell? ⟨w.heap.size, 1, none⟩ = some (.int .i64 xq) := by rw [hw4, World.cell?_setCell_other]; exact d1; simp
      have q2 : w4.cell? ⟨w.heap.size, 2, none⟩ = some (.int .i64 xp) := by rw [hw4, World.cell?_setCell_other]; exact d2; simp
      have q3 : w4.cell? ⟨w.heap.size, 3, none⟩ = some (.bool false) := by rw [hw4]; exact World.cell?_setCell_same _ _ _ d3
      have B4 : Below w.heap.size w w4 := by rw [hw4]; exact HB.out.setCell (Nat.le_refl _) _
      have S4 : SeenAt w4 n b := by
        rw [hw4]
        exact HK.out.kept (T := fun k => k = w.heap.size) ((But.refl _ _).setCell w.heap.size 3 _ (fun _ => rfl)) (fun h => by have : n = w.heap.size := h; have := LN.out; omega) (fun h => by have : n + 1 = w.heap.size := h; have := LN.out; omega)
      obtain ⟨W, hW, hW2⟩ := S4.mp.stores (by have := S4.good.c1; have := S4.good.r2; omega) s hs (⟨xo, xq, xp, false⟩ : Xc)
      have r1 := S4.cM
      have HS : Hid (SeenAt w4 n b ∧ Below w.heap.size w w4) := ⟨S4, B4⟩
      have HW : Hid (∀ m, MMap (W m) n (more b.L s b.c) (setL b.L s (⟨xo, xq, xp, false⟩ : Xc)) ∧ But (fun k => k = n) w4 (W m)) := hW2
      have HW3 : Hid (w4 = w5.setCell ⟨w.heap.size, 3, none⟩ (.bool false)) := hw4
      clear hW2 S4 B4 hw4 HX HK HB
      go_wp2_with fail
      rw [← HW3.out]
      clear d0 d1 d2 d3 f0 f1 f2 f3
      have hW1 : (Instr.mapUpdate 48 (.map (some n)) (.string s) (.agg #[.string xo, .int .i64 xq, .int .i64 xp, .bool false, .bool true])).run Try.prog w4.drew = .ok () (W 1) := hW 1
      clear hW HW3
      go_region
      go_wp2_with fail
      go_ret
      refine ⟨rfl, ?_, (But.of_below HS.out.2).trans (HW.out 1).2 (fun _ _ e => e)⟩
      have k := (HW.out 1).2
      have lt := HS.out.1.lt
      exact ⟨(k.cell (k := n + 1) lt (fun h => by have : n + 1 = n := h; omega)).trans HS.out.1.cR, (k.cell (k := n + 1) lt (fun h => by have : n + 1 = n := h; omega)).trans HS.out.1.cM, HM.out ▸ (HW.out 1).1, ⟨HS.out.1.good.r1, HS.out.1.good.r2, HC.out⟩⟩
  · rw [put_twice hv h1, putS_no (by rw [put_twice hv h1]; omega)]
    go_enter Try.func9, Try.ntmps9
    go_wp2_with fail
    refine F.mono ?_
    rintro e w1 ⟨rfl, rfl⟩
    clear F
    go_wp2_with fail
    refine V.mono ?_
    rintro e w2 ⟨rfl, hb⟩
    have HK2 : Hid (SeenAt w2 n b) := HK.out.below hb
    have HX2 : Hid (Box4 w2 w.heap.size ⟨xo, xq, xp, xk⟩) := HX.out.below hb
    have HB2 : Hid (Below w.heap.size w w2) := HB.out.trans (hb.mono HB.out.size)
    clear V hb HK HX HB
    have G := find_any HK2.out s hs
    have E := fun W => met_eq (tell (b.L s)) (b.L s).isSome W
    rw [met_some] at E
    rw [h1] at E G
    simp only [metV, x0, Bool.not_true] at E G
    generalize tell (b.L s) = y at E G
    obtain ⟨yo, yq, yp, yk⟩ := y
    simp only at E G
    go_wp2_with fail
    refine G.mono ?_
    rintro e w3 ⟨rfl, hb⟩
    have HK3 : Hid (SeenAt w3 n b) := HK2.out.below hb
    have HX3 : Hid (Box4 w3 w.heap.size ⟨xo, xq, xp, xk⟩) := HX2.out.below hb
    have HB3 : Hid (Below w.heap.size w w3) := HB2.out.trans (hb.mono HB2.out.size)
    clear G hb HK2 HX2 HB2
    clear hv h1
    go_wp2_with fail
    go_ret
    exact ⟨rfl, HK3.out, But.of_below HB3.out⟩
theorem put_any {w : World} {n : Nat} {b : Sn} (K : SeenAt w n b) (s : ByteArray) (hs : s.size ≤ maxLen) (x : Xc) : Calls Try.prog 9 #[.pointer (some ⟨n + 1, 0, none⟩), .string s, exV x] w fun e w' => e = .returned (.int .i64 (putE b s)) ∧ SeenAt w' n (putS b s x) ∧ But (fun k => k = n) w w' :=
  put_walk K s hs x.o x.q x.p x.k
set_option maxRecDepth 100000 in
set_option maxHeartbeats 4000000 in
theorem bustN {w : World} {r : Value} (h : NoSeen w r) (s : ByteArray) : Calls Try.prog 11 #[r, .string s] w fun e w' => e = .returned (.int .i64 1) ∧ Below w.heap.size w w' := by
  have G := findN h s
  have HN : Hid (NoSeen w r) := h
  simp only [metV, x0] at G
  clear h
  go_enter Try.func11, Try.ntmps11
  go_wp2_with fail
  refine G.mono ?_
  rintro e w1 ⟨rfl, hb⟩
  have F := made_no (HN.out.below (hb.trans ((Below.refl w1.heap.size w1).alloc (Nat.le_refl _) (.cells #[.string ⟨#[]⟩, .int .i64 0, .int .i64 0, .bool false, .bool false] 56) |>.mono hb.size)))
  have HB : Hid (Below w.heap.size w (w1.alloc (.cells #[.string ⟨#[]⟩, .int .i64 0, .int .i64 0, .bool false, .bool false] 56))) := hb.trans ((Below.refl w1.heap.size w1).alloc (Nat.le_refl _) (.cells #[.string ⟨#[]⟩, .int .i64 0, .int .i64 0, .bool false, .bool false] 56) |>.mono hb.size)
  clear G hb
  go_wp2_with fail
  refine F.mono ?_
  rintro e w2 ⟨rfl, rfl⟩
  clear F
  go_wp2_with fail
  go_ret
  exact ⟨rfl, HB.out⟩
set_option maxRecDepth 100000 in
set_option maxHeartbeats 4000000 in
theorem bust_any {w : World} {n : Nat} {b : Sn} (K0 : SeenAt w n b) (s : ByteArray) (hs : s.size ≤ maxLen) : Calls Try.prog 11 #[.pointer (some ⟨n + 1, 0, none⟩), .string s] w fun e w' => e = .returned (.int .i64 (bstE b s)) ∧ SeenAt w' n (bstS b s) ∧ But (fun k => k = n) w w' := by
  have G := find_any K0 s hs
  have E := fun W => met_eq (tell (b.L s)) (b.L s).isSome W
  rw [met_some] at E
  have K : Hid (SeenAt w n b) := K0
  have LN : Hid (n + 1 < w.heap.size) := K0.lt
  clear K0
  cases h1 : (b.L s).isSome
  · rw [bst_no h1, bstS_no (by rw [bst_no h1]; omega)]
    rw [h1] at E G
    simp only [metV, x0, Bool.not_false] at E G
    generalize tell (b.L s) = y at E G
    obtain ⟨yo, yq, yp, yk⟩ := y
    simp only at E G
    clear h1
    go_enter Try.func11, Try.ntmps11
    go_wp2_with fail
    refine G.mono ?_
    rintro e w1 ⟨rfl, hb⟩
    have F := made_yes (K.out.below (hb.trans ((Below.refl w1.heap.size w1).alloc (Nat.le_refl _) (.cells #[.string yo, .int .i64 yq, .int .i64 yp, .bool yk, .bool false] 56) |>.mono hb.size)))
    have HB : Hid (Below w.heap.size w (w1.alloc (.cells #[.string yo, .int .i64 yq, .int .i64 yp, .bool yk, .bool false] 56))) := hb.trans ((Below.refl w1.heap.size w1).alloc (Nat.le_refl _) (.cells #[.string yo, .int .i64 yq, .int .i64 yp, .bool yk, .bool false] 56) |>.mono hb.size)
    have LO : Hid (w.heap.size ≤ w1.heap.size) := hb.size
    clear G hb
    go_wp2_with fail
    refine F.mono ?_
    rintro e w2 ⟨rfl, rfl⟩
    clear F LO
    go_wp2_with fail
    go_ret
    exact ⟨rfl, K.out.below HB.out, But.of_below HB.out⟩
  cases h2 : (tell (b.L s)).k
  · have e0 := bst_ok h1 h2
    rw [bstS_ok e0, e0]
    have HM : Hid (more b.L s b.c = b.c) := by show more b.L s b.c = _; unfold more; rw [h1]; rfl
    rw [h1] at E G
    simp only [metV, x0, Bool.not_true] at E G
    have HY : Hid (tell (b.L s) = tell (b.L s)) := rfl
    generalize tell (b.L s) = y at E G h2 HY ⊢
    obtain ⟨yo, yq, yp, yk⟩ := y
    simp only at E G h2
    subst h2
    clear h1 HY
    obtain ⟨Q, hQ⟩ : ∃ Q, Hid (setL b.L s (asB ⟨yo, yq, yp, false⟩ true) = Q) := ⟨_, rfl⟩
    rw [hQ.out]
    go_enter Try.func11, Try.ntmps11
    go_wp2_with fail
    refine G.mono ?_
    rintro e w1 ⟨rfl, hb⟩
    have F := made_yes (K.out.below (hb.trans ((Below.refl w1.heap.size w1).alloc (Nat.le_refl _) (.cells #[.string yo, .int .i64 yq, .int .i64 yp, .bool false, .bool true] 56) |>.mono hb.size)))
    have HB : Hid (Below w.heap.size w (w1.alloc (.cells #[.string yo, .int .i64 yq, .int .i64 yp, .bool false, .bool true] 56))) := hb.trans ((Below.refl w1.heap.size w1).alloc (Nat.le_refl _) (.cells #[.string yo, .int .i64 yq, .int .i64 yp, .bool false, .bool true] 56) |>.mono hb.size)
    have LO : Hid (w.heap.size ≤ w1.heap.size) := hb.size
    clear G hb
    go_wp2_with fail
    refine F.mono ?_
    rintro e w2 ⟨rfl, rfl⟩
    clear F
    have HK : Hid (SeenAt (w1.alloc (.cells #[.string yo, .int .i64 yq, .int .i64 yp, .bool false, .bool true] 56)) n b) := K.out.below HB.out
    have d0 : (w1.alloc (.cells #[.string yo, .int .i64 yq, .int .i64 yp, .bool false, .bool true] 56)).cell? ⟨w1.heap.size, 0, none⟩ = some (.string yo) := by simp
    have d1 : (w1.alloc (.cells #[.string yo, .int .i64 yq, .int .i64 yp, .bool false, .bool true] 56)).cell? ⟨w1.heap.size, 1, none⟩ = some (.int .i64 yq) := by simp
    have d2 : (w1.alloc (.cells #[.string yo, .int .i64 yq, .int .i64 yp, .bool false, .bool true] 56)).cell? ⟨w1.heap.size, 2, none⟩ = some (.int .i64 yp) := by simp
    have d3 : (w1.alloc (.cells #[.string yo, .int .i64 yq, .int .i64 yp, .bool false, .bool true] 56)).cell? ⟨w1.heap.size, 3, none⟩ = some (.bool false) := by simp
    have d4 : (w1.alloc (.cells #[.string yo, .int .i64 yq, .int .i64 yp, .bool false, .bool true] 56)).cell? ⟨w1.heap.size, 4, none⟩ = some (.bool true) := by simp
    have f3 : (w1.alloc (.cells #[.string yo, .int .i64 yq, .int .i64 yp, .bool false, .bool true] 56)).frozen? ⟨w1.heap.size, 3, none⟩ = false := by simp
    generalize w1.alloc (.cells #[.string yo, .int .i64 yq, .int .i64 yp, .bool false, .bool true] 56) = w3 at *
    obtain ⟨g, hg⟩ : ∃ g, w1.heap.size = g := ⟨_, rfl⟩
    rw [hg] at d0 d1 d2 d3 d4 f3 LO
    rw [hg]
    clear hg
    obtain ⟨w4, hw4⟩ : ∃ w4, w4 = w3.setCell ⟨g, 3, none⟩ (.bool true) := ⟨_, rfl⟩
    have q0 : w4.cell? ⟨g, 0, none⟩ = some (.string yo) := by rw [hw4, World.cell?_setCell_other]; exact d0; simp
    have q1 : w4.cell? ⟨g, 1, none⟩ = some (.int .i64 yq) := by rw [hw4, World.cell?_setCell_other]; exact d1; simp
    have q2 : w4.cell? ⟨g, 2, none⟩ = some (.int .i64 yp) := by rw [hw4, World.cell?_setCell_other]; exact d2; simp
    have q3 : w4.cell? ⟨g, 3, none⟩ = some (.bool true) := by rw [hw4]; exact World.cell?_setCell_same _ _ _ d3
    have q4 : w4.cell? ⟨g, 4, none⟩ = some (.bool true) := by rw [hw4, World.cell?_setCell_other]; exact d4; simp
    have B4 : Below w.heap.size w w4 := by rw [hw4]; exact HB.out.setCell LO.out _
    have S4 : SeenAt w4 n b := by
      rw [hw4]
      exact HK.out.kept (T := fun k => k = g) ((But.refl _ _).setCell g 3 _ (fun _ => rfl)) (fun h => by have : n = g := h; have := LN.out; have := LO.out; omega) (fun h => by have : n + 1 = g := h; have := LN.out; have := LO.out; omega)
    obtain ⟨W, hW, hW2⟩ := S4.mp.stores (by have := S4.good.c1; have := S4.good.r2; omega) s hs (⟨yo, yq, yp, true⟩ : Xc)
    rw [show setL b.L s (⟨yo, yq, yp, true⟩ : Xc) = Q from hQ.out, HM.out] at hW2
    have r1 := S4.cM
    have HS : Hid (SeenAt w4 n b ∧ Below w.heap.size w w4) := ⟨S4, B4⟩
    have HW : Hid (∀ m, MMap (W m) n b.c Q ∧ But (fun k => k = n) w4 (W m)) := hW2
    have HW3 : Hid (w4 = w3.setCell ⟨g, 3, none⟩ (.bool true)) := hw4
    clear hW2 S4 B4 hw4 HK HB K
    go_wp2_with fail
    rw [← HW3.out]
    clear d0 d1 d2 d3 d4 f3 E
    have hW1 : (Instr.mapUpdate 48 (.map (some n)) (.string s) (.agg #[.string yo, .int .i64 yq, .int .i64 yp, .bool true, .bool true])).run Try.prog w4.drew = .ok () (W 1) := hW 1
    clear hW HW3
    go_region
    go_wp2_with fail
    go_ret
    refine ⟨rfl, ?_, (But.of_below HS.out.2).trans (HW.out 1).2 (fun _ _ e => e)⟩
    have k := (HW.out 1).2
    have lt := HS.out.1.lt
    exact ⟨(k.cell (k := n + 1) lt (fun h => by have : n + 1 = n := h; omega)).trans HS.out.1.cR, (k.cell (k := n + 1) lt (fun h => by have : n + 1 = n := h; omega)).trans HS.out.1.cM, (HW.out 1).1, ⟨HS.out.1.good.r1, HS.out.1.good.r2, HS.out.1.good.c1⟩⟩
  · rw [bst_twice h1 h2, bstS_no (by rw [bst_twice h1 h2]; omega)]
    rw [h1] at E G
    simp only [metV, x0, Bool.not_true] at E G
    generalize tell (b.L s) = y at E G h2
    obtain ⟨yo, yq, yp, yk⟩ := y
    simp only at E G h2
    subst h2
    clear h1
    go_enter Try.func11, Try.ntmps11
    go_wp2_with fail
    refine G.mono ?_
    rintro e w1 ⟨rfl, hb⟩
    have F := made_yes (K.out.below (hb.trans ((Below.refl w1.heap.size w1).alloc (Nat.le_refl _) (.cells #[.string yo, .int .i64 yq, .int .i64 yp, .bool true, .bool true] 56) |>.mono hb.size)))
    have HB : Hid (Below w.heap.size w (w1.alloc (.cells #[.string yo, .int .i64 yq, .int .i64 yp, .bool true, .bool true] 56))) := hb.trans ((Below.refl w1.heap.size w1).alloc (Nat.le_refl _) (.cells #[.string yo, .int .i64 yq, .int .i64 yp, .bool true, .bool true] 56) |>.mono hb.size)
    have LO : Hid (w.heap.size ≤ w1.heap.size) := hb.size
    clear G hb
    go_wp2_with fail
    refine F.mono ?_
    rintro e w2 ⟨rfl, rfl⟩
    clear F LO
    go_wp2_with fail
    go_ret
    exact ⟨rfl, K.out.below HB.out, But.of_below HB.out⟩
end Go.Proofs.Ythkohopnoifibaa.SE
