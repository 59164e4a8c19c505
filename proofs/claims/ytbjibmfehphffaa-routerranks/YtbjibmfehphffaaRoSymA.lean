/-
  The library's symMerge where one place alone lies ahead: it goes back to where it belongs.
-/
import Derived.Test.YtbjibmfehphffaaRoRange
namespace Go.Proofs.Ytbjibmfehphffaa.RO
open Go.ChangeShapes Go.WideShapes Go.ChangeAt Go.RowKit Go.Proofs.Ytbjibmfehphffaa.ST

set_option maxRecDepth 100000 in
set_option maxHeartbeats 4000000 in
theorem sym_one (L : Nat → Of) (f : Nat → Nat) (n a m b cap bk : Nat) (w : World) (h : HoldO w bk n (fun k => L (f k))) (hR : Runs (ltP L) a m b f) (hma : m = a + 1) (hmb : m < b) (hb : b ≤ n) (hn : n ≤ 1000000) :
    Calls Try.prog 57 #[.slice (some ⟨bk, 0, none⟩) n cap, .int .i64 (a : Int), .int .i64 (m : Int), .int .i64 (b : Int), .func (.func 25) #[] #[]] w
      fun e w' => (∃ v, e = .returned v) ∧ ∃ f', Hid (Pm a b f f' ∧ Srt (ltP L) a b f' ∧ Sor w w' bk n L f') := by
  have hS := ltP_swo L
  have HSW : Hid (Swo (ltP L)) := hS
  have HRU : Hid (Runs (ltP L) a m b f) := hR
  have HH : Hid (Sor w w bk n L f) := ⟨h, But.refl _ _⟩
  have t0 : (m : Int) - (a : Int) = 1 := by omega
  have hm1 : a < m := by omega
  have hm2 : m ≤ a + 1 := by omega
  have HMA : Hid (m = a + 1) := hma
  clear h hR hS hma
  go_enter Try.func57, Try.ntmps57
  go_wp2_with fail
  go_loopw [10, 11] (fun x y wr => ∃ i j : Nat, x = .int .i64 (i : Int) ∧ y = .int .i64 (j : Int) ∧ m ≤ i ∧ i ≤ j ∧ j ≤ b ∧ Hid ((i = m ∨ ltP L (f (i - 1)) (f a) = true) ∧ (j = b ∨ ltP L (f j) (f a) = false) ∧ Sor w wr bk n L f)) (fun x y _ => (RowKit.intOf y).toNat - (RowKit.intOf x).toNat)
  case atStart => exact ⟨m, b, rfl, rfl, Nat.le_refl _, by omega, Nat.le_refl _, .inl rfl, .inl rfl, HH.out⟩
  case round =>
    obtain ⟨i, j, rfl, rfl, hmi, hij, hjb, HI⟩ := hrel
    clear t0
    by_cases hlt : i < j
    · have t : (i : Int) < (j : Int) := by omega
      obtain ⟨q, hq⟩ : ∃ q, (i + j) / 2 = q := ⟨_, rfl⟩
      have e1 : ((i : Int) + (j : Int)) / 2 = (q : Int) := by omega
      have HQ : Hid (i ≤ q ∧ q < j) := ⟨by omega, by omega⟩
      have q1 := HQ.out.1
      have q2 := HQ.out.2
      have tq : (q : Int) < (n : Int) := by omega
      have ta : (a : Int) < (n : Int) := by omega
      have HX := (HI.out.2.2.1).cell (q) (by omega)
      have HY := (HI.out.2.2.1).cell (a) (by omega)
      have F := fun w => rank1_any (L (f (q))) (L (f (a))) w
      have hcl := cmpO_lt (L (f (q))) (L (f (a)))
      have hlw : ltP L (f (q)) (f (a)) = ltO (L (f (q))) (L (f (a))) := rfl
      have HLT : Hid (decide (cmpO (L (f (q))) (L (f (a))) < 0) = ltP L (f (q)) (f (a))) := hcl.trans hlw.symm
      obtain ⟨x, hx⟩ : ∃ x, L (f (q)) = x := ⟨_, rfl⟩
      obtain ⟨y, hy⟩ : ∃ y, L (f (a)) = y := ⟨_, rfl⟩
      rw [hx] at HX F HLT
      rw [hy] at HY F HLT
      clear hx hy hcl hlw
      obtain ⟨x0, x1, x2, x3, x4⟩ := x
      obtain ⟨y0, y1, y2, y3, y4⟩ := y
      obtain ⟨c0, c1, c2, c3, c4⟩ := HX.all
      obtain ⟨d0, d1, d2, d3, d4⟩ := HY.all
      have wl := HX.lt
      clear HX HY
      unfold oV at F
      simp only at c0 c1 c2 c3 c4 d0 d1 d2 d3 d4 F
      generalize cmpO ⟨x0, x1, x2, x3, x4⟩ ⟨y0, y1, y2, y3, y4⟩ = cz at F HLT
      have keep : ∀ {W : World} {o : Nat} {v : Value}, Below wr.drew.heap.size wr.drew W → wr.cell? ⟨bk, o, none⟩ = some v → W.cell? ⟨bk, o, none⟩ = some v := fun hb hc => (hb.cell (p := ⟨bk, _, none⟩) wl).trans hc
      clear hq
      by_cases hlv : cz < 0
      · have HL2 : Hid (ltP L (f q) (f a) = true) := by show _ = _; rw [← HLT.out]; exact decide_eq_true hlv
        go_wp2_with fail
        go_region_held3 (fun w' => w'.cell? ⟨bk, (q) * 5, none⟩ = some (.int .i64 x0) ∧ w'.cell? ⟨bk, (q) * 5 + 1, none⟩ = some (.int .i64 x1) ∧ w'.cell? ⟨bk, (q) * 5 + 2, none⟩ = some (.int .i64 x2) ∧ w'.cell? ⟨bk, (q) * 5 + 3, none⟩ = some (.int .i64 x3) ∧ w'.cell? ⟨bk, (q) * 5 + 4, none⟩ = some (.bool x4) ∧ w'.cell? ⟨bk, (a) * 5, none⟩ = some (.int .i64 y0) ∧ w'.cell? ⟨bk, (a) * 5 + 1, none⟩ = some (.int .i64 y1) ∧ w'.cell? ⟨bk, (a) * 5 + 2, none⟩ = some (.int .i64 y2) ∧ w'.cell? ⟨bk, (a) * 5 + 3, none⟩ = some (.int .i64 y3) ∧ w'.cell? ⟨bk, (a) * 5 + 4, none⟩ = some (.bool y4)) (go_keep) (first
         | (go_at_call 25; refine (F _).mono ?_; rintro e w2 ⟨rfl, hb2⟩; have e0 := keep hb2 c0; have e1 := keep hb2 c1; have e2 := keep hb2 c2; have e3 := keep hb2 c3; have e4 := keep hb2 c4; have g0 := keep hb2 d0; have g1 := keep hb2 d1; have g2 := keep hb2 d2; have g3 := keep hb2 d3; have g4 := keep hb2 d4))
        have BX : Below wr.heap.size wr w2 := (below_drewN _ 1 _).trans (hb2.mono (Nat.le_refl _))
        clear keep F c0 c1 c2 c3 c4 d0 d1 d2 d3 d4 e0 e1 e2 e3 e4 g0 g1 g2 g3 g4 hb2
        go_wp2_with fail
        go_roundw
        case rel => exact ⟨q + 1, j, by simp, rfl, by omega, by omega, hjb, .inr (by rw [Nat.add_sub_cancel]; exact HL2.out), HI.out.2.1, HI.out.2.2.1.below BX, HI.out.2.2.2.trans (But.of_below (S := fun _ => False) BX) (fun _ _ e => e.elim)⟩
        case measure => simp [RowKit.intOf] <;> omega
      · have HL2 : Hid (ltP L (f q) (f a) = false) := by show _ = _; rw [← HLT.out]; exact decide_eq_false hlv
        go_wp2_with fail
        go_region_held3 (fun w' => w'.cell? ⟨bk, (q) * 5, none⟩ = some (.int .i64 x0) ∧ w'.cell? ⟨bk, (q) * 5 + 1, none⟩ = some (.int .i64 x1) ∧ w'.cell? ⟨bk, (q) * 5 + 2, none⟩ = some (.int .i64 x2) ∧ w'.cell? ⟨bk, (q) * 5 + 3, none⟩ = some (.int .i64 x3) ∧ w'.cell? ⟨bk, (q) * 5 + 4, none⟩ = some (.bool x4) ∧ w'.cell? ⟨bk, (a) * 5, none⟩ = some (.int .i64 y0) ∧ w'.cell? ⟨bk, (a) * 5 + 1, none⟩ = some (.int .i64 y1) ∧ w'.cell? ⟨bk, (a) * 5 + 2, none⟩ = some (.int .i64 y2) ∧ w'.cell? ⟨bk, (a) * 5 + 3, none⟩ = some (.int .i64 y3) ∧ w'.cell? ⟨bk, (a) * 5 + 4, none⟩ = some (.bool y4)) (go_keep) (first
         | (go_at_call 25; refine (F _).mono ?_; rintro e w2 ⟨rfl, hb2⟩; have e0 := keep hb2 c0; have e1 := keep hb2 c1; have e2 := keep hb2 c2; have e3 := keep hb2 c3; have e4 := keep hb2 c4; have g0 := keep hb2 d0; have g1 := keep hb2 d1; have g2 := keep hb2 d2; have g3 := keep hb2 d3; have g4 := keep hb2 d4))
        have BX : Below wr.heap.size wr w2 := (below_drewN _ 1 _).trans (hb2.mono (Nat.le_refl _))
        clear keep F c0 c1 c2 c3 c4 d0 d1 d2 d3 d4 e0 e1 e2 e3 e4 g0 g1 g2 g3 g4 hb2
        go_wp2_with fail
        go_roundw
        case rel => exact ⟨i, q, rfl, rfl, hmi, q1, by omega, HI.out.1, .inr HL2.out, HI.out.2.2.1.below BX, HI.out.2.2.2.trans (But.of_below (S := fun _ => False) BX) (fun _ _ e => e.elim)⟩
        case measure => simp [RowKit.intOf] <;> omega
    · have t : ¬ (i : Int) < (j : Int) := by omega
      have hji : j = i := by omega
      subst hji
      obtain ⟨i1, hi1⟩ : ∃ i1, i1 + 1 = j := ⟨j - 1, by omega⟩
      have e1 : (j : Int) - 1 = (i1 : Int) := by omega
      have hai : a ≤ i1 := by omega
      have hib : i1 < b := by omega
      have HW : Hid ((∀ k, a ≤ k → k < i1 → ltP L (f (k + 1)) (f a) = true) ∧ (i1 + 1 = b ∨ (ltP L (f (i1 + 1)) (f a) = false ∧ f a < f (i1 + 1)))) := by
        refine ⟨fun k h1 h2 => ?_, ?_⟩
        · rcases HI.out.1 with e | e
          · omega
          · rw [show j - 1 = i1 by omega] at e
            exact HRU.out.two.under HSW.out (by omega) (show k + 1 ≤ i1 by omega) (by omega) e
        · rcases HI.out.2.1 with e | e
          · exact .inl (by omega)
          · by_cases c : i1 + 1 = b
            · exact .inl c
            · rw [hi1]
              exact .inr ⟨e, HRU.out.old a j (Nat.le_refl _) (by omega) (by omega) (by omega)⟩
      have HS0 : Hid (Fwd (ltP L) a a b f f ∧ Sor w wr bk n L f) := ⟨Fwd.start (by rw [← HMA.out]; exact HRU.out.two) (by omega), HI.out.2.2⟩
      clear HI t hij hjb hmi hlt
      have HI1 : Hid (i1 + 1 = j) := hi1
      clear hi1
      go_wp2_with fail
      go_loopw [13] (fun x wr => ∃ (k : Nat) (f2 : Nat → Nat), x = .int .i64 (k : Int) ∧ a ≤ k ∧ k ≤ i1 ∧ Hid (Fwd (ltP L) a k b f f2 ∧ Sor w wr bk n L f2)) (fun x _ => i1 - (RowKit.intOf x).toNat)
      case atStart => exact ⟨a, f, rfl, Nat.le_refl _, hai, HS0⟩
      case round =>
        obtain ⟨k, f2, rfl, hak, hki, HF⟩ := hrel
        by_cases hlk : k < i1
        · have tk : (k : Int) < (i1 : Int) := by omega
          have tk0 : (k : Int) < (n : Int) := by omega
          have tk1 : (k : Int) + 1 < (n : Int) := by omega
          have tk2 : (0 : Int) ≤ (k : Int) + 1 := by omega
          have tk3 : ((k : Int) + 1).toNat = k + 1 := by omega
          have HN : Hid (Fwd (ltP L) a (k + 1) b f (sw f2 k (k + 1))) := HF.out.1.swap (by omega) (by rw [HF.out.1.own, HF.out.1.rest (k + 1) (by omega) (by omega)]; exact HW.out.1 k hak hlk)
          have HX := (HF.out.2.1).cell (k) (by omega)
          have HY := (HF.out.2.1).cell (k + 1) (by omega)
          have z := fun o => (HF.out.2.1).thaw o
          have HSWP : Hid (∀ W, Below wr.heap.size wr W → HoldO (put5 (put5 W bk ((k) * 5) (L (f2 (k + 1)))) bk ((k + 1) * 5) (L (f2 (k)))) bk n (fun kk => L (sw f2 (k) (k + 1) kk)) ∧ But (fun k => k = bk) wr (put5 (put5 W bk ((k) * 5) (L (f2 (k + 1)))) bk ((k + 1) * 5) (L (f2 (k))))) := HoldO.swap (i := k) (j := k + 1) (HF.out.2.1) (by omega) (by omega) (by omega)
          obtain ⟨x, hx⟩ : ∃ x, L (f2 (k)) = x := ⟨_, rfl⟩
          obtain ⟨y, hy⟩ : ∃ y, L (f2 (k + 1)) = y := ⟨_, rfl⟩
          rw [hx] at HX HSWP
          rw [hy] at HY HSWP
          clear hx hy
          obtain ⟨x0, x1, x2, x3, x4⟩ := x
          obtain ⟨y0, y1, y2, y3, y4⟩ := y
          obtain ⟨c0, c1, c2, c3, c4⟩ := HX.all
          obtain ⟨d0, d1, d2, d3, d4⟩ := HY.all
          clear HX HY
          simp only at c0 c1 c2 c3 c4 d0 d1 d2 d3 d4
          have z0 := z ((k) * 5)
          have z1 := z ((k) * 5 + 1)
          have z2 := z ((k) * 5 + 2)
          have z3 := z ((k) * 5 + 3)
          have z4 := z ((k) * 5 + 4)
          have z5 := z ((k + 1) * 5)
          have z6 := z ((k + 1) * 5 + 1)
          have z7 := z ((k + 1) * 5 + 2)
          have z8 := z ((k + 1) * 5 + 3)
          have z9 := z ((k + 1) * 5 + 4)
          have hne : ¬ (k) * 5 = (k + 1) * 5 := by omega
          simp only [put5] at HSWP
          clear z
          go_wp2_with fail
          go_region
          go_wp2_with fail
          go_roundw
          case rel =>
            have G := HSWP.out wr (Below.refl _ _)
            exact ⟨k + 1, sw f2 k (k + 1), by simp, by omega, by omega, HN.out, G.1.below (below_drewN _ 1 _), (HF.out.2.2.trans G.2 (fun _ _ e => e)).drew⟩
          case measure => simp [RowKit.intOf] <;> omega
        · have tk : ¬ (k : Int) < (i1 : Int) := by omega
          have hik : i1 = k := by omega
          subst hik
          have HN : Hid (Srt (ltP L) a b f2) := HF.out.1.done HSW.out (by
            rcases HW.out.2 with e | e
            · exact .inl e
            · by_cases c : i1 + 1 = b
              · exact .inl c
              · rw [HF.out.1.own, HF.out.1.rest (i1 + 1) (by omega) (by omega)]
                exact .inr e)
          go_wp2_with fail
          first | go_end0 | ((try simp only [Exit.inBlock, Exit.then]); refine bodyPost_ret (results_none rfl _ _ _) rfl ?_)
          exact ⟨⟨_, rfl⟩, f2, HF.out.1.pm, HN.out, HF.out.2⟩
end Go.Proofs.Ytbjibmfehphffaa.RO
