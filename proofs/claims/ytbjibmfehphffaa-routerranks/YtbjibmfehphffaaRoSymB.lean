/-
  The library's symMerge where one place alone lies behind: it goes ahead to where it belongs.
-/
import Derived.Test.YtbjibmfehphffaaRoSymA
namespace Go.Proofs.Ytbjibmfehphffaa.RO
open Go.ChangeShapes Go.WideShapes Go.ChangeAt Go.RowKit Go.Proofs.Ytbjibmfehphffaa.ST

set_option maxRecDepth 100000 in
set_option maxHeartbeats 4000000 in
theorem sym_last (L : Nat → Of) (f : Nat → Nat) (n a m b cap bk : Nat) (w : World) (h : HoldO w bk n (fun k => L (f k))) (hR : Runs (ltP L) a m b f) (ham : a < m) (hma : m ≠ a + 1) (hmb : b = m + 1) (hb : b ≤ n) (hn : n ≤ 1000000) :
    Calls Try.prog 57 #[.slice (some ⟨bk, 0, none⟩) n cap, .int .i64 (a : Int), .int .i64 (m : Int), .int .i64 (b : Int), .func (.func 25) #[] #[]] w
      fun e w' => (∃ v, e = .returned v) ∧ ∃ f', Hid (Pm a b f f' ∧ Srt (ltP L) a b f' ∧ Sor w w' bk n L f') := by
  have hS := ltP_swo L
  have HSW : Hid (Swo (ltP L)) := hS
  have HRU : Hid (Runs (ltP L) a m b f) := hR
  have HH : Hid (Sor w w bk n L f) := ⟨h, But.refl _ _⟩
  have t0 : ((m : Int) - (a : Int) == 1) = false := by rw [beq_eq_false_iff_ne]; omega
  have t1 : (b : Int) - (m : Int) = 1 := by omega
  have tz1 : (m : Int) ≤ 1000000 := by omega
  have tz2 : (b : Int) ≤ 1000000 := by omega
  have tz3 : (a : Int) ≤ 1000000 := by omega
  have hm1 : m < b := by omega
  have hm2 : b ≤ m + 1 := by omega
  have HMB : Hid (b = m + 1) := hmb
  clear h hR hS hma hmb
  go_enter Try.func57, Try.ntmps57
  go_wp2_with fail
  go_loopw [14, 15] (fun x y wr => ∃ i j : Nat, x = .int .i64 (i : Int) ∧ y = .int .i64 (j : Int) ∧ a ≤ i ∧ i ≤ j ∧ j ≤ m ∧ Hid ((i = a ∨ ltP L (f m) (f (i - 1)) = false) ∧ (j = m ∨ ltP L (f m) (f j) = true) ∧ Sor w wr bk n L f)) (fun x y _ => (RowKit.intOf y).toNat - (RowKit.intOf x).toNat)
  case atStart => exact ⟨a, m, rfl, rfl, Nat.le_refl _, by omega, Nat.le_refl _, .inl rfl, .inl rfl, HH.out⟩
  case round =>
    obtain ⟨i, j, rfl, rfl, hmi, hij, hjb, HI⟩ := hrel
    clear t0 t1
    by_cases hlt : i < j
    · have t : (i : Int) < (j : Int) := by omega
      obtain ⟨q, hq⟩ : ∃ q, (i + j) / 2 = q := ⟨_, rfl⟩
      have e1 : ((i : Int) + (j : Int)) / 2 = (q : Int) := by omega
      have HQ : Hid (i ≤ q ∧ q < j) := ⟨by omega, by omega⟩
      have q1 := HQ.out.1
      have q2 := HQ.out.2
      have tq : (q : Int) < (n : Int) := by omega
      have ta : (m : Int) < (n : Int) := by omega
      have HX := (HI.out.2.2.1).cell (m) (by omega)
      have HY := (HI.out.2.2.1).cell (q) (by omega)
      have F := fun w => rank1_any (L (f (m))) (L (f (q))) w
      have hcl := cmpO_lt (L (f (m))) (L (f (q)))
      have hlw : ltP L (f (m)) (f (q)) = ltO (L (f (m))) (L (f (q))) := rfl
      have HLT : Hid (decide (cmpO (L (f (m))) (L (f (q))) < 0) = ltP L (f (m)) (f (q))) := hcl.trans hlw.symm
      obtain ⟨x, hx⟩ : ∃ x, L (f (m)) = x := ⟨_, rfl⟩
      obtain ⟨y, hy⟩ : ∃ y, L (f (q)) = y := ⟨_, rfl⟩
      rw [hx] at HX F HLT
      rw [hy] at HY F HLT
      clear hx hy hcl hlw
      obtain ⟨x0, x1, x2, x3, x4⟩ := x
      obtain ⟨y0, y1, y2, y3, y4⟩ := y
      obtain ⟨c0, c1, c2, c3, c4⟩ := HX.all
      obtain ⟨d0, d1, d2, d3, d4⟩ := HY.all
      have wl := HX.lt
      clear HX HY
      unfold oV at F
      simp only at c0 c1 c2 c3 c4 d0 d1 d2 d3 d4 F
      generalize cmpO ⟨x0, x1, x2, x3, x4⟩ ⟨y0, y1, y2, y3, y4⟩ = cz at F HLT
      have keep : ∀ {W : World} {o : Nat} {v : Value}, Below wr.drew.heap.size wr.drew W → wr.cell? ⟨bk, o, none⟩ = some v → W.cell? ⟨bk, o, none⟩ = some v := fun hb hc => (hb.cell (p := ⟨bk, _, none⟩) wl).trans hc
      clear hq
      by_cases hlv : cz < 0
      · have HL2 : Hid (ltP L (f m) (f q) = true) := by show _ = _; rw [← HLT.out]; exact decide_eq_true hlv
        go_wp2_with fail
        go_region_held3 (fun w' => w'.cell? ⟨bk, (m) * 5, none⟩ = some (.int .i64 x0) ∧ w'.cell? ⟨bk, (m) * 5 + 1, none⟩ = some (.int .i64 x1) ∧ w'.cell? ⟨bk, (m) * 5 + 2, none⟩ = some (.int .i64 x2) ∧ w'.cell? ⟨bk, (m) * 5 + 3, none⟩ = some (.int .i64 x3) ∧ w'.cell? ⟨bk, (m) * 5 + 4, none⟩ = some (.bool x4) ∧ w'.cell? ⟨bk, (q) * 5, none⟩ = some (.int .i64 y0) ∧ w'.cell? ⟨bk, (q) * 5 + 1, none⟩ = some (.int .i64 y1) ∧ w'.cell? ⟨bk, (q) * 5 + 2, none⟩ = some (.int .i64 y2) ∧ w'.cell? ⟨bk, (q) * 5 + 3, none⟩ = some (.int .i64 y3) ∧ w'.cell? ⟨bk, (q) * 5 + 4, none⟩ = some (.bool y4)) (go_keep) (first
         | (go_at_call 25; refine (F _).mono ?_; rintro e w2 ⟨rfl, hb2⟩; have e0 := keep hb2 c0; have e1 := keep hb2 c1; have e2 := keep hb2 c2; have e3 := keep hb2 c3; have e4 := keep hb2 c4; have g0 := keep hb2 d0; have g1 := keep hb2 d1; have g2 := keep hb2 d2; have g3 := keep hb2 d3; have g4 := keep hb2 d4))
        have BX : Below wr.heap.size wr w2 := (below_drewN _ 1 _).trans (hb2.mono (Nat.le_refl _))
        clear keep F c0 c1 c2 c3 c4 d0 d1 d2 d3 d4 e0 e1 e2 e3 e4 g0 g1 g2 g3 g4 hb2
        go_wp2_with fail
        go_roundw
        case rel => exact ⟨i, q, rfl, rfl, hmi, q1, by omega, HI.out.1, .inr HL2.out, HI.out.2.2.1.below BX, HI.out.2.2.2.trans (But.of_below (S := fun _ => False) BX) (fun _ _ e => e.elim)⟩
        case measure => simp [RowKit.intOf] <;> omega
      · have HL2 : Hid (ltP L (f m) (f q) = false) := by show _ = _; rw [← HLT.out]; exact decide_eq_false hlv
        have hlb : decide (cz < 0) = false := decide_eq_false hlv
        clear hlv
        go_wp2_with fail
        go_region_held3 (fun w' => w'.cell? ⟨bk, (m) * 5, none⟩ = some (.int .i64 x0) ∧ w'.cell? ⟨bk, (m) * 5 + 1, none⟩ = some (.int .i64 x1) ∧ w'.cell? ⟨bk, (m) * 5 + 2, none⟩ = some (.int .i64 x2) ∧ w'.cell? ⟨bk, (m) * 5 + 3, none⟩ = some (.int .i64 x3) ∧ w'.cell? ⟨bk, (m) * 5 + 4, none⟩ = some (.bool x4) ∧ w'.cell? ⟨bk, (q) * 5, none⟩ = some (.int .i64 y0) ∧ w'.cell? ⟨bk, (q) * 5 + 1, none⟩ = some (.int .i64 y1) ∧ w'.cell? ⟨bk, (q) * 5 + 2, none⟩ = some (.int .i64 y2) ∧ w'.cell? ⟨bk, (q) * 5 + 3, none⟩ = some (.int .i64 y3) ∧ w'.cell? ⟨bk, (q) * 5 + 4, none⟩ = some (.bool y4)) (go_keep) (first
         | (go_at_call 25; refine (F _).mono ?_; rintro e w2 ⟨rfl, hb2⟩; have e0 := keep hb2 c0; have e1 := keep hb2 c1; have e2 := keep hb2 c2; have e3 := keep hb2 c3; have e4 := keep hb2 c4; have g0 := keep hb2 d0; have g1 := keep hb2 d1; have g2 := keep hb2 d2; have g3 := keep hb2 d3; have g4 := keep hb2 d4))
        have BX : Below wr.heap.size wr w2 := (below_drewN _ 1 _).trans (hb2.mono (Nat.le_refl _))
        clear keep F c0 c1 c2 c3 c4 d0 d1 d2 d3 d4 e0 e1 e2 e3 e4 g0 g1 g2 g3 g4 hb2
        go_wp2_with fail
        go_roundw
        case rel => exact ⟨q + 1, j, by simp, rfl, by omega, by omega, hjb, .inr (by rw [Nat.add_sub_cancel]; exact HL2.out), HI.out.2.1, HI.out.2.2.1.below BX, HI.out.2.2.2.trans (But.of_below (S := fun _ => False) BX) (fun _ _ e => e.elim)⟩
        case measure => simp [RowKit.intOf] <;> omega
    · have t : ¬ (i : Int) < (j : Int) := by omega
      have hji : j = i := by omega
      subst hji
      have HW : Hid ((∀ k, j ≤ k → k < m → ltP L (f m) (f k) = true) ∧ (j = a ∨ (ltP L (f m) (f (j - 1)) = false ∧ f (j - 1) < f m))) := by
        refine ⟨fun k h1 h2 => ?_, ?_⟩
        · rcases HI.out.2.1 with e | e
          · omega
          · exact HRU.out.one.above HSW.out hmi h1 h2 e
        · rcases HI.out.1 with e | e
          · exact .inl e
          · by_cases c : j = a
            · exact .inl c
            · exact .inr ⟨e, HRU.out.old (j - 1) m (by omega) (by omega) (Nat.le_refl _) hm1⟩
      have HS0 : Hid (Ins (ltP L) a m m f f ∧ Sor w wr bk n L f) := ⟨Ins.start HRU.out.one (by omega), HI.out.2.2⟩
      clear HI t hij hlt
      go_wp2_with fail
      go_loopw [17] (fun x wr => ∃ (k : Nat) (f2 : Nat → Nat), x = .int .i64 (k : Int) ∧ j ≤ k ∧ k ≤ m ∧ Hid (Ins (ltP L) a k m f f2 ∧ Sor w wr bk n L f2)) (fun x _ => (RowKit.intOf x).toNat)
      case atStart => exact ⟨m, f, rfl, hjb, Nat.le_refl _, HS0⟩
      case round =>
        obtain ⟨k, f2, rfl, hak, hki, HF⟩ := hrel
        by_cases hlk : j < k
        · obtain ⟨q, rfl⟩ : ∃ q, k = q + 1 := ⟨k - 1, by omega⟩
          have tk : (j : Int) < (q : Int) + 1 := by omega
          have tk0 : (q : Int) + 1 < (n : Int) := by omega
          have tk1 : (q : Int) < (n : Int) := by omega
          have tk2 : (0 : Int) ≤ (q : Int) + 1 := by omega
          have tk3 : ((q : Int) + 1).toNat = q + 1 := by omega
          have HN : Hid (Ins (ltP L) a q m f (sw f2 (q + 1) q)) := by
            have := HF.out.1.swap (by omega) (by rw [HF.out.1.own, HF.out.1.rest (q + 1 - 1) (by omega) (by omega)]; exact HW.out.1 (q + 1 - 1) (by omega) (by omega))
            rw [Nat.add_sub_cancel] at this
            exact this
          have HX := (HF.out.2.1).cell (q + 1) (by omega)
          have HY := (HF.out.2.1).cell (q) (by omega)
          have z := fun o => (HF.out.2.1).thaw o
          have HSWP : Hid (∀ W, Below wr.heap.size wr W → HoldO (put5 (put5 W bk ((q + 1) * 5) (L (f2 (q)))) bk ((q) * 5) (L (f2 (q + 1)))) bk n (fun kk => L (sw f2 (q + 1) (q) kk)) ∧ But (fun k => k = bk) wr (put5 (put5 W bk ((q + 1) * 5) (L (f2 (q)))) bk ((q) * 5) (L (f2 (q + 1))))) := HoldO.swap (i := q + 1) (j := q) (HF.out.2.1) (by omega) (by omega) (by omega)
          obtain ⟨x, hx⟩ : ∃ x, L (f2 (q + 1)) = x := ⟨_, rfl⟩
          obtain ⟨y, hy⟩ : ∃ y, L (f2 (q)) = y := ⟨_, rfl⟩
          rw [hx] at HX HSWP
          rw [hy] at HY HSWP
          clear hx hy
          obtain ⟨x0, x1, x2, x3, x4⟩ := x
          obtain ⟨y0, y1, y2, y3, y4⟩ := y
          obtain ⟨c0, c1, c2, c3, c4⟩ := HX.all
          obtain ⟨d0, d1, d2, d3, d4⟩ := HY.all
          clear HX HY
          simp only at c0 c1 c2 c3 c4 d0 d1 d2 d3 d4
          have z0 := z ((q + 1) * 5)
          have z1 := z ((q + 1) * 5 + 1)
          have z2 := z ((q + 1) * 5 + 2)
          have z3 := z ((q + 1) * 5 + 3)
          have z4 := z ((q + 1) * 5 + 4)
          have z5 := z ((q) * 5)
          have z6 := z ((q) * 5 + 1)
          have z7 := z ((q) * 5 + 2)
          have z8 := z ((q) * 5 + 3)
          have z9 := z ((q) * 5 + 4)
          have hne : ¬ (q + 1) * 5 = (q) * 5 := by omega
          simp only [put5] at HSWP
          clear z
          go_wp2_with fail
          go_region
          go_wp2_with fail
          go_roundw
          case rel =>
            have G := HSWP.out wr (Below.refl _ _)
            exact ⟨q, sw f2 (q + 1) q, by first | rfl | simp, by omega, by omega, HN.out, G.1.below (below_drewN _ 1 _), (HF.out.2.2.trans G.2 (fun _ _ e => e)).drew⟩
          case measure => simp [RowKit.intOf] <;> omega
        · have tk : ¬ (j : Int) < (k : Int) := by omega
          have hik : j = k := by omega
          subst hik
          have HN : Hid (Pm a b f f2 ∧ Srt (ltP L) a b f2) := by
            rw [HMB.out]
            refine ⟨HF.out.1.pm, HF.out.1.done HSW.out ?_⟩
            rcases HW.out.2 with e | e
            · exact .inl e
            · by_cases c : j = a
              · exact .inl c
              · rw [HF.out.1.own, HF.out.1.rest (j - 1) (by omega) (by omega)]
                exact .inr e
          go_wp2_with fail
          first | go_end0 | ((try simp only [Exit.inBlock, Exit.then]); refine bodyPost_ret (results_none rfl _ _ _) rfl ?_)
          exact ⟨⟨_, rfl⟩, f2, HN.out.1, HN.out.2, HF.out.2⟩
end Go.Proofs.Ytbjibmfehphffaa.RO
