/-
  Contract of the library's insertion sort, at offers and router's comparison: the places in their order, equals as they stood.
-/
import Derived.Test.YtbjibmfehphffaaRoRow
namespace Go.Proofs.Ytbjibmfehphffaa.RO
open Go.ChangeShapes Go.WideShapes Go.ChangeAt Go.RowKit Go.Proofs.Ytbjibmfehphffaa.ST

/-- A list under a sort: it holds the places that f tells. -/
def Sor (w0 w : World) (b n : Nat) (L : Nat → Of) (f : Nat → Nat) : Prop := HoldO w b n (fun k => L (f k)) ∧ But (fun k => k = b) w0 w
set_option maxRecDepth 100000 in
set_option maxHeartbeats 4000000 in
theorem ins_any (L : Nat → Of) (f : Nat → Nat) (n a b cap bk : Nat) (w : World) (h : HoldO w bk n (fun k => L (f k))) (hab : a ≤ b) (hb : b ≤ n) (hn : n ≤ 1000000) (asc : ∀ k l, a ≤ k → k < l → l < b → f k < f l) :
    Calls Try.prog 56 #[.slice (some ⟨bk, 0, none⟩) n cap, .int .i64 (a : Int), .int .i64 (b : Int), .func (.func 25) #[] #[]] w
      fun e w' => (∃ v, e = .returned v) ∧ ∃ f', Hid (Pm a b f f' ∧ Srt (ltP L) a b f' ∧ Sor w w' bk n L f') := by
  have hS := ltP_swo L
  by_cases hab1 : a = b
  · subst hab1
    have t : ¬ (a : Int) + 1 < (a : Int) := by omega
    have HI : Hid (Pm a a f f ∧ Srt (ltP L) a a f ∧ Sor w w bk n L f) := ⟨Pm.refl _ _ _, fun k l h1 h2 h3 => absurd h3 (by omega), h, But.refl _ _⟩
    clear h asc hab hS
    go_enter Try.func56, Try.ntmps56
    go_wp2_with fail
    refine wp_loop_rounds 1 ?_
    rw [rounds_succ]
    go_wp2_with fail
    go_end0
    exact ⟨⟨_, rfl⟩, f, HI⟩
  · have HS0 : Hid (Pm a (a + 1) f f ∧ Srt (ltP L) a (a + 1) f ∧ Sor w w bk n L f) := ⟨Pm.refl _ _ _, fun k l h1 h2 h3 => absurd h3 (by omega), h, But.refl _ _⟩
    have hbk := h.lt
    have ASC : Hid (∀ k l, a ≤ k → k < l → l < b → f k < f l) := asc
    have HSW : Hid (Swo (ltP L)) := hS
    clear h asc hS
    go_enter Try.func56, Try.ntmps56
    go_wp2_with fail
    go_loopw [8] (fun x wr => ∃ (i : Nat) (f1 : Nat → Nat), x = .int .i64 (i : Int) ∧ a < i ∧ i ≤ b ∧ Hid (Pm a i f f1 ∧ Srt (ltP L) a i f1 ∧ Sor w wr bk n L f1)) (fun x _ => b - (RowKit.intOf x).toNat)
    case atStart => exact ⟨a + 1, f, rfl, by omega, by omega, HS0⟩
    case round =>
      obtain ⟨i, f1, rfl, hai, hib, HO⟩ := hrel
      by_cases hlt : i < b
      · have t : (i : Int) < (b : Int) := by omega
        go_wp2_with fail
        go_loopw [9] (fun x wr2 => ∃ (j : Nat) (f2 : Nat → Nat), x = .int .i64 (j : Int) ∧ a ≤ j ∧ j ≤ i ∧ Hid (Ins (ltP L) a j i f1 f2 ∧ Sor w wr2 bk n L f2)) (fun x _ => (RowKit.intOf x).toNat)
        case atStart => exact ⟨i, f1, rfl, by omega, Nat.le_refl _, Ins.start HO.out.2.1 (by omega), HO.out.2.2⟩
        case round =>
          obtain ⟨j, f2, rfl, haj, hji, HI⟩ := hrel
          have OUT : Hid (j = a ∨ ltP L (f2 j) (f2 (j - 1)) = false → ∀ W, Below wr.heap.size wr W → Pm a (i + 1) f f2 ∧ Srt (ltP L) a (i + 1) f2 ∧ Sor w W bk n L f2) := by
            intro hs W hW
            have hpm := (HO.out.1.mono (Nat.le_refl _) (Nat.le_succ _)).trans HI.out.1.pm
            refine ⟨hpm, HI.out.1.done HSW.out ?_, HI.out.2.1.below hW, HI.out.2.2.trans (But.of_below (S := fun _ => False) hW) (fun _ _ e => e.elim)⟩
            rcases hs with hs | hs
            · exact .inl hs
            · rcases Nat.eq_or_lt_of_le haj with e | e
              · exact .inl e.symm
              · refine .inr ⟨hs, ?_⟩
                rw [HI.out.1.own, HI.out.1.rest (j - 1) (by omega) (by omega), HO.out.1.out i (.inr (Nat.le_refl _))]
                obtain ⟨q, q1, q2, eq⟩ := HO.out.1.from (show a ≤ j - 1 by omega) (show j - 1 < i by omega)
                rw [eq]
                exact ASC.out q i q1 q2 hlt
          by_cases hja : a < j
          · obtain ⟨p, rfl⟩ : ∃ p, j = p + 1 := ⟨j - 1, by omega⟩
            have t2 : (a : Int) < (p : Int) + 1 := by omega
            have t3 : (p : Int) + 1 < (n : Int) := by omega
            have t4 : (p : Int) < (n : Int) := by omega
            have t6 : (0 : Int) ≤ (p : Int) + 1 := by omega
            have t7 : ((p : Int) + 1).toNat = p + 1 := by omega
            have t5 : IntKind.i64.wrap (p : Int) = (p : Int) := by rw [IntKind.wrap_i64]; omega
            have HX := HI.out.2.1.cell (p + 1) (by omega)
            have HY := HI.out.2.1.cell p (by omega)
            have z := fun k => HI.out.2.1.thaw k
            have F := fun w => rank1_any (L (f2 (p + 1))) (L (f2 p)) w
            have hcl := cmpO_lt (L (f2 (p + 1))) (L (f2 p))
            have HSWP : Hid (∀ W, Below wr.heap.size wr W → HoldO (put5 (put5 W bk ((p + 1) * 5) (L (f2 p))) bk (p * 5) (L (f2 (p + 1)))) bk n (fun k => L (sw f2 (p + 1) p k)) ∧ But (fun k => k = bk) wr (put5 (put5 W bk ((p + 1) * 5) (L (f2 p))) bk (p * 5) (L (f2 (p + 1))))) := HI.out.2.1.swap (by omega) (by omega) (by omega)
            have hlw : ltP L (f2 (p + 1)) (f2 p) = ltO (L (f2 (p + 1))) (L (f2 p)) := rfl
            obtain ⟨x, hx⟩ : ∃ x, L (f2 (p + 1)) = x := ⟨_, rfl⟩
            obtain ⟨y, hy⟩ : ∃ y, L (f2 p) = y := ⟨_, rfl⟩
            rw [hx] at HX F HSWP hcl hlw
            rw [hy] at HY F HSWP hcl hlw
            have HLT : Hid (decide (cmpO x y < 0) = ltP L (f2 (p + 1)) (f2 p)) := hcl.trans hlw.symm
            clear hx hy hcl hlw
            have SW := HI.out.1.swap (show a < p + 1 from hja)
            rw [Nat.add_sub_cancel] at SW
            have HSW1 : Hid (ltP L (f2 (p + 1)) (f2 p) = true → Ins (ltP L) a p i f1 (sw f2 (p + 1) p)) := SW
            clear SW
            obtain ⟨x0, x1, x2, x3, x4⟩ := x
            obtain ⟨y0, y1, y2, y3, y4⟩ := y
            obtain ⟨c0, c1, c2, c3, c4⟩ := HX.all
            obtain ⟨d0, d1, d2, d3, d4⟩ := HY.all
            have wl := HX.lt
            clear HX HY
            unfold oV at F
            simp only at c0 c1 c2 c3 c4 d0 d1 d2 d3 d4 F
            generalize cmpO ⟨x0, x1, x2, x3, x4⟩ ⟨y0, y1, y2, y3, y4⟩ = cz at F HLT
            have keep : ∀ {W : World} {o : Nat} {v : Value}, Below wr.drew.heap.size wr.drew W → wr.cell? ⟨bk, o, none⟩ = some v → W.cell? ⟨bk, o, none⟩ = some v := fun hb hc => (hb.cell (p := ⟨bk, _, none⟩) wl).trans hc
            by_cases hlv : cz < 0
            · go_wp2_with fail
              go_region_held3 (fun w' => w'.cell? ⟨bk, (p + 1) * 5, none⟩ = some (.int .i64 x0) ∧ w'.cell? ⟨bk, (p + 1) * 5 + 1, none⟩ = some (.int .i64 x1) ∧ w'.cell? ⟨bk, (p + 1) * 5 + 2, none⟩ = some (.int .i64 x2) ∧ w'.cell? ⟨bk, (p + 1) * 5 + 3, none⟩ = some (.int .i64 x3) ∧ w'.cell? ⟨bk, (p + 1) * 5 + 4, none⟩ = some (.bool x4) ∧ w'.cell? ⟨bk, p * 5, none⟩ = some (.int .i64 y0) ∧ w'.cell? ⟨bk, p * 5 + 1, none⟩ = some (.int .i64 y1) ∧ w'.cell? ⟨bk, p * 5 + 2, none⟩ = some (.int .i64 y2) ∧ w'.cell? ⟨bk, p * 5 + 3, none⟩ = some (.int .i64 y3) ∧ w'.cell? ⟨bk, p * 5 + 4, none⟩ = some (.bool y4)) (go_keep) (first
               | (go_at_call 25; refine (F _).mono ?_; rintro e w2 ⟨rfl, hb2⟩; have e0 := keep hb2 c0; have e1 := keep hb2 c1; have e2 := keep hb2 c2; have e3 := keep hb2 c3; have e4 := keep hb2 c4; have g0 := keep hb2 d0; have g1 := keep hb2 d1; have g2 := keep hb2 d2; have g3 := keep hb2 d3; have g4 := keep hb2 d4))
              go_wp2_with fail
              have fz : ∀ o, w2.frozen? ⟨bk, o, none⟩ = false := fun o => (hb2.frozen (p := ⟨bk, o, none⟩) wl).trans (z o)
              have z0 := fz ((p + 1) * 5)
              have z1 := fz ((p + 1) * 5 + 1)
              have z2 := fz ((p + 1) * 5 + 2)
              have z3 := fz ((p + 1) * 5 + 3)
              have z4 := fz ((p + 1) * 5 + 4)
              have z5 := fz (p * 5)
              have z6 := fz (p * 5 + 1)
              have z7 := fz (p * 5 + 2)
              have z8 := fz (p * 5 + 3)
              have z9 := fz (p * 5 + 4)
              clear keep fz z F c0 c1 c2 c3 c4 d0 d1 d2 d3 d4
              simp only [put5] at HSWP
              go_region
              go_wp2_with fail
              go_roundw
              case rel =>
                have G := HSWP.out w2 ((below_drewN _ 1 _).trans (hb2.mono (Nat.le_refl _)))
                exact ⟨p, sw f2 (p + 1) p, by first | rfl | simp, by omega, by omega, HSW1.out (by rw [← HLT.out]; exact decide_eq_true hlv), G.1.below (below_drewN _ 1 _), (HI.out.2.2.trans G.2 (fun _ _ e => e)).drew⟩
              case measure => simp [RowKit.intOf] <;> omega
            · go_wp2_with fail
              go_region_held3 (fun w' => w'.cell? ⟨bk, (p + 1) * 5, none⟩ = some (.int .i64 x0) ∧ w'.cell? ⟨bk, (p + 1) * 5 + 1, none⟩ = some (.int .i64 x1) ∧ w'.cell? ⟨bk, (p + 1) * 5 + 2, none⟩ = some (.int .i64 x2) ∧ w'.cell? ⟨bk, (p + 1) * 5 + 3, none⟩ = some (.int .i64 x3) ∧ w'.cell? ⟨bk, (p + 1) * 5 + 4, none⟩ = some (.bool x4) ∧ w'.cell? ⟨bk, p * 5, none⟩ = some (.int .i64 y0) ∧ w'.cell? ⟨bk, p * 5 + 1, none⟩ = some (.int .i64 y1) ∧ w'.cell? ⟨bk, p * 5 + 2, none⟩ = some (.int .i64 y2) ∧ w'.cell? ⟨bk, p * 5 + 3, none⟩ = some (.int .i64 y3) ∧ w'.cell? ⟨bk, p * 5 + 4, none⟩ = some (.bool y4)) (go_keep) (first
               | (go_at_call 25; refine (F _).mono ?_; rintro e w2 ⟨rfl, hb2⟩; have e0 := keep hb2 c0; have e1 := keep hb2 c1; have e2 := keep hb2 c2; have e3 := keep hb2 c3; have e4 := keep hb2 c4; have g0 := keep hb2 d0; have g1 := keep hb2 d1; have g2 := keep hb2 d2; have g3 := keep hb2 d3; have g4 := keep hb2 d4))
              clear keep z F c0 c1 c2 c3 c4 d0 d1 d2 d3 d4 e0 e1 e2 e3 e4 g0 g1 g2 g3 g4
              go_wp2_with fail
              go_roundw
              case rel => exact ⟨i + 1, f2, by simp, by omega, by omega, OUT.out (.inr (by rw [Nat.add_sub_cancel, ← HLT.out]; exact decide_eq_false (by omega))) w2 ((below_drewN _ 1 _).trans (hb2.mono (Nat.le_refl _)))⟩
              case measure => simp [RowKit.intOf] <;> omega
          · have t2 : ¬ (a : Int) < (j : Int) := by omega
            go_wp2_with fail
            go_quiet (fail)
            go_wp2_with fail
            go_roundw
            case rel => exact ⟨i + 1, f2, by simp, by omega, by omega, OUT.out (.inl (by omega)) _ (below_drewN _ _ _)⟩
            case measure => simp [RowKit.intOf] <;> omega
      · have t : ¬ (i : Int) < (b : Int) := by omega
        obtain rfl : i = b := by omega
        go_wp2_with fail
        go_end0
        exact ⟨⟨_, rfl⟩, f1, HO⟩
end Go.Proofs.Ytbjibmfehphffaa.RO
