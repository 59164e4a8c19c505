/-
  The library's symMerge, in all: the halves are merged by themselves.
-/
import Derived.Test.YtbjibmfehphffaaRoSymB
namespace Go.Proofs.Ytbjibmfehphffaa.RO
open Go.ChangeShapes Go.WideShapes Go.ChangeAt Go.RowKit Go.Proofs.Ytbjibmfehphffaa.ST

/-- symMerge, of two runs of at most d places together. -/
def SymAt (d : Nat) : Prop := ∀ (L : Nat → Of) (f : Nat → Nat) (n a m b cap bk : Nat) (w : World), HoldO w bk n (fun k => L (f k)) → Runs (ltP L) a m b f → a < m → m < b → b ≤ n → n ≤ 1000000 → b - a ≤ d →
    Calls Try.prog 57 #[.slice (some ⟨bk, 0, none⟩) n cap, .int .i64 (a : Int), .int .i64 (m : Int), .int .i64 (b : Int), .func (.func 25) #[] #[]] w
      fun e w' => (∃ v, e = .returned v) ∧ ∃ f', Hid (Pm a b f f' ∧ Srt (ltP L) a b f' ∧ Sor w w' bk n L f')
theorem runs_same {lt : Nat → Nat → Bool} {a m b : Nat} {f g : Nat → Nat} (h : Runs lt a m b f) (e : ∀ k, a ≤ k → k < b → g k = f k) : Runs lt a m b g :=
  ⟨fun k l h1 h2 h3 => by rw [e k h1 (by have := h.mb; omega), e l (by omega) (by have := h.mb; omega)]; exact h.one k l h1 h2 h3, fun k l h1 h2 h3 => by rw [e k (by have := h.am; omega) (by omega), e l (by have := h.am; omega) h3]; exact h.two k l h1 h2 h3, fun k l h1 h2 h3 h4 => by rw [e k h1 (by have := h.mb; omega), e l (by have := h.am; omega) h4]; exact h.old k l h1 h2 h3 h4, h.am, h.mb⟩
set_option maxRecDepth 100000 in
set_option maxHeartbeats 8000000 in
theorem sym_more0 {d : Nat} (IH : SymAt d) (L : Nat → Of) (f : Nat → Nat) (n a m b cap bk : Nat) (w : World) (h : HoldO w bk n (fun k => L (f k))) (hR : Runs (ltP L) a m b f) (ham : a < m) (hmb : m < b) (_hma : m ≠ a + 1) (hbm : b ≠ m + 1) (hb : b ≤ n) (hn : n ≤ 1000000) (hd : b - a ≤ d + 1) (hmid : (a + b) / 2 < m) :
    Calls Try.prog 57 #[.slice (some ⟨bk, 0, none⟩) n cap, .int .i64 (a : Int), .int .i64 (m : Int), .int .i64 (b : Int), .func (.func 25) #[] #[]] w
      fun e w' => (∃ v, e = .returned v) ∧ ∃ f', Hid (Pm a b f f' ∧ Srt (ltP L) a b f' ∧ Sor w w' bk n L f') := by
  have hS := ltP_swo L
  have HSW : Hid (Swo (ltP L)) := hS
  have HRU : Hid (Runs (ltP L) a m b f) := hR
  have HH : Hid (Sor w w bk n L f) := ⟨h, But.refl _ _⟩
  have HIH : Hid (SymAt d) := IH
  have t0 : ((m : Int) - (a : Int) == 1) = false := by rw [beq_eq_false_iff_ne]; omega
  have t1 : ((b : Int) - (m : Int) == 1) = false := by rw [beq_eq_false_iff_ne]; omega
  have tz1 : (m : Int) ≤ 1000000 := by omega
  have tz2 : (b : Int) ≤ 1000000 := by omega
  have tz3 : (a : Int) ≤ 1000000 := by omega
  obtain ⟨mid, hmd⟩ : ∃ mid, (a + b) / 2 = mid := ⟨_, rfl⟩
  rw [hmd] at hmid
  obtain ⟨nn, hnn⟩ : ∃ nn, mid + m = nn := ⟨_, rfl⟩
  have q0 : ((a : Int) + (b : Int)) / 2 = (mid : Int) := by omega
  have q1 : (mid : Int) + (m : Int) = (nn : Int) := by omega
  have hm1 : a < mid := by omega
  have hm2 : mid < b := by omega
  have hm3 : mid - a ≤ d := by omega
  have hm4 : b - mid ≤ d := by omega
  obtain ⟨p, hp⟩ : ∃ p, nn - 1 = p := ⟨_, rfl⟩
  have q2 : (nn : Int) - 1 = (p : Int) := by omega
  obtain ⟨s0, hs0⟩ : ∃ s0, nn - b = s0 := ⟨_, rfl⟩
  have q3 : (nn : Int) - (b : Int) = (s0 : Int) := by omega
  have tm : (mid : Int) < (m : Int) := by omega
  have hs1 : a ≤ s0 := by omega
  have hs2 : s0 ≤ mid := by omega
  have HB0 : Hid (∀ st, s0 ≤ st → st ≤ mid → m ≤ nn - st ∧ nn - st ≤ b ∧ st ≤ m) := fun st h1 h2 => by omega
  have HNN : Hid (mid + m = nn ∧ nn - 1 = p ∧ nn - b = s0) := ⟨hnn, hp, hs0⟩
  have tp : (p : Int) ≤ 3000000 := by omega
  have tn : (nn : Int) ≤ 3000000 := by omega
  have tmi : (mid : Int) ≤ 1000000 := by omega
  clear h hR hS IH hmd hnn hp hs0 hbm hd _hma
  go_enter Try.func57, Try.ntmps57
  go_wp2_with fail
  go_loopw [20, 21] (fun x y wr => ∃ st r : Nat, x = .int .i64 (st : Int) ∧ y = .int .i64 (r : Int) ∧ s0 ≤ st ∧ st ≤ r ∧ r ≤ mid ∧ Hid ((st = s0 ∨ ltP L (f (nn - st)) (f (st - 1)) = false) ∧ (r = mid ∨ ltP L (f (p - r)) (f r) = true) ∧ Sor w wr bk n L f)) (fun x y _ => (RowKit.intOf y).toNat - (RowKit.intOf x).toNat)
  case atStart => exact ⟨s0, mid, rfl, rfl, Nat.le_refl _, by omega, Nat.le_refl _, .inl rfl, .inl rfl, HH.out⟩
  case round =>
    obtain ⟨st, r, rfl, rfl, hs, hsr, hr, HI⟩ := hrel
    clear t0 t1
    by_cases hlt : st < r
    · have t : (st : Int) < (r : Int) := by omega
      obtain ⟨q, hq⟩ : ∃ q, (st + r) / 2 = q := ⟨_, rfl⟩
      have e1 : ((st : Int) + (r : Int)) / 2 = (q : Int) := by omega
      have qa : st ≤ q := by omega
      have qb : q < r := by omega
      have hv := HB0.out (q + 1) (by omega) (by omega)
      have hnn := HNN.out
      obtain ⟨v, hvv⟩ : ∃ v, p - q = v := ⟨_, rfl⟩
      have e2 : (p : Int) - (q : Int) = (v : Int) := by omega
      have tv : (v : Int) < (n : Int) := by omega
      have t5 : IntKind.i64.wrap (v : Int) = (v : Int) := by rw [IntKind.wrap_i64]; omega
      have tq : (q : Int) < (n : Int) := by omega
      have HV : Hid (p - q = v ∧ nn - (q + 1) = v) := ⟨hvv, by omega⟩
      have HX := (HI.out.2.2.1).cell (v) (by omega)
      have HY := (HI.out.2.2.1).cell (q) (by omega)
      have F := fun w => rank1_any (L (f (v))) (L (f (q))) w
      have hcl := cmpO_lt (L (f (v))) (L (f (q)))
      have hlw : ltP L (f (v)) (f (q)) = ltO (L (f (v))) (L (f (q))) := rfl
      have HLT : Hid (decide (cmpO (L (f (v))) (L (f (q))) < 0) = ltP L (f (v)) (f (q))) := hcl.trans hlw.symm
      obtain ⟨x, hx⟩ : ∃ x, L (f (v)) = x := ⟨_, rfl⟩
      obtain ⟨y, hy⟩ : ∃ y, L (f (q)) = y := ⟨_, rfl⟩
      rw [hx] at HX F HLT
      rw [hy] at HY F HLT
      clear hx hy hcl hlw
      obtain ⟨x0, x1, x2, x3, x4⟩ := x
      obtain ⟨y0, y1, y2, y3, y4⟩ := y
      obtain ⟨c0, c1, c2, c3, c4⟩ := HX.all
      obtain ⟨d0, d1, d2, d3, d4⟩ := HY.all
      have wl := HX.lt
      clear HX HY
      unfold oV at F
      simp only at c0 c1 c2 c3 c4 d0 d1 d2 d3 d4 F
      generalize cmpO ⟨x0, x1, x2, x3, x4⟩ ⟨y0, y1, y2, y3, y4⟩ = cz at F HLT
      have keep : ∀ {W : World} {o : Nat} {v : Value}, Below wr.drew.heap.size wr.drew W → wr.cell? ⟨bk, o, none⟩ = some v → W.cell? ⟨bk, o, none⟩ = some v := fun hb hc => (hb.cell (p := ⟨bk, _, none⟩) wl).trans hc
      clear hq hvv hnn hv
      by_cases hlv : cz < 0
      · have HL2 : Hid (ltP L (f v) (f q) = true) := by show _ = _; rw [← HLT.out]; exact decide_eq_true hlv
        have hlb : decide (cz < 0) = true := decide_eq_true hlv
        clear hlv
        go_wp2_with fail
        go_region_held3 (fun w' => w'.cell? ⟨bk, (v) * 5, none⟩ = some (.int .i64 x0) ∧ w'.cell? ⟨bk, (v) * 5 + 1, none⟩ = some (.int .i64 x1) ∧ w'.cell? ⟨bk, (v) * 5 + 2, none⟩ = some (.int .i64 x2) ∧ w'.cell? ⟨bk, (v) * 5 + 3, none⟩ = some (.int .i64 x3) ∧ w'.cell? ⟨bk, (v) * 5 + 4, none⟩ = some (.bool x4) ∧ w'.cell? ⟨bk, (q) * 5, none⟩ = some (.int .i64 y0) ∧ w'.cell? ⟨bk, (q) * 5 + 1, none⟩ = some (.int .i64 y1) ∧ w'.cell? ⟨bk, (q) * 5 + 2, none⟩ = some (.int .i64 y2) ∧ w'.cell? ⟨bk, (q) * 5 + 3, none⟩ = some (.int .i64 y3) ∧ w'.cell? ⟨bk, (q) * 5 + 4, none⟩ = some (.bool y4)) (go_keep) (first
         | (go_at_call 25; refine (F _).mono ?_; rintro e w2 ⟨rfl, hb2⟩; have e0 := keep hb2 c0; have e1 := keep hb2 c1; have e2 := keep hb2 c2; have e3 := keep hb2 c3; have e4 := keep hb2 c4; have g0 := keep hb2 d0; have g1 := keep hb2 d1; have g2 := keep hb2 d2; have g3 := keep hb2 d3; have g4 := keep hb2 d4))
        have BX : Below wr.heap.size wr w2 := (below_drewN _ 1 _).trans (hb2.mono (Nat.le_refl _))
        clear keep F c0 c1 c2 c3 c4 d0 d1 d2 d3 d4 e0 e1 e2 e3 e4 g0 g1 g2 g3 g4 hb2
        go_wp2_with fail
        go_roundw
        case rel => exact ⟨st, q, rfl, rfl, hs, qa, by omega, HI.out.1, .inr (by rw [HV.out.1]; exact HL2.out), HI.out.2.2.1.below BX, HI.out.2.2.2.trans (But.of_below (S := fun _ => False) BX) (fun _ _ e => e.elim)⟩
        case measure => simp [RowKit.intOf] <;> omega
      · have HL2 : Hid (ltP L (f v) (f q) = false) := by show _ = _; rw [← HLT.out]; exact decide_eq_false hlv
        have hlb : decide (cz < 0) = false := decide_eq_false hlv
        clear hlv
        go_wp2_with fail
        go_region_held3 (fun w' => w'.cell? ⟨bk, (v) * 5, none⟩ = some (.int .i64 x0) ∧ w'.cell? ⟨bk, (v) * 5 + 1, none⟩ = some (.int .i64 x1) ∧ w'.cell? ⟨bk, (v) * 5 + 2, none⟩ = some (.int .i64 x2) ∧ w'.cell? ⟨bk, (v) * 5 + 3, none⟩ = some (.int .i64 x3) ∧ w'.cell? ⟨bk, (v) * 5 + 4, none⟩ = some (.bool x4) ∧ w'.cell? ⟨bk, (q) * 5, none⟩ = some (.int .i64 y0) ∧ w'.cell? ⟨bk, (q) * 5 + 1, none⟩ = some (.int .i64 y1) ∧ w'.cell? ⟨bk, (q) * 5 + 2, none⟩ = some (.int .i64 y2) ∧ w'.cell? ⟨bk, (q) * 5 + 3, none⟩ = some (.int .i64 y3) ∧ w'.cell? ⟨bk, (q) * 5 + 4, none⟩ = some (.bool y4)) (go_keep) (first
         | (go_at_call 25; refine (F _).mono ?_; rintro e w2 ⟨rfl, hb2⟩; have e0 := keep hb2 c0; have e1 := keep hb2 c1; have e2 := keep hb2 c2; have e3 := keep hb2 c3; have e4 := keep hb2 c4; have g0 := keep hb2 d0; have g1 := keep hb2 d1; have g2 := keep hb2 d2; have g3 := keep hb2 d3; have g4 := keep hb2 d4))
        have BX : Below wr.heap.size wr w2 := (below_drewN _ 1 _).trans (hb2.mono (Nat.le_refl _))
        clear keep F c0 c1 c2 c3 c4 d0 d1 d2 d3 d4 e0 e1 e2 e3 e4 g0 g1 g2 g3 g4 hb2
        go_wp2_with fail
        go_roundw
        case rel => exact ⟨q + 1, r, by simp, rfl, by omega, by omega, hr, .inr (by rw [HV.out.2, Nat.add_sub_cancel]; exact HL2.out), HI.out.2.1, HI.out.2.2.1.below BX, HI.out.2.2.2.trans (But.of_below (S := fun _ => False) BX) (fun _ _ e => e.elim)⟩
        case measure => simp [RowKit.intOf] <;> omega
    · have t : ¬ (st : Int) < (r : Int) := by omega
      have hrs : r = st := by omega
      subst hrs
      have hbd := HB0.out r hs hr
      obtain ⟨en, hen⟩ : ∃ en, nn - r = en := ⟨_, rfl⟩
      rw [hen] at hbd
      have e3 : (nn : Int) - (r : Int) = (en : Int) := by omega
      have hnn := HNN.out
      have hme : r + (en - m) = mid := by omega
      have HV := HRU.out.halves HSW.out (st := r) (en := en) (by omega) (by omega) (by omega) (by omega)
        (fun h1 h2 => by
          rcases HI.out.1 with e | e
          · omega
          · rw [hen] at e; exact e)
        (fun h1 h2 => by
          rcases HI.out.2.1 with e | e
          · omega
          · rw [show p - r = en - 1 by omega] at e; exact e)
      rw [hme] at HV
      have HHV : Hid (Runs (ltP L) a r mid (rot r m en f) ∧ Runs (ltP L) mid en b (rot r m en f) ∧ ∀ k l, a ≤ k → k < mid → mid ≤ l → l < b → Ah (ltP L) (rot r m en f k) (rot r m en f l)) := HV
      have HSO : Hid (Sor w wr bk n L f) := HI.out.2.2
      have HPM : Hid (Pm a b f (rot r m en f)) := (rot_pm f (by omega) (by omega)).mono (by omega) (by omega)
      have hra : a ≤ r := by omega
      have hrm : r ≤ m := by omega
      have hme1 : m ≤ en := by omega
      have heb : en ≤ b := by omega
      have hrmid : r ≤ mid := by omega
      have hemid : mid ≤ en := by omega
      clear HI HV hbd hnn hme hen HB0 HNN HH hlt t hs hr hsr
      go_upto_region 39 with fail
      go_cut [185] from 178 to 184 (fun T wx => T = .bool (decide (r < m ∧ m < en)) ∧ wx = wr)
      case first =>
        by_cases h1 : r < m
        · have u1 : (r : Int) < (m : Int) := by omega
          by_cases h2 : m < en
          · have u2 : (m : Int) < (en : Int) := by omega
            go_wp2_with fail
            go_meet
            case rel => exact ⟨congrArg Value.bool (decide_eq_true ⟨h1, h2⟩).symm, rfl⟩
          · have u2 : ¬ (m : Int) < (en : Int) := by omega
            go_wp2_with fail
            go_meet
            case rel => exact ⟨congrArg Value.bool (decide_eq_false (fun k => h2 k.2)).symm, rfl⟩
        · have u1 : ¬ (r : Int) < (m : Int) := by omega
          go_wp2_with fail
          go_meet
          case rel => exact ⟨congrArg Value.bool (decide_eq_false (fun k => h1 k.1)).symm, rfl⟩
      case rest =>
        obtain ⟨rfl, hw0⟩ := hcut
        have hw1 : wr = wc := hw0.symm
        subst hw1
        obtain ⟨T, hT⟩ : ∃ T, decide (r < m ∧ m < en) = T := ⟨_, rfl⟩
        rw [hT]
        have HT : Hid (decide (r < m ∧ m < en) = T) := hT
        clear hT hw0
        go_upto_if 185 with fail
        go_cut [] from 186 to 191 (fun wx => Hid (Sor w wx bk n L (rot r m en f)))
        case first =>
          cases T
          · have hno : ¬ (r < m ∧ m < en) := of_decide_eq_false HT.out
            have HR0 : Hid (rot r m en f = f) := rot_none f (by omega) hrm hme1
            clear hno
            go_wp2_with fail
            go_meet
            case rel => rw [HR0.out]; exact HSO.out
          · have hyes : r < m ∧ m < en := of_decide_eq_true HT.out
            have F := rotate_any L f n r m en cap bk wr HSO.out.1 hyes.1 hyes.2 (by omega) hn (.func (.func 25) #[] #[])
            clear hyes
            go_wp2_with fail
            refine F.mono ?_
            rintro e w2 ⟨⟨v, rfl⟩, H2⟩
            go_wp2_with fail
            go_meet
            case rel => exact ⟨H2.out.1, HSO.out.2.trans H2.out.2 (fun _ _ e => e)⟩
        case rest =>
          obtain ⟨wd, hwd⟩ : ∃ wd, wd = wc := ⟨_, rfl⟩
          subst hwd
          have HS2 : Hid (Sor w wd bk n L (rot r m en f)) := hcut
          clear hcut HSO HT
          obtain ⟨f1, hf1⟩ : ∃ f1, rot r m en f = f1 := ⟨_, rfl⟩
          rw [hf1] at HS2 HHV HPM
          clear hf1
          go_upto_region 41 with fail
          go_cut [199] from 192 to 198 (fun T wx => T = .bool (decide (a < r ∧ r < mid)) ∧ wx = wd)
          case first =>
            by_cases h1 : a < r
            · have u1 : (a : Int) < (r : Int) := by omega
              by_cases h2 : r < mid
              · have u2 : (r : Int) < (mid : Int) := by omega
                go_wp2_with fail
                go_meet
                case rel => exact ⟨congrArg Value.bool (decide_eq_true ⟨h1, h2⟩).symm, rfl⟩
              · have u2 : ¬ (r : Int) < (mid : Int) := by omega
                go_wp2_with fail
                go_meet
                case rel => exact ⟨congrArg Value.bool (decide_eq_false (fun k => h2 k.2)).symm, rfl⟩
            · have u1 : ¬ (a : Int) < (r : Int) := by omega
              go_wp2_with fail
              go_meet
              case rel => exact ⟨congrArg Value.bool (decide_eq_false (fun k => h1 k.1)).symm, rfl⟩
          case rest =>
            obtain ⟨rfl, hw0⟩ := hcut
            have hw1 : wd = wc := hw0.symm
            subst hw1
            obtain ⟨T2, hT⟩ : ∃ T2, decide (a < r ∧ r < mid) = T2 := ⟨_, rfl⟩
            rw [hT]
            have HT : Hid (decide (a < r ∧ r < mid) = T2) := hT
            clear hT hw0
            go_upto_if 199 with fail
            go_cut [] from 200 to 205 (fun wx => ∃ f2, Hid (Pm a mid f1 f2 ∧ Srt (ltP L) a mid f2 ∧ Sor w wx bk n L f2))
            case first =>
              cases T2
              · have hno : ¬ (a < r ∧ r < mid) := of_decide_eq_false HT.out
                have HR0 : Hid (Srt (ltP L) a mid f1) := by
                  by_cases c : a = r
                  · subst c; exact HHV.out.1.two
                  · have c2 : r = mid := by omega
                    have := HHV.out.1.one
                    rw [c2] at this
                    exact this
                clear hno
                go_wp2_with fail
                go_meet
                case rel => exact ⟨f1, Pm.refl _ _ _, HR0.out, HS2.out⟩
              · have hyes : a < r ∧ r < mid := of_decide_eq_true HT.out
                have F := HIH.out L f1 n a r mid cap bk wd HS2.out.1 HHV.out.1 hyes.1 hyes.2 (by omega) hn hm3
                clear hyes
                go_wp2_with fail
                refine F.mono ?_
                rintro e w3 ⟨⟨v, rfl⟩, f2, H3⟩
                go_wp2_with fail
                go_meet
                case rel => exact ⟨f2, H3.out.1, H3.out.2.1, H3.out.2.2.1, HS2.out.2.trans H3.out.2.2.2 (fun _ _ e => e)⟩
            case rest =>
              obtain ⟨f2, HC2⟩ := hcut
              obtain ⟨we, hwe⟩ : ∃ we, we = wc := ⟨_, rfl⟩
              subst hwe
              have HRR : Hid (Runs (ltP L) mid en b f2) := runs_same HHV.out.2.1 (fun k h1 h2 => HC2.out.1.out k (.inr h1))
              clear HT
              go_upto_region 43 with fail
              go_cut [213] from 206 to 212 (fun T wx => T = .bool (decide (mid < en ∧ en < b)) ∧ wx = we)
              case first =>
                by_cases h1 : mid < en
                · have u1 : (mid : Int) < (en : Int) := by omega
                  by_cases h2 : en < b
                  · have u2 : (en : Int) < (b : Int) := by omega
                    go_wp2_with fail
                    go_meet
                    case rel => exact ⟨congrArg Value.bool (decide_eq_true ⟨h1, h2⟩).symm, rfl⟩
                  · have u2 : ¬ (en : Int) < (b : Int) := by omega
                    go_wp2_with fail
                    go_meet
                    case rel => exact ⟨congrArg Value.bool (decide_eq_false (fun k => h2 k.2)).symm, rfl⟩
                · have u1 : ¬ (mid : Int) < (en : Int) := by omega
                  go_wp2_with fail
                  go_meet
                  case rel => exact ⟨congrArg Value.bool (decide_eq_false (fun k => h1 k.1)).symm, rfl⟩
              case rest =>
                obtain ⟨rfl, hw0⟩ := hcut
                have hw1 : we = wc := hw0.symm
                subst hw1
                obtain ⟨T3, hT⟩ : ∃ T3, decide (mid < en ∧ en < b) = T3 := ⟨_, rfl⟩
                rw [hT]
                have HT : Hid (decide (mid < en ∧ en < b) = T3) := hT
                have HFIN : Hid (∀ f3, Pm mid b f2 f3 → Srt (ltP L) mid b f3 → Pm a b f f3 ∧ Srt (ltP L) a b f3) := fun f3 h1 h2 =>
                  ⟨(HPM.out.trans (HC2.out.1.mono (Nat.le_refl _) (by omega))).trans (h1.mono (by omega) (Nat.le_refl _)), Srt.join HHV.out.2.2 HC2.out.1 HC2.out.2.1 h1 h2⟩
                clear hT hw0
                cases T3
                · have hno : ¬ (mid < en ∧ en < b) := of_decide_eq_false HT.out
                  have HR0 : Hid (Srt (ltP L) mid b f2) := by
                    by_cases c : mid = en
                    · have := HRR.out.two
                      rw [← c] at this
                      exact this
                    · have c2 : en = b := by omega
                      have := HRR.out.one
                      rw [c2] at this
                      exact this
                  clear hno
                  go_wp2_with fail
                  go_end0
                  exact ⟨⟨_, rfl⟩, f2, (HFIN.out f2 (Pm.refl _ _ _) HR0.out).1, (HFIN.out f2 (Pm.refl _ _ _) HR0.out).2, HC2.out.2.2⟩
                · have hyes : mid < en ∧ en < b := of_decide_eq_true HT.out
                  have F := HIH.out L f2 n mid en b cap bk we HC2.out.2.2.1 HRR.out hyes.1 hyes.2 hb hn hm4
                  clear hyes
                  go_wp2_with fail
                  refine F.mono ?_
                  rintro e w5 ⟨⟨v, rfl⟩, f3, H5⟩
                  go_wp2_with fail
                  go_end0
                  exact ⟨⟨_, rfl⟩, f3, (HFIN.out f3 H5.out.1 H5.out.2.1).1, (HFIN.out f3 H5.out.1 H5.out.2.1).2, H5.out.2.2.1, HC2.out.2.2.2.trans H5.out.2.2.2 (fun _ _ e => e)⟩
set_option maxRecDepth 100000 in
set_option maxHeartbeats 8000000 in
theorem sym_more1 {d : Nat} (IH : SymAt d) (L : Nat → Of) (f : Nat → Nat) (n a m b cap bk : Nat) (w : World) (h : HoldO w bk n (fun k => L (f k))) (hR : Runs (ltP L) a m b f) (ham : a < m) (hmb : m < b) (hma : m ≠ a + 1) (hbm : b ≠ m + 1) (hb : b ≤ n) (hn : n ≤ 1000000) (hd : b - a ≤ d + 1) (hmid : m ≤ (a + b) / 2) :
    Calls Try.prog 57 #[.slice (some ⟨bk, 0, none⟩) n cap, .int .i64 (a : Int), .int .i64 (m : Int), .int .i64 (b : Int), .func (.func 25) #[] #[]] w
      fun e w' => (∃ v, e = .returned v) ∧ ∃ f', Hid (Pm a b f f' ∧ Srt (ltP L) a b f' ∧ Sor w w' bk n L f') := by
  have hS := ltP_swo L
  have HSW : Hid (Swo (ltP L)) := hS
  have HRU : Hid (Runs (ltP L) a m b f) := hR
  have HH : Hid (Sor w w bk n L f) := ⟨h, But.refl _ _⟩
  have HIH : Hid (SymAt d) := IH
  have t0 : ((m : Int) - (a : Int) == 1) = false := by rw [beq_eq_false_iff_ne]; omega
  have t1 : ((b : Int) - (m : Int) == 1) = false := by rw [beq_eq_false_iff_ne]; omega
  have tz1 : (m : Int) ≤ 1000000 := by omega
  have tz2 : (b : Int) ≤ 1000000 := by omega
  have tz3 : (a : Int) ≤ 1000000 := by omega
  obtain ⟨mid, hmd⟩ : ∃ mid, (a + b) / 2 = mid := ⟨_, rfl⟩
  rw [hmd] at hmid
  obtain ⟨nn, hnn⟩ : ∃ nn, mid + m = nn := ⟨_, rfl⟩
  have q0 : ((a : Int) + (b : Int)) / 2 = (mid : Int) := by omega
  have q1 : (mid : Int) + (m : Int) = (nn : Int) := by omega
  have hm1 : a < mid := by omega
  have hm2 : mid < b := by omega
  have hm3 : mid - a ≤ d := by omega
  have hm4 : b - mid ≤ d := by omega
  obtain ⟨p, hp⟩ : ∃ p, nn - 1 = p := ⟨_, rfl⟩
  have q2 : (nn : Int) - 1 = (p : Int) := by omega
  have tm : ¬ (mid : Int) < (m : Int) := by omega
  have HB0 : Hid (∀ st, a ≤ st → st ≤ m → m ≤ nn - st ∧ nn - st ≤ b ∧ st ≤ m) := fun st h1 h2 => by omega
  have HNN : Hid (mid + m = nn ∧ nn - 1 = p) := ⟨hnn, hp⟩
  have tp : (p : Int) ≤ 3000000 := by omega
  have tn : (nn : Int) ≤ 3000000 := by omega
  have tmi : (mid : Int) ≤ 1000000 := by omega
  clear h hR hS IH hmd hnn hp hbm hd hma
  go_enter Try.func57, Try.ntmps57
  go_wp2_with fail
  go_loopw [20, 21] (fun x y wr => ∃ st r : Nat, x = .int .i64 (st : Int) ∧ y = .int .i64 (r : Int) ∧ a ≤ st ∧ st ≤ r ∧ r ≤ m ∧ Hid ((st = a ∨ ltP L (f (nn - st)) (f (st - 1)) = false) ∧ (r = m ∨ ltP L (f (p - r)) (f r) = true) ∧ Sor w wr bk n L f)) (fun x y _ => (RowKit.intOf y).toNat - (RowKit.intOf x).toNat)
  case atStart => exact ⟨a, m, rfl, rfl, Nat.le_refl _, by omega, Nat.le_refl _, .inl rfl, .inl rfl, HH.out⟩
  case round =>
    obtain ⟨st, r, rfl, rfl, hs, hsr, hr, HI⟩ := hrel
    clear t0 t1
    by_cases hlt : st < r
    · have t : (st : Int) < (r : Int) := by omega
      obtain ⟨q, hq⟩ : ∃ q, (st + r) / 2 = q := ⟨_, rfl⟩
      have e1 : ((st : Int) + (r : Int)) / 2 = (q : Int) := by omega
      have qa : st ≤ q := by omega
      have qb : q < r := by omega
      have hv := HB0.out (q + 1) (by omega) (by omega)
      have hnn := HNN.out
      obtain ⟨v, hvv⟩ : ∃ v, p - q = v := ⟨_, rfl⟩
      have e2 : (p : Int) - (q : Int) = (v : Int) := by omega
      have tv : (v : Int) < (n : Int) := by omega
      have t5 : IntKind.i64.wrap (v : Int) = (v : Int) := by rw [IntKind.wrap_i64]; omega
      have tq : (q : Int) < (n : Int) := by omega
      have HV : Hid (p - q = v ∧ nn - (q + 1) = v) := ⟨hvv, by omega⟩
      have HX := (HI.out.2.2.1).cell (v) (by omega)
      have HY := (HI.out.2.2.1).cell (q) (by omega)
      have F := fun w => rank1_any (L (f (v))) (L (f (q))) w
      have hcl := cmpO_lt (L (f (v))) (L (f (q)))
      have hlw : ltP L (f (v)) (f (q)) = ltO (L (f (v))) (L (f (q))) := rfl
      have HLT : Hid (decide (cmpO (L (f (v))) (L (f (q))) < 0) = ltP L (f (v)) (f (q))) := hcl.trans hlw.symm
      obtain ⟨x, hx⟩ : ∃ x, L (f (v)) = x := ⟨_, rfl⟩
      obtain ⟨y, hy⟩ : ∃ y, L (f (q)) = y := ⟨_, rfl⟩
      rw [hx] at HX F HLT
      rw [hy] at HY F HLT
      clear hx hy hcl hlw
      obtain ⟨x0, x1, x2, x3, x4⟩ := x
      obtain ⟨y0, y1, y2, y3, y4⟩ := y
      obtain ⟨c0, c1, c2, c3, c4⟩ := HX.all
      obtain ⟨d0, d1, d2, d3, d4⟩ := HY.all
      have wl := HX.lt
      clear HX HY
      unfold oV at F
      simp only at c0 c1 c2 c3 c4 d0 d1 d2 d3 d4 F
      generalize cmpO ⟨x0, x1, x2, x3, x4⟩ ⟨y0, y1, y2, y3, y4⟩ = cz at F HLT
      have keep : ∀ {W : World} {o : Nat} {v : Value}, Below wr.drew.heap.size wr.drew W → wr.cell? ⟨bk, o, none⟩ = some v → W.cell? ⟨bk, o, none⟩ = some v := fun hb hc => (hb.cell (p := ⟨bk, _, none⟩) wl).trans hc
      clear hq hvv hnn hv
      by_cases hlv : cz < 0
      · have HL2 : Hid (ltP L (f v) (f q) = true) := by show _ = _; rw [← HLT.out]; exact decide_eq_true hlv
        have hlb : decide (cz < 0) = true := decide_eq_true hlv
        clear hlv
        go_wp2_with fail
        go_region_held3 (fun w' => w'.cell? ⟨bk, (v) * 5, none⟩ = some (.int .i64 x0) ∧ w'.cell? ⟨bk, (v) * 5 + 1, none⟩ = some (.int .i64 x1) ∧ w'.cell? ⟨bk, (v) * 5 + 2, none⟩ = some (.int .i64 x2) ∧ w'.cell? ⟨bk, (v) * 5 + 3, none⟩ = some (.int .i64 x3) ∧ w'.cell? ⟨bk, (v) * 5 + 4, none⟩ = some (.bool x4) ∧ w'.cell? ⟨bk, (q) * 5, none⟩ = some (.int .i64 y0) ∧ w'.cell? ⟨bk, (q) * 5 + 1, none⟩ = some (.int .i64 y1) ∧ w'.cell? ⟨bk, (q) * 5 + 2, none⟩ = some (.int .i64 y2) ∧ w'.cell? ⟨bk, (q) * 5 + 3, none⟩ = some (.int .i64 y3) ∧ w'.cell? ⟨bk, (q) * 5 + 4, none⟩ = some (.bool y4)) (go_keep) (first
         | (go_at_call 25; refine (F _).mono ?_; rintro e w2 ⟨rfl, hb2⟩; have e0 := keep hb2 c0; have e1 := keep hb2 c1; have e2 := keep hb2 c2; have e3 := keep hb2 c3; have e4 := keep hb2 c4; have g0 := keep hb2 d0; have g1 := keep hb2 d1; have g2 := keep hb2 d2; have g3 := keep hb2 d3; have g4 := keep hb2 d4))
        have BX : Below wr.heap.size wr w2 := (below_drewN _ 1 _).trans (hb2.mono (Nat.le_refl _))
        clear keep F c0 c1 c2 c3 c4 d0 d1 d2 d3 d4 e0 e1 e2 e3 e4 g0 g1 g2 g3 g4 hb2
        go_wp2_with fail
        go_roundw
        case rel => exact ⟨st, q, rfl, rfl, hs, qa, by omega, HI.out.1, .inr (by rw [HV.out.1]; exact HL2.out), HI.out.2.2.1.below BX, HI.out.2.2.2.trans (But.of_below (S := fun _ => False) BX) (fun _ _ e => e.elim)⟩
        case measure => simp [RowKit.intOf] <;> omega
      · have HL2 : Hid (ltP L (f v) (f q) = false) := by show _ = _; rw [← HLT.out]; exact decide_eq_false hlv
        have hlb : decide (cz < 0) = false := decide_eq_false hlv
        clear hlv
        go_wp2_with fail
        go_region_held3 (fun w' => w'.cell? ⟨bk, (v) * 5, none⟩ = some (.int .i64 x0) ∧ w'.cell? ⟨bk, (v) * 5 + 1, none⟩ = some (.int .i64 x1) ∧ w'.cell? ⟨bk, (v) * 5 + 2, none⟩ = some (.int .i64 x2) ∧ w'.cell? ⟨bk, (v) * 5 + 3, none⟩ = some (.int .i64 x3) ∧ w'.cell? ⟨bk, (v) * 5 + 4, none⟩ = some (.bool x4) ∧ w'.cell? ⟨bk, (q) * 5, none⟩ = some (.int .i64 y0) ∧ w'.cell? ⟨bk, (q) * 5 + 1, none⟩ = some (.int .i64 y1) ∧ w'.cell? ⟨bk, (q) * 5 + 2, none⟩ = some (.int .i64 y2) ∧ w'.cell? ⟨bk, (q) * 5 + 3, none⟩ = some (.int .i64 y3) ∧ w'.cell? ⟨bk, (q) * 5 + 4, none⟩ = some (.bool y4)) (go_keep) (first
         | (go_at_call 25; refine (F _).mono ?_; rintro e w2 ⟨rfl, hb2⟩; have e0 := keep hb2 c0; have e1 := keep hb2 c1; have e2 := keep hb2 c2; have e3 := keep hb2 c3; have e4 := keep hb2 c4; have g0 := keep hb2 d0; have g1 := keep hb2 d1; have g2 := keep hb2 d2; have g3 := keep hb2 d3; have g4 := keep hb2 d4))
        have BX : Below wr.heap.size wr w2 := (below_drewN _ 1 _).trans (hb2.mono (Nat.le_refl _))
        clear keep F c0 c1 c2 c3 c4 d0 d1 d2 d3 d4 e0 e1 e2 e3 e4 g0 g1 g2 g3 g4 hb2
        go_wp2_with fail
        go_roundw
        case rel => exact ⟨q + 1, r, by simp, rfl, by omega, by omega, hr, .inr (by rw [HV.out.2, Nat.add_sub_cancel]; exact HL2.out), HI.out.2.1, HI.out.2.2.1.below BX, HI.out.2.2.2.trans (But.of_below (S := fun _ => False) BX) (fun _ _ e => e.elim)⟩
        case measure => simp [RowKit.intOf] <;> omega
    · have t : ¬ (st : Int) < (r : Int) := by omega
      have hrs : r = st := by omega
      subst hrs
      have hbd := HB0.out r hs hr
      obtain ⟨en, hen⟩ : ∃ en, nn - r = en := ⟨_, rfl⟩
      rw [hen] at hbd
      have e3 : (nn : Int) - (r : Int) = (en : Int) := by omega
      have hnn := HNN.out
      have hme : r + (en - m) = mid := by omega
      have HV := HRU.out.halves HSW.out (st := r) (en := en) (by omega) (by omega) (by omega) (by omega)
        (fun h1 h2 => by
          rcases HI.out.1 with e | e
          · omega
          · rw [hen] at e; exact e)
        (fun h1 h2 => by
          rcases HI.out.2.1 with e | e
          · omega
          · rw [show p - r = en - 1 by omega] at e; exact e)
      rw [hme] at HV
      have HHV : Hid (Runs (ltP L) a r mid (rot r m en f) ∧ Runs (ltP L) mid en b (rot r m en f) ∧ ∀ k l, a ≤ k → k < mid → mid ≤ l → l < b → Ah (ltP L) (rot r m en f k) (rot r m en f l)) := HV
      have HSO : Hid (Sor w wr bk n L f) := HI.out.2.2
      have HPM : Hid (Pm a b f (rot r m en f)) := (rot_pm f (by omega) (by omega)).mono (by omega) (by omega)
      have hra : a ≤ r := by omega
      have hrm : r ≤ m := by omega
      have hme1 : m ≤ en := by omega
      have heb : en ≤ b := by omega
      have hrmid : r ≤ mid := by omega
      have hemid : mid ≤ en := by omega
      clear HI HV hbd hnn hme hen HB0 HNN HH hlt t hs hr hsr
      go_upto_region 39 with fail
      go_cut [185] from 178 to 184 (fun T wx => T = .bool (decide (r < m ∧ m < en)) ∧ wx = wr)
      case first =>
        by_cases h1 : r < m
        · have u1 : (r : Int) < (m : Int) := by omega
          by_cases h2 : m < en
          · have u2 : (m : Int) < (en : Int) := by omega
            go_wp2_with fail
            go_meet
            case rel => exact ⟨congrArg Value.bool (decide_eq_true ⟨h1, h2⟩).symm, rfl⟩
          · have u2 : ¬ (m : Int) < (en : Int) := by omega
            go_wp2_with fail
            go_meet
            case rel => exact ⟨congrArg Value.bool (decide_eq_false (fun k => h2 k.2)).symm, rfl⟩
        · have u1 : ¬ (r : Int) < (m : Int) := by omega
          go_wp2_with fail
          go_meet
          case rel => exact ⟨congrArg Value.bool (decide_eq_false (fun k => h1 k.1)).symm, rfl⟩
      case rest =>
        obtain ⟨rfl, hw0⟩ := hcut
        have hw1 : wr = wc := hw0.symm
        subst hw1
        obtain ⟨T, hT⟩ : ∃ T, decide (r < m ∧ m < en) = T := ⟨_, rfl⟩
        rw [hT]
        have HT : Hid (decide (r < m ∧ m < en) = T) := hT
        clear hT hw0
        go_upto_if 185 with fail
        go_cut [] from 186 to 191 (fun wx => Hid (Sor w wx bk n L (rot r m en f)))
        case first =>
          cases T
          · have hno : ¬ (r < m ∧ m < en) := of_decide_eq_false HT.out
            have HR0 : Hid (rot r m en f = f) := rot_none f (by omega) hrm hme1
            clear hno
            go_wp2_with fail
            go_meet
            case rel => rw [HR0.out]; exact HSO.out
          · have hyes : r < m ∧ m < en := of_decide_eq_true HT.out
            have F := rotate_any L f n r m en cap bk wr HSO.out.1 hyes.1 hyes.2 (by omega) hn (.func (.func 25) #[] #[])
            clear hyes
            go_wp2_with fail
            refine F.mono ?_
            rintro e w2 ⟨⟨v, rfl⟩, H2⟩
            go_wp2_with fail
            go_meet
            case rel => exact ⟨H2.out.1, HSO.out.2.trans H2.out.2 (fun _ _ e => e)⟩
        case rest =>
          obtain ⟨wd, hwd⟩ : ∃ wd, wd = wc := ⟨_, rfl⟩
          subst hwd
          have HS2 : Hid (Sor w wd bk n L (rot r m en f)) := hcut
          clear hcut HSO HT
          obtain ⟨f1, hf1⟩ : ∃ f1, rot r m en f = f1 := ⟨_, rfl⟩
          rw [hf1] at HS2 HHV HPM
          clear hf1
          go_upto_region 41 with fail
          go_cut [199] from 192 to 198 (fun T wx => T = .bool (decide (a < r ∧ r < mid)) ∧ wx = wd)
          case first =>
            by_cases h1 : a < r
            · have u1 : (a : Int) < (r : Int) := by omega
              by_cases h2 : r < mid
              · have u2 : (r : Int) < (mid : Int) := by omega
                go_wp2_with fail
                go_meet
                case rel => exact ⟨congrArg Value.bool (decide_eq_true ⟨h1, h2⟩).symm, rfl⟩
              · have u2 : ¬ (r : Int) < (mid : Int) := by omega
                go_wp2_with fail
                go_meet
                case rel => exact ⟨congrArg Value.bool (decide_eq_false (fun k => h2 k.2)).symm, rfl⟩
            · have u1 : ¬ (a : Int) < (r : Int) := by omega
              go_wp2_with fail
              go_meet
              case rel => exact ⟨congrArg Value.bool (decide_eq_false (fun k => h1 k.1)).symm, rfl⟩
          case rest =>
            obtain ⟨rfl, hw0⟩ := hcut
            have hw1 : wd = wc := hw0.symm
            subst hw1
            obtain ⟨T2, hT⟩ : ∃ T2, decide (a < r ∧ r < mid) = T2 := ⟨_, rfl⟩
            rw [hT]
            have HT : Hid (decide (a < r ∧ r < mid) = T2) := hT
            clear hT hw0
            go_upto_if 199 with fail
            go_cut [] from 200 to 205 (fun wx => ∃ f2, Hid (Pm a mid f1 f2 ∧ Srt (ltP L) a mid f2 ∧ Sor w wx bk n L f2))
            case first =>
              cases T2
              · have hno : ¬ (a < r ∧ r < mid) := of_decide_eq_false HT.out
                have HR0 : Hid (Srt (ltP L) a mid f1) := by
                  by_cases c : a = r
                  · subst c; exact HHV.out.1.two
                  · have c2 : r = mid := by omega
                    have := HHV.out.1.one
                    rw [c2] at this
                    exact this
                clear hno
                go_wp2_with fail
                go_meet
                case rel => exact ⟨f1, Pm.refl _ _ _, HR0.out, HS2.out⟩
              · have hyes : a < r ∧ r < mid := of_decide_eq_true HT.out
                have F := HIH.out L f1 n a r mid cap bk wd HS2.out.1 HHV.out.1 hyes.1 hyes.2 (by omega) hn hm3
                clear hyes
                go_wp2_with fail
                refine F.mono ?_
                rintro e w3 ⟨⟨v, rfl⟩, f2, H3⟩
                go_wp2_with fail
                go_meet
                case rel => exact ⟨f2, H3.out.1, H3.out.2.1, H3.out.2.2.1, HS2.out.2.trans H3.out.2.2.2 (fun _ _ e => e)⟩
            case rest =>
              obtain ⟨f2, HC2⟩ := hcut
              obtain ⟨we, hwe⟩ : ∃ we, we = wc := ⟨_, rfl⟩
              subst hwe
              have HRR : Hid (Runs (ltP L) mid en b f2) := runs_same HHV.out.2.1 (fun k h1 h2 => HC2.out.1.out k (.inr h1))
              clear HT
              go_upto_region 43 with fail
              go_cut [213] from 206 to 212 (fun T wx => T = .bool (decide (mid < en ∧ en < b)) ∧ wx = we)
              case first =>
                by_cases h1 : mid < en
                · have u1 : (mid : Int) < (en : Int) := by omega
                  by_cases h2 : en < b
                  · have u2 : (en : Int) < (b : Int) := by omega
                    go_wp2_with fail
                    go_meet
                    case rel => exact ⟨congrArg Value.bool (decide_eq_true ⟨h1, h2⟩).symm, rfl⟩
                  · have u2 : ¬ (en : Int) < (b : Int) := by omega
                    go_wp2_with fail
                    go_meet
                    case rel => exact ⟨congrArg Value.bool (decide_eq_false (fun k => h2 k.2)).symm, rfl⟩
                · have u1 : ¬ (mid : Int) < (en : Int) := by omega
                  go_wp2_with fail
                  go_meet
                  case rel => exact ⟨congrArg Value.bool (decide_eq_false (fun k => h1 k.1)).symm, rfl⟩
              case rest =>
                obtain ⟨rfl, hw0⟩ := hcut
                have hw1 : we = wc := hw0.symm
                subst hw1
                obtain ⟨T3, hT⟩ : ∃ T3, decide (mid < en ∧ en < b) = T3 := ⟨_, rfl⟩
                rw [hT]
                have HT : Hid (decide (mid < en ∧ en < b) = T3) := hT
                have HFIN : Hid (∀ f3, Pm mid b f2 f3 → Srt (ltP L) mid b f3 → Pm a b f f3 ∧ Srt (ltP L) a b f3) := fun f3 h1 h2 =>
                  ⟨(HPM.out.trans (HC2.out.1.mono (Nat.le_refl _) (by omega))).trans (h1.mono (by omega) (Nat.le_refl _)), Srt.join HHV.out.2.2 HC2.out.1 HC2.out.2.1 h1 h2⟩
                clear hT hw0
                cases T3
                · have hno : ¬ (mid < en ∧ en < b) := of_decide_eq_false HT.out
                  have HR0 : Hid (Srt (ltP L) mid b f2) := by
                    by_cases c : mid = en
                    · have := HRR.out.two
                      rw [← c] at this
                      exact this
                    · have c2 : en = b := by omega
                      have := HRR.out.one
                      rw [c2] at this
                      exact this
                  clear hno
                  go_wp2_with fail
                  go_end0
                  exact ⟨⟨_, rfl⟩, f2, (HFIN.out f2 (Pm.refl _ _ _) HR0.out).1, (HFIN.out f2 (Pm.refl _ _ _) HR0.out).2, HC2.out.2.2⟩
                · have hyes : mid < en ∧ en < b := of_decide_eq_true HT.out
                  have F := HIH.out L f2 n mid en b cap bk we HC2.out.2.2.1 HRR.out hyes.1 hyes.2 hb hn hm4
                  clear hyes
                  go_wp2_with fail
                  refine F.mono ?_
                  rintro e w5 ⟨⟨v, rfl⟩, f3, H5⟩
                  go_wp2_with fail
                  go_end0
                  exact ⟨⟨_, rfl⟩, f3, (HFIN.out f3 H5.out.1 H5.out.2.1).1, (HFIN.out f3 H5.out.1 H5.out.2.1).2, H5.out.2.2.1, HC2.out.2.2.2.trans H5.out.2.2.2 (fun _ _ e => e)⟩
/-- symMerge, of any two runs. -/
theorem sym_all : ∀ d, SymAt d
  | 0 => fun L f n a m b cap bk w _ _ h1 h2 _ _ h5 => absurd h5 (by omega)
  | d + 1 => fun L f n a m b cap bk w h hR h1 h2 h3 h4 h5 => by
    by_cases c1 : m = a + 1
    · exact sym_one L f n a m b cap bk w h hR c1 h2 h3 h4
    · by_cases c2 : b = m + 1
      · exact sym_last L f n a m b cap bk w h hR h1 c1 c2 h3 h4
      · by_cases c3 : (a + b) / 2 < m
        · exact sym_more0 (sym_all d) L f n a m b cap bk w h hR h1 h2 c1 c2 h3 h4 h5 c3
        · exact sym_more1 (sym_all d) L f n a m b cap bk w h hR h1 h2 c1 c2 h3 h4 h5 (by omega)
end Go.Proofs.Ytbjibmfehphffaa.RO
