/-
  WindowOpens: at the tick that is told one may be taken, at the one ahead of it none. For every width, most and list of ticks, no condition.
-/
import Derived.Test.YtphdjjhocdgofaaWinAwake
import Derived.Test.YtphdjjhocdgofaaFrame3
namespace Go.Proofs.Ytphdjjhocdgofaa
open Go.ChangeShapes Go.WideShapes Go.ChangeAt Go.RowKit Go.Lib

set_option maxRecDepth 100000 in
set_option maxHeartbeats 1000000 in
theorem opens_many (w : World) (width most : Int) (a : Option Addr) (n cap : Nat) (hn : 100 < n) :
    Calls Try.prog 6 #[.int .i64 width, .int .i64 most, .slice a n cap] w fun e w' => e = .returned (.bool true) ∧ Below w.heap.size w w' := by
  have F1 := awake6_any w
  have t : (100 : Int) < (n : Int) := by omega
  go_enter Try.func6, Try.ntmps6
  go_wp2_with fail
  refine F1.mono ?_
  rintro e w1 ⟨rfl, hb⟩
  go_wp2_with fail
  go_ret
  exact ⟨rfl, hb⟩
set_option maxRecDepth 100000 in
set_option maxHeartbeats 1000000 in
theorem opens_odd (w : World) (width most : Int) (a : Option Addr) (n cap : Nat) (hn : ¬ 100 < n) (hr : width < 1 ∨ 1073741824 < width ∨ most < 1 ∨ 1024 < most) :
    Calls Try.prog 6 #[.int .i64 width, .int .i64 most, .slice a n cap] w fun e w' => e = .returned (.bool true) ∧ Below w.heap.size w w' := by
  have F1 := awake6_any w
  have F3 := fun w => new_no width most w hr
  have t : ¬ (100 : Int) < (n : Int) := by omega
  clear hr
  go_enter Try.func6, Try.ntmps6
  go_wp2_with fail
  refine F1.mono ?_
  rintro e w1 ⟨rfl, hb⟩
  go_wp2_with fail
  refine (F3 _).mono ?_
  rintro e w3 ⟨rfl, rfl⟩
  go_wp2_with fail
  go_ret
  exact ⟨by simp, hb⟩

/-- A window in memory that is newer than w0. -/
def Stands (w0 : World) (P width most : Nat) (w : World) : Prop := Below w0.heap.size w0 w ∧ ∃ v n g, Win w w0.heap.size P width most v n g
theorem Stands.drewN {w0 w : World} {P width most : Nat} (h : Stands w0 P width most w) (m : Nat) : Stands w0 P width most (w.drewN m) := by
  obtain ⟨B, v, n, g, W⟩ := h
  exact ⟨below_more B m, v, n, g, W.drewN m⟩
theorem stands_took {w0 w w' : World} {P width most n n' : Nat} {v v' : Value} {g g' : Nat → Int} (B : Below w0.heap.size w0 w) (h : Win w w0.heap.size P width most v n g) (h' : Win w' w0.heap.size P width most v' n' g') (k : But (ownT P v) w w') : Stands w0 P width most w' :=
  ⟨B.trans (k.below B.size (fun _ hk => (h.tk.there hk).1)), _, _, _, h'⟩
/-- When a window is full, the first tick and its width are the next at which one may be taken. -/
theorem wait_facts {g : Nat → Int} {width most : Nat} (R : Rise most g) (s : Sized width most) {t : Int} (ha : Askd g most t) (hc : Cnt g most width t most) :
    t < g 0 + (width : Int) ∧ g 0 ≤ t ∧ Cnt g most width (g 0 + (width : Int) - 1) most ∧ (∃ c K, Cnt g most width (g 0 + (width : Int)) c ∧ Cut g most (g 0 + (width : Int) - (width : Int) + 1) K ∧ c + K = most ∧ c < most) := by
  obtain ⟨s1, s2, s3, s4⟩ := s
  obtain ⟨k, hk, hkm⟩ := hc.cut ha
  obtain rfl : k = 0 := by omega
  have h0 := hk.rest 0 (Nat.le_refl _) (by omega)
  have hl : g (most - 1) ≤ t := by rcases ha.2.2 with e | e <;> omega
  have hu := R.up 0 (most - 1) (by omega) (by omega)
  refine ⟨by omega, by omega, .inr (.inr ⟨by omega, by omega, 0, ⟨by omega, fun j hj => absurd hj (by omega), fun j _ hj => ?_⟩, by omega⟩), ?_⟩
  · have := R.up 0 j (by omega) hj
    omega
  · obtain ⟨K, hK⟩ := Cut.ex g (g 0 + (width : Int) - (width : Int) + 1) most R.up
    have hK1 : 1 ≤ K := by
      by_cases e : K = 0
      · have := hK.rest 0 (by omega) (by omega)
        omega
      · omega
    have := hK.le
    exact ⟨most - K, K, .inr (.inr ⟨by omega, by omega, K, hK, by omega⟩), hK, by omega, by omega⟩
set_option maxRecDepth 100000 in
set_option maxHeartbeats 8000000 in
theorem opens_main (w : World) (width most : Nat) (v : Value) (n : Nat) (F : Nat → Int) (h : Row w v n fun i => .int .i64 (F i)) (hF : ∀ i, -9223372036854775808 ≤ F i ∧ F i ≤ 9223372036854775807) (hn : n ≤ 100) (hs : Sized width most) :
    Calls Try.prog 6 #[.int .i64 (width : Int), .int .i64 (most : Int), v] w fun e w' => e = .returned (.bool true) ∧ Below w.heap.size w w' := by
  have F1 := awake6_any w
  have F2 := fun w' (hB : w.heap.size ≤ w'.heap.size) => new_yes width most w' hs w.heap.size hB
  obtain ⟨a, cap, rfl, h1, h2, h3⟩ := id h
  have t3 : ¬ (100 : Int) < (n : Int) := by omega
  obtain ⟨s1, s2, s3, s4⟩ := id hs
  go_enter Try.func6, Try.ntmps6
  go_wp2_with fail
  refine F1.mono ?_
  rintro e w1 ⟨rfl, B1⟩
  have z1 := B1.size
  go_wp2_with fail
  refine (F2 _ z1).mono ?_
  rintro e w2 ⟨rfl, R2, B2, s2'⟩
  obtain ⟨P, hP⟩ : ∃ P, P = w1.heap.size := ⟨_, rfl⟩
  have Q2 : Stands w P width most w2 := ⟨B1.trans (B2.mono z1), .slice none 0 0, 0, fun _ => 0, by rw [hP]; exact R2 _, ⟨fun i j _ hj => absurd hj (by omega), fun i hi => absurd hi (by omega), fun i hi => absurd hi (by omega)⟩, hs, by omega⟩
  rw [← hP]
  clear hP R2 B2 s2' F1 F2 B1 z1
  go_wp2_with fail
  go_loopw [31] (fun i wr => ∃ k : Nat, i = .int .i64 (k : Int) ∧ k ≤ n ∧ Stands w P width most wr) (fun i _ => n - (RowKit.intOf i).toNat)
  case atStart => exact ⟨0, rfl, Nat.zero_le _, Q2⟩
  case round =>
    clear Q2
    obtain ⟨k, rfl, hk, Q⟩ := hrel
    by_cases hlt : k < n
    · have t : (k : Int) < (n : Int) := by omega
      obtain ⟨b, off, rfl, hc⟩ := h3 k hlt
      have d0 := (Q.1.cell (World.block_lt_of_cell? _ _ hc)).trans hc
      have d : wr.cell? ⟨b, off + k, none⟩ = some (.int .i64 (F k)) := d0
      have hy := hF k
      obtain ⟨y, ey⟩ : ∃ y, F k = y := ⟨_, rfl⟩
      rw [ey] at d hy
      clear hc h3 h ey hF d0
      obtain ⟨BQ, v, m, g, W⟩ := Q
      by_cases ha : Askd g m y
      · obtain ⟨c, hc⟩ := Cnt.ex W.rise width y
        obtain ⟨K, hK, hcK⟩ := hc.cut ha
        by_cases hcm : c < most
        · have G1 := free_now W ha hc hcm
          have a1 := ha.1
          have a2 := ha.2.1
          have u1 : ¬ y < y := by omega
          have u2 : y ≤ 1099511627776 := a2
          have HW : Hid (Win wr w.heap.size P width most v m g) := W
          have HA : Hid (Askd g m y ∧ Cnt g m width y c ∧ Cut g m (y - (width : Int) + 1) K ∧ c + K = m ∧ c < most) := ⟨ha, hc, hK, hcK, hcm⟩
          clear ha hc hK hcK W hcm
          go_wp2_with fail
          refine G1.mono ?_
          rintro e w3 ⟨rfl, m3, hw3⟩
          have W3 := HW.out.drewN m3
          have B3 := below_more BQ m3
          rw [← hw3] at W3 B3
          have G2' := may_ok W3 HA.out.1 HA.out.2.1
          rw [decide_eq_true HA.out.2.2.2.2] at G2'
          clear hw3 HW G1 BQ d
          go_wp2_with fail
          refine G2'.mono ?_
          rintro e w4 ⟨rfl, m4, hw4⟩
          have W4 := W3.drewN m4
          have B4 := below_more B3 m4
          rw [← hw4] at W4 B4
          have G3' := take_ok W4 HA.out.1 HA.out.2.1 HA.out.2.2.1 HA.out.2.2.2.1 HA.out.2.2.2.2
          clear hw4 W3 B3 G2'
          go_wp2_with fail
          refine G3'.mono ?_
          rintro e w5 ⟨rfl, v5, W5, k5, _⟩
          have Q5 := stands_took B4 W4 W5 k5
          clear W5 k5 W4 B4 G3'
          go_wp2_with fail
          go_roundw
          case rel => exact ⟨k + 1, by simp, by omega, Q5⟩
          case measure => simp [RowKit.intOf]; omega
        · have hfit := W.fits
          have hcl := hc.le
          obtain rfl : c = most := by omega
          obtain rfl : m = c := by omega
          have G1 := free_wait W ha hc
          obtain ⟨f1, f2, f3, c', K', f4, f5, f6, f7⟩ := wait_facts W.rise hs ha hc
          have x1 := W.rise.low 0 (by omega)
          have x2 := W.rise.high 0 (by omega)
          have hl : g (m - 1) ≤ y := by rcases ha.2.2 with e | e <;> omega
          have a1 := ha.1
          have a2 := ha.2.1
          obtain ⟨T, eT⟩ : ∃ T, g 0 + (width : Int) = T := ⟨_, rfl⟩
          rw [eT] at G1 f1 f3 f4 f5
          have u1 : ¬ T < y := by omega
          have u2 : ¬ (width : Int) < T - y := by omega
          have u3 : y < T := f1
          have b1 : 0 ≤ T ∧ T ≤ 2199023255552 := by omega
          have HW : Hid (Win wr w.heap.size P width m v m g) := W
          have HM : Hid (∀ w', Win w' w.heap.size P width m v m g → Calls Try.prog 14 #[.pointer (some ⟨P, 0, none⟩), .int .i64 (T - 1)] w' fun e w'' => e = .returned (.bool false) ∧ ∃ m, w'' = w'.drewN m) := by
            intro w' W'
            by_cases e : T - 1 ≤ 1099511627776
            · have := may_ok W' (now := T - 1) ⟨by omega, e, .inr (by omega)⟩ f3
              rw [decide_eq_false (by omega)] at this
              exact this
            · exact may_no W' (fun h => e h.2.1)
          by_cases hT : T ≤ 1099511627776
          · have HA : Hid (Askd g m T ∧ Cnt g m width T c' ∧ Cut g m (T - (width : Int) + 1) K' ∧ c' + K' = m ∧ c' < m) := ⟨⟨by omega, hT, .inr (by omega)⟩, f4, f5, f6, f7⟩
            clear ha hc hK hcK W hcm f1 f2 f3 f4 f5 f6 f7 eT x1 x2 hl hfit hcl
            go_wp2_with fail
            refine G1.mono ?_
            rintro e w3 ⟨rfl, m3, hw3⟩
            have W3 := HW.out.drewN m3
            have B3 := below_more BQ m3
            rw [← hw3] at W3 B3
            have G2' := may_ok W3 HA.out.1 HA.out.2.1
            rw [decide_eq_true HA.out.2.2.2.2] at G2'
            clear hw3 HW G1 BQ d
            go_wp2_with fail
            refine G2'.mono ?_
            rintro e w4 ⟨rfl, m4, hw4⟩
            have W4 := W3.drewN m4
            have B4 := below_more B3 m4
            rw [← hw4] at W4 B4
            have G3' := HM.out w4 W4
            clear hw4 W3 B3 G2' HM
            go_wp2_with fail
            refine G3'.mono ?_
            rintro e w5 ⟨rfl, m5, hw5⟩
            have W5 := W4.drewN m5
            have B5 := below_more B4 m5
            rw [← hw5] at W5 B5
            have G4' := take_ok W5 HA.out.1 HA.out.2.1 HA.out.2.2.1 HA.out.2.2.2.1 HA.out.2.2.2.2
            clear hw5 W4 B4 G3'
            go_wp2_with fail
            refine G4'.mono ?_
            rintro e w6 ⟨rfl, v6, W6, k6, _⟩
            have Q6 := stands_took B5 W5 W6 k6
            clear W6 k6 W5 B5 G4'
            go_wp2_with fail
            go_roundw
            case rel => exact ⟨k + 1, by simp, by omega, Q6⟩
            case measure => simp [RowKit.intOf]; omega
          · have HA : Hid (¬ Askd g m T) := fun h => hT h.2.1
            clear ha hc hK hcK W hcm f1 f2 f3 f4 f5 f6 f7 eT x1 x2 hl hfit hcl
            go_wp2_with fail
            refine G1.mono ?_
            rintro e w3 ⟨rfl, m3, hw3⟩
            have W3 := HW.out.drewN m3
            have B3 := below_more BQ m3
            rw [← hw3] at W3 B3
            have G2' := HM.out w3 W3
            clear hw3 HW G1 BQ d HM
            go_wp2_with fail
            refine G2'.mono ?_
            rintro e w4 ⟨rfl, m4, hw4⟩
            have W4 := W3.drewN m4
            have B4 := below_more B3 m4
            rw [← hw4] at W4 B4
            have G3' := take_no W4 HA.out
            clear hw4 W3 B3 G2'
            go_wp2_with fail
            refine G3'.mono ?_
            rintro e w5 ⟨rfl, m5, hw5⟩
            have W5 := W4.drewN m5
            have B5 := below_more B4 m5
            rw [← hw5] at W5 B5
            clear hw5 W4 B4 G3'
            go_wp2_with fail
            go_roundw
            case rel => exact ⟨k + 1, by simp, by omega, B5, _, _, _, W5⟩
            case measure => simp [RowKit.intOf]; omega
      · have G1 := free_no W ha
        have HW : Hid (Win wr w.heap.size P width most v m g) := W
        have HA : Hid (¬ Askd g m y) := ha
        clear ha W
        go_wp2_with fail
        refine G1.mono ?_
        rintro e w3 ⟨rfl, m3, hw3⟩
        have W3 := HW.out.drewN m3
        have B3 := below_more BQ m3
        rw [← hw3] at W3 B3
        have G3' := take_no W3 HA.out
        clear hw3 HW G1 BQ d
        go_wp2_with fail
        refine G3'.mono ?_
        rintro e w4 ⟨rfl, m4, hw4⟩
        have W4 := W3.drewN m4
        have B4 := below_more B3 m4
        rw [← hw4] at W4 B4
        clear hw4 W3 B3 G3'
        go_wp2_with fail
        go_roundw
        case rel => exact ⟨k + 1, by simp, by omega, B4, _, _, _, W4⟩
        case measure => simp [RowKit.intOf]; omega
    · obtain rfl : k = n := by omega
      have t : ¬ (k : Int) < (k : Int) := by omega
      have BF := Q.1
      clear h3 Q
      go_wp2_with fail
      go_ret
      exact ⟨rfl, BF⟩
theorem windowOpens_walk (w : World) (width most : Int) (F : Nat → Int) (n : Nat) (v : Value) (h : Row w v n fun i => .int .i64 (F i)) (_h0 : ∀ i, n ≤ i → F i = 0) (hF : ∀ i, -9223372036854775808 ≤ F i ∧ F i ≤ 9223372036854775807) :
    Calls Try.prog 6 #[.int .i64 width, .int .i64 most, v] w fun e w' => e = .returned (.bool true) ∧ Below w.heap.size w w' := by
  obtain ⟨a, cap, rfl, _⟩ := id h
  by_cases hn : 100 < n
  · exact opens_many w width most a n cap hn
  by_cases hr : width < 1 ∨ 1073741824 < width ∨ most < 1 ∨ 1024 < most
  · exact opens_odd w width most a n cap hn hr
  obtain ⟨W, rfl⟩ : ∃ r : Nat, width = (r : Int) := ⟨width.toNat, by omega⟩
  obtain ⟨M, rfl⟩ : ∃ r : Nat, most = (r : Int) := ⟨most.toNat, by omega⟩
  exact opens_main w W M _ n F h hF (by omega) ⟨by omega, by omega, by omega, by omega⟩
theorem windowOpens_own : ownKnob Try.prog.godebug = none := by kernel_rfl
theorem windowOpens_laidOut : laidOutB Try.prog = true := by kernel_rfl
set_option maxRecDepth 100000 in
theorem windowOpens_lifted (os : Os) (started : os.Started) (H : Type) (enc : TypeId × Value → H) :
    ReturnsInHanded {} Try.checked os 6 .any (Rows.windowOpensSpec.pre6 enc Try.prog Try.f6 Rows.windowOpensRow.domain false) (Rows.windowOpensSpec.post enc Try.prog Try.f6 false true false false) := by
  refine returnsInHanded_of_change (C := Try.checked) windowOpens_own started (by kernel_rfl) Try.func6
    (ChangeSpec.witness6 (enc := enc) (C := Try.checked) false ⟨#[], #[.int .i64 0, .int .i64 0, .slice none 0 0], []⟩ 8 (by kernel_rfl) (by kernel_rfl) (by kernel_rfl) (by kernel_rfl)) ?_
  intro W base args ds gs before hval0 hW hcnd _
  have hval : ∀ (j : Nat) t v, Try.f6.params[j]? = some t → args[j]? = some v → Value.okWide Try.prog W .any base t v := hval0
  have hW' := hW
  obtain ⟨p, q, hA0, hV, rfl, hfz, hnd⟩ := hW
  have hA : DataW.TrodAll enc Try.prog W 0 (fun _ => true) true Try.f6.params.toList args.toList ds p := hA0
  rw [Try.params6] at hA hval
  obtain ⟨v0, vs0, d0, ds0, p0, q0, hargs, rfl, rfl, h0, r0⟩ := trodAll_cons hA
  obtain ⟨v1, vs1, d1, ds1, p1, q1, rfl, rfl, rfl, h1, r1⟩ := trodAll_cons r0
  obtain ⟨v2, vs2, d2, ds2, p2, q2, rfl, rfl, rfl, h2, r2⟩ := trodAll_cons r1
  obtain ⟨rfl, rfl, rfl⟩ := trodAll_nil r2
  obtain rfl : args = #[v0, v1, v2] := by cases args; simp_all
  obtain ⟨rfl, rfl⟩ := trodVars_none hV
  obtain ⟨a0, rfl, rfl, rfl, w0⟩ := open_int Try.underlying3 (hval 0 3 v0 rfl rfl) h0
  have bd0 := bounds_i64 w0
  obtain ⟨a1, rfl, rfl, rfl, w1⟩ := open_int Try.underlying3 (hval 1 3 v1 rfl rfl) h1
  have bd1 := bounds_i64 w1
  obtain ⟨ad2, n2, cap2, rfl⟩ := okWide_slice Try.underlying22 (hval 2 22 v2 rfl rfl)
  have k2 := h2
  have lt2 : ∀ x ∈ p2, x.block < W.heap.size := by obtain ⟨m, hm⟩ := k2; exact DataW.trod_lt m _ _ _ hm
  obtain ⟨f2, row2, be2, bd2⟩ : ∃ f : Nat → Int, Row W (.slice ad2 n2 cap2) n2 (fun i => .int .i64 (f i)) ∧ (∀ i, n2 ≤ i → f i = 0) ∧ ∀ i, -9223372036854775808 ≤ f i ∧ f i ≤ 9223372036854775807 := by
    obtain ⟨fuel, hf⟩ := h2
    rcases open_ints Try.underlying22 Try.underlying3 (by kernel_rfl) hf with ⟨hcs, _⟩ | ⟨x, l, c, zs, hcs, _, hl, hm, hz, _, hcell, hwz⟩
    · simp [Value.cells] at hcs
      obtain ⟨rfl, rfl, rfl⟩ := hcs
      exact row_none W
    · simp [Value.cells] at hcs
      obtain ⟨rfl, rfl, rfl⟩ := hcs
      exact row_some hl hm (by simpa using hz) hcell (fun z hz => bounds_i64 (hwz z hz))
  clear hA0 hval0
  simp only [List.append_nil, List.nil_append] at hW'
  refine (windowOpens_walk W a0 a1 f2 n2 _ row2 be2 bd2).mono fun e W' ⟨he, bel⟩ => ?_
  subst he
  exact ⟨_, rfl, _, _, _, [], _, [], hW', trodAll_mk1 (shut_bool Try.underlying4 _), (trodAll_cons_mk (shut_int Try.underlying3 w0) (trodAll_cons_mk (shut_int Try.underlying3 w1) (trodAll_cons_mk (Below.trod windowOpens_laidOut (by kernel_rfl) (of_decide_eq_true (by kernel_rfl)) k2 bel lt2) trodAll_mk0))), rfl, bel.frame _, fun h => by cases h⟩

/-- THE STATEMENT. -/
theorem windowOpens_proved : Rows.WindowOpensSaid :=
  OpenClaim.holds_of_wide 6 Try.f6 rfl rfl rfl rfl rfl rfl rfl ⟨rfl, rfl, rfl, rfl, rfl⟩ rfl rfl rfl rfl rfl (by kernel_rfl) Try.func6 (by kernel_rfl)
    (of_decide_eq_true (by kernel_rfl)) (by unfold Func.isWrapper; first | (rw [if_pos (by decide +kernel)]; kernel_rfl) | (rw [if_neg (by decide +kernel)]; exact ⟨rfl, rfl⟩))
    (fun os started H enc _ => windowOpens_lifted os started H enc)
#print axioms windowOpens_proved
end Go.Proofs.Ytphdjjhocdgofaa
