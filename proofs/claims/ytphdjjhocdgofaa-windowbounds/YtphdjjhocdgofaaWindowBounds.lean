/-
  WindowBounds: in any stretch of the width no more are taken than may be. For every width, most and list of ticks, no condition.
-/
import Derived.Test.YtphdjjhocdgofaaWinAwake
import Derived.Test.YtphdjjhocdgofaaFrame3
namespace Go.Proofs.Ytphdjjhocdgofaa
open Go.ChangeShapes Go.WideShapes Go.ChangeAt Go.RowKit Go.Lib

/-- A window beside the list of all that was taken; all lies in memory that is newer than w0. -/
structure Took (w0 : World) (P width most : Nat) (w : World) (vt : Value) (N : Nat) (a : Nat → Int) : Prop where
  win : ∃ v n g, Win w w0.heap.size P width most v n g ∧ Kept a N n width g ∧ ∀ k, ownT P v k → vt.ownBlock ≠ some k
  taken : w.ownsRow w0.heap.size 3 1 vt N (vals (fun i => .int .i64 (a i)) N)
  rise : Rise N a
  gap : ∀ i, i + most < N → a i + (width : Int) ≤ a (i + most)
  below : Below w0.heap.size w0 w
theorem Took.still {w0 w w' : World} {P width most N : Nat} {vt : Value} {a : Nat → Int} (h : Took w0 P width most w vt N a) (k : Below w.heap.size w w') : Took w0 P width most w' vt N a := by
  obtain ⟨v, n, g, W, K, o⟩ := h.win
  exact ⟨⟨v, n, g, W.below k, K, o⟩, own_below h.taken k, h.rise, h.gap, h.below.trans (k.mono h.below.size)⟩
theorem gap_more {a : Nat → Int} {N width most c : Nat} {now : Int} (gap : ∀ i, i + most < N → a i + (width : Int) ≤ a (i + most)) (hm : 1 ≤ most) (ak : Askd a N now) (hc : Cnt a N width now c) (hcm : c < most) :
    ∀ i, i + most < N + 1 → upd a N now i + (width : Int) ≤ upd a N now (i + most) := fun i hi => by
  by_cases e : i + most = N
  · rw [e, upd_same, upd_other _ _ (by omega)]
    obtain ⟨k, hk, hck⟩ := hc.cut ak
    have := hk.less i (by omega)
    omega
  · rw [upd_other _ _ (by omega), upd_other _ _ (by omega)]
    exact gap i (by omega)
/-- What a Take and an append make of it. -/
theorem Took.took {w0 w w1 w2 : World} {P width most N n K c : Nat} {vt vt' v v' : Value} {a g : Nat → Int} {now : Int} {t : TypeId} (h : Took w0 P width most w vt N a) (o : ∀ k, ownT P v k → vt.ownBlock ≠ some k)
    (W : Win w w0.heap.size P width most v n g) (hK : Kept a N n width g) (ha : Askd g n now) (hc : Cnt g n width now c) (hC : Cut g n (now - (width : Int) + 1) K) (hcm : c < most)
    (W1 : Win w1 w0.heap.size P width most v' (n - K + 1) (tookG g n K now)) (k1 : But (ownT P v) w w1) (o1 : ∀ k, ownT P v' k → ownT P v k ∨ w.heap.size ≤ k)
    (hg : (w1.alloc (.cells #[.int .i64 now] t)).grownBy w2 vt.ownBlock) (hat : vt'.ownBlock = vt.ownBlock ∨ vt'.ownBlock = some (w1.heap.size + 1))
    (hown : w2.ownsRow w0.heap.size 3 1 vt' (N + 1) (vals (fun i => .int .i64 (a i)) N ++ [.int .i64 now])) :
    Took w0 P width most w2 vt' (N + 1) (upd a N now) := by
  have ak := hK.askd.1 ha
  have B0 := h.below
  have hz := B0.size
  have B1 : Below w0.heap.size w0 w1 := B0.trans (k1.below hz (fun k hk => (W.tk.there hk).1))
  have A1 := (Below.refl w1.heap.size w1).alloc (Nat.le_refl _) (.cells #[.int .i64 now] t)
  have B2 : Below w0.heap.size w0 (w1.alloc (.cells #[.int .i64 now] t)) := B1.alloc B1.size _
  have BG := But.of_grown hg
  have o1' : ∀ k, ownT P v' k → vt.ownBlock ≠ some k := fun k hk e => by
    rcases o1 k hk with e' | e'
    · exact o k e' e
    · have := (h.taken.lt k e).2; omega
  have ev : vals (fun i => .int .i64 (upd a N now i)) (N + 1) = vals (fun i => .int .i64 (a i)) N ++ [.int .i64 now] := by
    rw [vals_succ, upd_same]
    congr 1
    exact vals_same (fun i hi => by rw [upd_other _ _ (by omega)])
  rw [← ev] at hown
  have W2 := W1.below A1
  refine ⟨⟨v', _, _, ⟨W2.tk.kept BG (fun k hk => o1' k hk), W2.rise, W2.sized, W2.fits⟩, hK.took ak hC, fun k hk => ?_⟩, hown, h.rise.more ak, gap_more h.gap W.sized.m1 ak (hK.cnt hc) hcm, ?_⟩
  · rcases hat with e | e
    · rw [e]; exact o1' k hk
    · rw [e]; intro e'
      injection e' with e'
      have := (W1.tk.there hk).2; omega
  · exact B2.trans (BG.below B2.size (fun k hk => (h.taken.lt k hk).1))
set_option maxRecDepth 100000 in
set_option maxHeartbeats 1000000 in
theorem bounds_many (w : World) (width most : Int) (a : Option Addr) (n cap : Nat) (hn : 200 < n) :
    Calls Try.prog 5 #[.int .i64 width, .int .i64 most, .slice a n cap] w fun e w' => e = .returned (.bool true) ∧ Below w.heap.size w w' := by
  have F1 := awake6_any w
  have t : (200 : Int) < (n : Int) := by omega
  go_enter Try.func5, Try.ntmps5
  go_wp2_with fail
  refine F1.mono ?_
  rintro e w1 ⟨rfl, hb⟩
  go_wp2_with fail
  go_ret
  exact ⟨rfl, hb⟩
set_option maxRecDepth 100000 in
set_option maxHeartbeats 1000000 in
theorem bounds_odd (w : World) (width most : Int) (a : Option Addr) (n cap : Nat) (hn : ¬ 200 < n) (hr : width < 1 ∨ 1073741824 < width ∨ most < 1 ∨ 1024 < most) :
    Calls Try.prog 5 #[.int .i64 width, .int .i64 most, .slice a n cap] w fun e w' => e = .returned (.bool true) ∧ Below w.heap.size w w' := by
  have F1 := awake6_any w
  have F3 := fun w => new_no width most w hr
  have t : ¬ (200 : Int) < (n : Int) := by omega
  clear hr
  go_enter Try.func5, Try.ntmps5
  go_wp2_with fail
  refine F1.mono ?_
  rintro e w1 ⟨rfl, hb⟩
  go_wp2_with fail
  refine (F3 _).mono ?_
  rintro e w3 ⟨rfl, rfl⟩
  go_wp2_with fail
  go_ret
  exact ⟨by simp, hb⟩
set_option maxRecDepth 100000 in
set_option maxHeartbeats 8000000 in
theorem bounds_main (w : World) (width most : Nat) (v : Value) (n : Nat) (F : Nat → Int) (h : Row w v n fun i => .int .i64 (F i)) (hF : ∀ i, -9223372036854775808 ≤ F i ∧ F i ≤ 9223372036854775807) (hn : n ≤ 200) (hs : Sized width most) :
    Calls Try.prog 5 #[.int .i64 (width : Int), .int .i64 (most : Int), v] w fun e w' => e = .returned (.bool true) ∧ Below w.heap.size w w' := by
  have F1 := awake6_any w
  have F2 := fun w' (hB : w.heap.size ≤ w'.heap.size) => new_yes width most w' hs w.heap.size hB
  obtain ⟨a, cap, rfl, h1, h2, h3⟩ := id h
  have t3 : ¬ (200 : Int) < (n : Int) := by omega
  obtain ⟨s1, s2, s3, s4⟩ := id hs
  obtain ⟨i0, hi0, hz0, hzs, hzb⟩ := info_parts infoN
  go_enter Try.func5, Try.ntmps5
  go_wp2_with fail
  refine F1.mono ?_
  rintro e w1 ⟨rfl, B1⟩
  have z1 := B1.size
  go_wp2_with fail
  refine (F2 _ z1).mono ?_
  rintro e w2 ⟨rfl, R2, B2, s2'⟩
  obtain ⟨P, hP⟩ : ∃ P, P = w1.heap.size := ⟨_, rfl⟩
  have Q2 : Took w P width most w2 (.slice none 0 0) 0 (fun _ => 0) :=
    ⟨⟨.slice none 0 0, 0, fun _ => 0, ⟨by rw [hP]; exact R2 _, ⟨fun i j _ hj => absurd hj (by omega), fun i hi => absurd hi (by omega), fun i hi => absurd hi (by omega)⟩, hs, by omega⟩, ⟨by omega, fun i hi => absurd hi (by omega), fun _ => rfl, fun i hi => absurd hi (by omega)⟩, fun k _ => by simp [Value.ownBlock]⟩,
      World.ownsRow_nil _ _ _ _, ⟨fun i j _ hj => absurd hj (by omega), fun i hi => absurd hi (by omega), fun i hi => absurd hi (by omega)⟩, fun i hi => absurd hi (by omega), B1.trans (B2.mono z1)⟩
  rw [← hP]
  clear hP R2 B2 s2' F1 F2 B1 z1
  go_wp2_with fail
  go_loopw [9, 34] (fun vt i wr => ∃ (k N : Nat) (a : Nat → Int), i = .int .i64 (k : Int) ∧ k ≤ n ∧ N ≤ k ∧ Took w P width most wr vt N a) (fun _ i _ => n - (RowKit.intOf i).toNat)
  case atStart => exact ⟨0, 0, _, rfl, Nat.zero_le _, Nat.le_refl _, Q2⟩
  case round =>
    clear Q2
    obtain ⟨k, N, A, rfl, hk, hN, Q⟩ := hrel
    by_cases hlt : k < n
    · have t : (k : Int) < (n : Int) := by omega
      obtain ⟨b, off, rfl, hc⟩ := h3 k hlt
      have d0 := (Q.below.cell (World.block_lt_of_cell? _ _ hc)).trans hc
      have d : wr.cell? ⟨b, off + k, none⟩ = some (.int .i64 (F k)) := d0
      have hy := hF k
      obtain ⟨y, ey⟩ : ∃ y, F k = y := ⟨_, rfl⟩
      rw [ey] at d hy
      clear hc h3 h ey hF d0
      obtain ⟨v, m, g, W, KP, o⟩ := Q.win
      by_cases ha : Askd g m y
      · obtain ⟨c, hc⟩ := Cnt.ex W.rise width y
        obtain ⟨K, hK, hcK⟩ := hc.cut ha
        by_cases hcm : c < most
        · have G1 := take_ok W ha hc hK hcK hcm
          have HQ : Hid (Took w P width most wr u9 N A) := Q
          have HA : Hid (∀ k, ownT P v k → u9.ownBlock ≠ some k) := o
          have HW : Hid (Win wr w.heap.size P width most v m g ∧ Kept A N m width g ∧ Askd g m y ∧ Cnt g m width y c ∧ Cut g m (y - (width : Int) + 1) K ∧ c < most) := ⟨W, KP, ha, hc, hK, hcm⟩
          clear ha hc hK hcK hcm W KP o Q
          go_wp2_with fail
          refine G1.mono ?_
          rintro e w3 ⟨rfl, v3, W3, k3, o3⟩
          have hz : w.heap.size ≤ w3.heap.size := Nat.le_trans HQ.out.below.size k3.size
          have hown := own_below (own_kept HQ.out.taken k3 (fun g hg hS => HA.out g hS hg)) ((Below.refl _ w3).alloc (Nat.le_refl _) (.cells #[.int .i64 y] 3))
          have hcn := cell_one_new w3 (.int .i64 y) 3
          have HT : Hid (Win w3 w.heap.size P width most v3 (m - K + 1) (tookG g m K y) ∧ But (ownT P v) wr w3 ∧ ∀ k, ownT P v3 k → ownT P v k ∨ wr.heap.size ≤ k) := ⟨W3, k3, o3⟩
          clear W3 k3 o3 G1 d
          go_wp2_with (at_builtin; refine wpList_append_own_at _ rfl _ _ 22 rfl w.heap.size 3 i0 (.int .i64 0) 1 8 Try.underlying22 hi0 hz0 hzs hzb rfl (by decide) _ _ _ rfl hown ⟨w3.heap.size, 0, none⟩ 1 1 [.int .i64 y] rfl rfl ?hnews ?hone ?h63 ?hbytes ?hbase ?_)
          case hone => simp [Value.oneCell']
          case hnews => exact hcn
          case h63 => unfold maxLen; omega
          case hbytes => omega
          case hbase => simp; omega
          intro v5 w5 hown5 hg5 _ hat5
          have Q5 := HQ.out.took HA.out HW.out.1 HW.out.2.1 HW.out.2.2.1 HW.out.2.2.2.1 HW.out.2.2.2.2.1 HW.out.2.2.2.2.2 HT.out.1 HT.out.2.1 HT.out.2.2 hg5 (by simpa using hat5) hown5
          clear hown5 hg5 hat5 hown hcn HQ HA HW HT
          go_wp2_with fail
          go_roundw
          case rel => exact ⟨k + 1, N + 1, _, by simp, by omega, by omega, Q5⟩
          case measure => simp [RowKit.intOf]; omega
        · have hfit := W.fits
          have hcl := hc.le
          obtain rfl : c = most := by omega
          have G1 := take_full W ha hc
          clear ha hc hK hcK hcm W KP o
          go_wp2_with fail
          refine G1.mono ?_
          rintro e w3 ⟨rfl, m3, hw3⟩
          have Q3 := Q.still (below_drewN _ m3 _)
          rw [← hw3] at Q3
          clear hw3 Q d G1
          go_wp2_with fail
          go_roundw
          case rel => exact ⟨k + 1, N, A, by simp, by omega, by omega, Q3⟩
          case measure => simp [RowKit.intOf]; omega
      · have G1 := take_no W ha
        clear ha W KP o
        go_wp2_with fail
        refine G1.mono ?_
        rintro e w3 ⟨rfl, m3, hw3⟩
        have Q3 := Q.still (below_drewN _ m3 _)
        rw [← hw3] at Q3
        clear hw3 Q d G1
        go_wp2_with fail
        go_roundw
        case rel => exact ⟨k + 1, N, A, by simp, by omega, by omega, Q3⟩
        case measure => simp [RowKit.intOf]; omega
    · obtain rfl : k = n := by omega
      have t : ¬ (k : Int) < (k : Int) := by omega
      have BF := Q.below
      have RI := Q.rise
      have GA := Q.gap
      obtain ⟨at2, cap2, rfl, q1, q2, q3⟩ := row_of_own Q.taken (fun i => .int .i64 (A i)) (fun i hi => vals_at _ hi)
      unfold maxLen at q2
      have HR : Hid (Rise N A) := RI
      have HG : Hid (∀ i, i + most < N → A i + (width : Int) ≤ A (i + most)) := GA
      clear h3 Q RI GA h hF hi0 hz0 hzs hzb
      go_wp2_with fail
      go_loopw [49] (fun i wq => ∃ j : Nat, i = .int .i64 (j : Int) ∧ j ≤ N ∧ wq = wr) (fun i _ => N - (RowKit.intOf i).toNat)
      case atStart => exact ⟨0, rfl, Nat.zero_le _, rfl⟩
      case round =>
        obtain ⟨i, rfl, hi, rfl⟩ := hrel
        by_cases hlt : i < N
        · have t : (i : Int) < (N : Int) := by omega
          have t2 : ¬ cap2 = i := by omega
          have t4 : i ≤ cap2 := by omega
          have t5 : (i : Int) ≤ (N : Int) := by omega
          obtain ⟨b, off, rfl, c0⟩ := q3 i hlt
          have c1 : wr.cell? ⟨b, off + i, none⟩ = some (.int .i64 (A i)) := c0
          have HC : Hid (∀ j, j < N → wr.cell? ⟨b, off + j, none⟩ = some (.int .i64 (A j))) := fun j hj => by
            obtain ⟨b', off', e, hc⟩ := q3 j hj
            injection e with e
            injection e with e1 e2
            subst e1 e2
            exact hc
          have hx1 := HR.out.low i hlt
          have hx2 := HR.out.high i hlt
          obtain ⟨x, ex⟩ : ∃ x, A i = x := ⟨_, rfl⟩
          rw [ex] at c1 hx1 hx2
          have HX : Hid (A i = x) := ex
          clear q3 c0 ex
          go_wp2_with fail
          go_loopw [14, 58] (fun c j wq' => ∃ jj cc : Nat, c = .int .i64 (cc : Int) ∧ j = .int .i64 (jj : Int) ∧ jj ≤ N - i ∧ cc ≤ jj ∧ cc ≤ most ∧ wq' = wr) (fun _ j _ => (N - i) - (RowKit.intOf j).toNat)
          case atStart => exact ⟨0, 0, rfl, rfl, Nat.zero_le _, Nat.le_refl _, Nat.zero_le _, rfl⟩
          case round =>
            obtain ⟨jj, cc, rfl, rfl, hjj, hcj, hcm, rfl⟩ := hrel
            by_cases hlt2 : jj < N - i
            · have t6 : (jj : Int) < ((N - i : Nat) : Int) := by omega
              have c2 := HC.out (i + jj) (by omega)
              rw [← Nat.add_assoc] at c2
              have hy1 := HR.out.up i (i + jj) (by omega) (by omega)
              have hy2 := HR.out.high (i + jj) (by omega)
              have hy3 : most ≤ jj → x + (width : Int) ≤ A (i + jj) := fun hm => by
                have h1 := HG.out i (by omega)
                have h2 := HR.out.up (i + most) (i + jj) (by omega) (by omega)
                rw [HX.out] at h1
                omega
              rw [HX.out] at hy1
              obtain ⟨y, ey⟩ : ∃ y, A (i + jj) = y := ⟨_, rfl⟩
              rw [ey] at c2 hy1 hy2 hy3
              have u1 : ¬ y < x := by omega
              have u2 : ¬ 1099511627776 < y := by omega
              have HY : Hid (most ≤ jj → x + (width : Int) ≤ y) := hy3
              clear ey hy3
              by_cases hw : y - x < (width : Int)
              · go_wp2_with fail
                go_roundw
                case rel =>
                  have := HY.out
                  exact ⟨jj + 1, cc + 1, by simp, by simp, by omega, by omega, by omega, trivial⟩
                case measure => simp [RowKit.intOf]; omega
              · go_wp2_with fail
                go_roundw
                case rel => exact ⟨jj + 1, cc, by simp, by simp, by omega, by omega, by omega, trivial⟩
                case measure => simp [RowKit.intOf]; omega
            · obtain rfl : jj = N - i := by omega
              have t7 : ¬ ((N - i : Nat) : Int) < ((N - i : Nat) : Int) := by omega
              have t8 : ¬ (most : Int) < (cc : Int) := by omega
              go_wp2_with fail
              go_roundw
              case rel => exact ⟨i + 1, by simp, by omega, trivial⟩
              case measure => simp [RowKit.intOf]; omega
        · obtain rfl : i = N := by omega
          have t9 : ¬ (i : Int) < (i : Int) := by omega
          clear q3
          go_wp2_with fail
          go_ret
          exact ⟨rfl, BF⟩
theorem windowBounds_walk (w : World) (width most : Int) (F : Nat → Int) (n : Nat) (v : Value) (h : Row w v n fun i => .int .i64 (F i)) (_h0 : ∀ i, n ≤ i → F i = 0) (hF : ∀ i, -9223372036854775808 ≤ F i ∧ F i ≤ 9223372036854775807) :
    Calls Try.prog 5 #[.int .i64 width, .int .i64 most, v] w fun e w' => e = .returned (.bool true) ∧ Below w.heap.size w w' := by
  obtain ⟨a, cap, rfl, _⟩ := id h
  by_cases hn : 200 < n
  · exact bounds_many w width most a n cap hn
  by_cases hr : width < 1 ∨ 1073741824 < width ∨ most < 1 ∨ 1024 < most
  · exact bounds_odd w width most a n cap hn hr
  obtain ⟨W, rfl⟩ : ∃ r : Nat, width = (r : Int) := ⟨width.toNat, by omega⟩
  obtain ⟨M, rfl⟩ : ∃ r : Nat, most = (r : Int) := ⟨most.toNat, by omega⟩
  exact bounds_main w W M _ n F h hF (by omega) ⟨by omega, by omega, by omega, by omega⟩
theorem windowBounds_own : ownKnob Try.prog.godebug = none := by kernel_rfl
theorem windowBounds_laidOut : laidOutB Try.prog = true := by kernel_rfl
set_option maxRecDepth 100000 in
theorem windowBounds_lifted (os : Os) (started : os.Started) (H : Type) (enc : TypeId × Value → H) :
    ReturnsInHanded {} Try.checked os 5 .any (Rows.windowBoundsSpec.pre6 enc Try.prog Try.f5 Rows.windowBoundsRow.domain false) (Rows.windowBoundsSpec.post enc Try.prog Try.f5 false true false false) := by
  refine returnsInHanded_of_change (C := Try.checked) windowBounds_own started (by kernel_rfl) Try.func5
    (ChangeSpec.witness6 (enc := enc) (C := Try.checked) false ⟨#[], #[.int .i64 0, .int .i64 0, .slice none 0 0], []⟩ 8 (by kernel_rfl) (by kernel_rfl) (by kernel_rfl) (by kernel_rfl)) ?_
  intro W base args ds gs before hval0 hW hcnd _
  have hval : ∀ (j : Nat) t v, Try.f5.params[j]? = some t → args[j]? = some v → Value.okWide Try.prog W .any base t v := hval0
  have hW' := hW
  obtain ⟨p, q, hA0, hV, rfl, hfz, hnd⟩ := hW
  have hA : DataW.TrodAll enc Try.prog W 0 (fun _ => true) true Try.f5.params.toList args.toList ds p := hA0
  rw [Try.params5] at hA hval
  obtain ⟨v0, vs0, d0, ds0, p0, q0, hargs, rfl, rfl, h0, r0⟩ := trodAll_cons hA
  obtain ⟨v1, vs1, d1, ds1, p1, q1, rfl, rfl, rfl, h1, r1⟩ := trodAll_cons r0
  obtain ⟨v2, vs2, d2, ds2, p2, q2, rfl, rfl, rfl, h2, r2⟩ := trodAll_cons r1
  obtain ⟨rfl, rfl, rfl⟩ := trodAll_nil r2
  obtain rfl : args = #[v0, v1, v2] := by cases args; simp_all
  obtain ⟨rfl, rfl⟩ := trodVars_none hV
  obtain ⟨a0, rfl, rfl, rfl, w0⟩ := open_int Try.underlying3 (hval 0 3 v0 rfl rfl) h0
  have bd0 := bounds_i64 w0
  obtain ⟨a1, rfl, rfl, rfl, w1⟩ := open_int Try.underlying3 (hval 1 3 v1 rfl rfl) h1
  have bd1 := bounds_i64 w1
  obtain ⟨ad2, n2, cap2, rfl⟩ := okWide_slice Try.underlying22 (hval 2 22 v2 rfl rfl)
  have k2 := h2
  have lt2 : ∀ x ∈ p2, x.block < W.heap.size := by obtain ⟨m, hm⟩ := k2; exact DataW.trod_lt m _ _ _ hm
  obtain ⟨f2, row2, be2, bd2⟩ : ∃ f : Nat → Int, Row W (.slice ad2 n2 cap2) n2 (fun i => .int .i64 (f i)) ∧ (∀ i, n2 ≤ i → f i = 0) ∧ ∀ i, -9223372036854775808 ≤ f i ∧ f i ≤ 9223372036854775807 := by
    obtain ⟨fuel, hf⟩ := h2
    rcases open_ints Try.underlying22 Try.underlying3 (by kernel_rfl) hf with ⟨hcs, _⟩ | ⟨x, l, c, zs, hcs, _, hl, hm, hz, _, hcell, hwz⟩
    · simp [Value.cells] at hcs
      obtain ⟨rfl, rfl, rfl⟩ := hcs
      exact row_none W
    · simp [Value.cells] at hcs
      obtain ⟨rfl, rfl, rfl⟩ := hcs
      exact row_some hl hm (by simpa using hz) hcell (fun z hz => bounds_i64 (hwz z hz))
  clear hA0 hval0
  simp only [List.append_nil, List.nil_append] at hW'
  refine (windowBounds_walk W a0 a1 f2 n2 _ row2 be2 bd2).mono fun e W' ⟨he, bel⟩ => ?_
  subst he
  exact ⟨_, rfl, _, _, _, [], _, [], hW', trodAll_mk1 (shut_bool Try.underlying4 _), (trodAll_cons_mk (shut_int Try.underlying3 w0) (trodAll_cons_mk (shut_int Try.underlying3 w1) (trodAll_cons_mk (Below.trod windowBounds_laidOut (by kernel_rfl) (of_decide_eq_true (by kernel_rfl)) k2 bel lt2) trodAll_mk0))), rfl, bel.frame _, fun h => by cases h⟩

/-- THE STATEMENT. -/
theorem windowBounds_proved : Rows.WindowBoundsSaid :=
  OpenClaim.holds_of_wide 5 Try.f5 rfl rfl rfl rfl rfl rfl rfl ⟨rfl, rfl, rfl, rfl, rfl⟩ rfl rfl rfl rfl rfl (by kernel_rfl) Try.func5 (by kernel_rfl)
    (of_decide_eq_true (by kernel_rfl)) (by unfold Func.isWrapper; first | (rw [if_pos (by decide +kernel)]; kernel_rfl) | (rw [if_neg (by decide +kernel)]; exact ⟨rfl, rfl⟩))
    (fun os started H enc _ => windowBounds_lifted os started H enc)
#print axioms windowBounds_proved
end Go.Proofs.Ytphdjjhocdgofaa
