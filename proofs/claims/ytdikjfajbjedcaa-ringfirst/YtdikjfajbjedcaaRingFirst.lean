/-
  RingFirst: things come out in the order in which they went in. For every room, every list of texts and every number, no condition.
-/
import Derived.Test.YtdikjfajbjedcaaRingAwake
import Derived.Test.YtdikjfajbjedcaaPipe
import Derived.Test.YtdikjfajbjedcaaFrame5
namespace Go.Proofs.Ytdikjfajbjedcaa
open Go.ChangeShapes Go.WideShapes Go.ChangeAt Go.RowKit Go.Lib

set_option maxRecDepth 100000 in
set_option maxHeartbeats 1000000 in
theorem first_odd (w : World) (room : Int) (v : Value) (n : Nat) (F : Nat → ByteArray) (h : Row w v n fun i => .string (F i)) (pops : Int)
    (hr : room < 1 ∨ (¬ room < 1 ∧ 100 < room) ∨ (¬ room < 1 ∧ ¬ 100 < room ∧ 100 < n) ∨ (¬ room < 1 ∧ ¬ 100 < room ∧ ¬ 100 < n ∧ pops < 0)) :
    Calls Try.prog 5 #[.int .i64 room, v, .int .i64 pops] w fun e w' => e = .returned (.bool true) ∧ Below w.heap.size w w' := by
  have F1 := awake5_any w
  obtain ⟨a, cap, rfl, h1, h2, h3⟩ := id h
  rcases hr with hr | ⟨hr1, hr2⟩ | ⟨hr1, hr2, hr3⟩ | ⟨hr1, hr2, hr3, hr4⟩
  · go_enter Try.func5, Try.ntmps5
    go_wp2_with fail
    refine F1.mono ?_
    rintro e w1 ⟨rfl, hb⟩
    go_wp2_with fail
    go_ret
    exact ⟨rfl, hb⟩
  · go_enter Try.func5, Try.ntmps5
    go_wp2_with fail
    refine F1.mono ?_
    rintro e w1 ⟨rfl, hb⟩
    go_wp2_with fail
    go_ret
    exact ⟨rfl, hb⟩
  · have t : (100 : Int) < (n : Int) := by omega
    go_enter Try.func5, Try.ntmps5
    go_wp2_with fail
    refine F1.mono ?_
    rintro e w1 ⟨rfl, hb⟩
    go_wp2_with fail
    go_ret
    exact ⟨rfl, hb⟩
  · have t : ¬ (100 : Int) < (n : Int) := by omega
    go_enter Try.func5, Try.ntmps5
    go_wp2_with fail
    refine F1.mono ?_
    rintro e w1 ⟨rfl, hb⟩
    go_wp2_with fail
    go_ret
    exact ⟨rfl, hb⟩

set_option maxRecDepth 100000 in
set_option maxHeartbeats 8000000 in
theorem first_main (w : World) (room : Nat) (v : Value) (n : Nat) (F : Nat → ByteArray) (h : Row w v n fun i => .string (F i)) (pops : Int) (hr1 : 1 ≤ room) (hr2 : room ≤ 100) (hn : n ≤ 100) (hp : 0 ≤ pops) :
    Calls Try.prog 5 #[.int .i64 (room : Int), v, .int .i64 pops] w fun e w' => e = .returned (.bool true) ∧ Below w.heap.size w w' := by
  have F1 := awake5_any w
  have F2 := fun w => RS.new_yes room w (by omega) (by omega)
  obtain ⟨a, cap, rfl, h1, h2, h3⟩ := id h
  have t1 : ¬ (room : Int) < 1 := by omega
  have t2 : ¬ (100 : Int) < (room : Int) := by omega
  have t3 : ¬ (100 : Int) < (n : Int) := by omega
  have t4 : ¬ pops < 0 := by omega
  obtain ⟨i0, hi0, hz0, hzs, hzb⟩ := info_parts RS.info_thing
  go_enter Try.func5, Try.ntmps5
  go_wp2_with fail
  refine F1.mono ?_
  rintro e w1 ⟨rfl, B1⟩
  have z1 := B1.size
  go_wp2_with fail
  refine (F2 _).mono ?_
  rintro e w2 ⟨rfl, R2, B2, s2⟩
  obtain ⟨P, hP⟩ : ∃ P, P = w1.heap.size := ⟨_, rfl⟩
  have Q2 : Pipe w P room w2 (.slice none 0 0) (.slice none 0 0) (fun _ => { data := #[] }) 0 0 0 0 :=
    ⟨⟨none, 0, 0, by rw [hP]; exact R2 _, fun k hk => by
      rcases hk with rfl | e
      · exact ⟨by omega, by simp [Value.ownBlock], by simp [Value.ownBlock]⟩
      · cases e⟩, World.ownsRow_nil _ _ _ _, World.ownsRow_nil _ _ _ _, .inl rfl, B1.trans (B2.mono z1)⟩
  rw [← hP]
  clear hP R2 B2 s2 F1 F2 B1 z1
  go_wp2_with fail
  go_loopw [9, 10, 45] (fun vi vo i wr => ∃ (k N M : Nat) (a : Nat → ByteArray), i = .int .i64 (k : Int) ∧ k ≤ n ∧ N ≤ k ∧ M ≤ N ∧ Pipe w P room wr vi vo a N N M M) (fun _ _ i _ => n - (RowKit.intOf i).toNat)
  case atStart => exact ⟨0, 0, 0, _, rfl, Nat.zero_le _, Nat.le_refl _, Nat.le_refl _, Q2⟩
  case round =>
    clear Q2
    obtain ⟨k, N, M, A, rfl, hk, hN, hM, Q⟩ := hrel
    by_cases hlt : k < n
    · have t : (k : Int) < (n : Int) := by omega
      obtain ⟨b, off, rfl, hc⟩ := h3 k hlt
      have d := (Q.below.cell (World.block_lt_of_cell? _ _ hc)).trans hc
      generalize F k = y at *
      clear hc h3
      obtain ⟨S, C, f, R, o⟩ := Q.ring
      by_cases hfull : N - M < room
      · have G := RS.push_ok R hfull y
        go_wp2_with fail
        refine G.mono ?_
        rintro e w3 ⟨rfl, S', C', f', R', k', o'⟩
        have Q3 := Q.pushed o R' k' o' (Nat.le_refl _) (by omega) (by omega)
        clear R' k' o' G Q R o d
        have ey : upd A N y N = y := upd_same _ _ _
        generalize upd A N y = A3 at *
        have Q4 := Q3.still ((Below.refl _ w3).alloc (Nat.le_refl _) (.cells #[.string y] 9))
        have hown := Q4.inn
        have hcn := cell_one_new w3 (.string y) 9
        have hz := Q3.below.size
        go_wp2_with (at_builtin; refine wpList_append_own_at _ rfl _ _ 47 rfl w.heap.size 9 i0 (.string { data := #[] }) 1 16 Try.underlying47 hi0 hz0 hzs hzb rfl (by decide) _ _ _ rfl hown ⟨w3.heap.size, 0, none⟩ 1 1 [.string y] rfl rfl ?hnews ?hone ?h63 ?hbytes ?hbase ?_)
        case hone => simp [Value.oneCell']
        case hnews => exact hcn
        case h63 => unfold maxLen; omega
        case hbytes => omega
        case hbase => simp; omega
        intro v5 w5 hown5 hg5 _ hat5
        rw [← ey] at hown5
        have Q5 := Q4.appIn hg5 (by rw [World.size_alloc]; exact hat5) hown5
        clear hown5 hg5 hat5 Q4 Q3 hown hcn ey
        by_cases ht : (k : Int) % 5 < pops % 6
        · obtain ⟨S, C, f, R, o⟩ := Q5.ring
          obtain ⟨m, hm⟩ : ∃ m, (N + 1) - M = m + 1 := ⟨(N + 1) - M - 1, by omega⟩
          rw [hm] at R
          have G := RS.pop_some R
          rw [Nat.add_zero] at G
          go_wp2_with fail
          refine G.mono ?_
          rintro e w6 ⟨rfl, f6, R6, k6⟩
          have Q6 := Q5.popped o hm R6 k6
          obtain ⟨x, hx⟩ : ∃ x, A3 M = x := ⟨_, rfl⟩
          rw [hx]
          clear G R o R6 k6 Q5 hm
          have Q4 := Q6.still ((Below.refl _ w6).alloc (Nat.le_refl _) (.cells #[.string x] 9))
          have hown := Q4.out
          have hcn := cell_one_new w6 (.string x) 9
          have hz := Q6.below.size
          go_wp2_with (at_builtin; refine wpList_append_own_at _ rfl _ _ 47 rfl w.heap.size 9 i0 (.string { data := #[] }) 1 16 Try.underlying47 hi0 hz0 hzs hzb rfl (by decide) _ _ _ rfl hown ⟨w6.heap.size, 0, none⟩ 1 1 [.string x] rfl rfl ?hnews ?hone ?h63 ?hbytes ?hbase ?_)
          case hone => simp [Value.oneCell']
          case hnews => exact hcn
          case h63 => unfold maxLen; omega
          case hbytes => omega
          case hbase => simp; omega
          intro v7 w7 hown7 hg7 _ hat7
          rw [← hx] at hown7
          have Q7 := Q4.appOut hg7 (by rw [World.size_alloc]; exact hat7) hown7
          clear hown7 hg7 hat7 Q4 Q6 hown hcn hx
          go_wp2_with fail
          go_roundw
          case rel => exact ⟨k + 1, (N + 1), M + 1, A3, by simp, by omega, by omega, by omega, Q7⟩
          case measure => simp [RowKit.intOf]; omega
        · go_wp2_with fail
          go_roundw
          case rel => exact ⟨k + 1, (N + 1), M, A3, by simp, by omega, by omega, by omega, Q5⟩
          case measure => simp [RowKit.intOf]; omega
      · have hroom : N - M = room := by
          have := R.fits
          have := R.capped
          omega
        rw [hroom] at R
        have G := RS.push_full R y
        have G2 := fun m => RS.room_any (R.below (below_drewN _ m _))
        rw [Int.sub_self] at G2
        go_wp2_with fail
        refine G.mono ?_
        rintro e w3 ⟨rfl, m3, rfl⟩
        go_wp2_with fail
        refine (G2 _).mono ?_
        rintro e w4 ⟨rfl, m4, rfl⟩
        have Q5 := (Q.still (below_drewN _ m3 _)).still (below_drewN _ m4 _)
        clear G G2 R o Q d
        generalize (wr.drewN m3).drewN m4 = w5 at *
        by_cases ht : (k : Int) % 5 < pops % 6
        · obtain ⟨S, C, f, R, o⟩ := Q5.ring
          obtain ⟨m, hm⟩ : ∃ m, N - M = m + 1 := ⟨N - M - 1, by omega⟩
          rw [hm] at R
          have G := RS.pop_some R
          rw [Nat.add_zero] at G
          go_wp2_with fail
          refine G.mono ?_
          rintro e w6 ⟨rfl, f6, R6, k6⟩
          have Q6 := Q5.popped o hm R6 k6
          obtain ⟨x, hx⟩ : ∃ x, A M = x := ⟨_, rfl⟩
          rw [hx]
          clear G R o R6 k6 Q5 hm
          have Q4 := Q6.still ((Below.refl _ w6).alloc (Nat.le_refl _) (.cells #[.string x] 9))
          have hown := Q4.out
          have hcn := cell_one_new w6 (.string x) 9
          have hz := Q6.below.size
          go_wp2_with (at_builtin; refine wpList_append_own_at _ rfl _ _ 47 rfl w.heap.size 9 i0 (.string { data := #[] }) 1 16 Try.underlying47 hi0 hz0 hzs hzb rfl (by decide) _ _ _ rfl hown ⟨w6.heap.size, 0, none⟩ 1 1 [.string x] rfl rfl ?hnews ?hone ?h63 ?hbytes ?hbase ?_)
          case hone => simp [Value.oneCell']
          case hnews => exact hcn
          case h63 => unfold maxLen; omega
          case hbytes => omega
          case hbase => simp; omega
          intro v7 w7 hown7 hg7 _ hat7
          rw [← hx] at hown7
          have Q7 := Q4.appOut hg7 (by rw [World.size_alloc]; exact hat7) hown7
          clear hown7 hg7 hat7 Q4 Q6 hown hcn hx
          go_wp2_with fail
          go_roundw
          case rel => exact ⟨k + 1, N, M + 1, A, by simp, by omega, by omega, by omega, Q7⟩
          case measure => simp [RowKit.intOf]; omega
        · go_wp2_with fail
          go_roundw
          case rel => exact ⟨k + 1, N, M, A, by simp, by omega, by omega, by omega, Q5⟩
          case measure => simp [RowKit.intOf]; omega
    · obtain rfl : k = n := by omega
      have t : ¬ (k : Int) < (k : Int) := by omega
      clear h3
      obtain ⟨ai, ci, rfl⟩ := own_shape Q.inn
      go_wp2_with fail
      go_loopg [10] (N - M) (fun g vo wq => ∃ M' : Nat, M' ≤ N ∧ N - M' = g ∧ Pipe w P room wq (.slice ai N ci) vo A N N M' M')
      case atStart => exact ⟨M, hM, rfl, Q⟩
      case round =>
        obtain ⟨M', hM', hg, Q'⟩ := hrel
        clear Q
        obtain ⟨S, C, f, R, o⟩ := Q'.ring
        obtain ⟨ao, co, rfl⟩ := own_shape Q'.out
        by_cases hlt : M' < N
        · obtain ⟨m, hm⟩ : ∃ m, N - M' = m + 1 := ⟨N - M' - 1, by omega⟩
          rw [hm] at R
          have t5 : (0 : Int) < ((m + 1 : Nat) : Int) := by omega
          have t6 : ¬ (N : Int) < (M' : Int) := by omega
          have G0 := RS.len_any R
          have G := RS.pop_some R
          rw [Nat.add_zero] at G
          go_wp2_with fail
          refine G0.mono ?_
          rintro e w5 ⟨rfl, rfl⟩
          go_wp2_with fail
          refine G.mono ?_
          rintro e w6 ⟨rfl, f6, R6, k6⟩
          have Q6 := Q'.popped o hm R6 k6
          obtain ⟨x, hx⟩ : ∃ x, A M' = x := ⟨_, rfl⟩
          rw [hx]
          clear G G0 R o R6 k6 Q'
          have Q4 := Q6.still ((Below.refl _ w6).alloc (Nat.le_refl _) (.cells #[.string x] 9))
          have hown := Q4.out
          have hcn := cell_one_new w6 (.string x) 9
          have hz := Q6.below.size
          go_wp2_with (at_builtin; refine wpList_append_own_at _ rfl _ _ 47 rfl w.heap.size 9 i0 (.string { data := #[] }) 1 16 Try.underlying47 hi0 hz0 hzs hzb rfl (by decide) _ _ _ rfl hown ⟨w6.heap.size, 0, none⟩ 1 1 [.string x] rfl rfl ?hnews ?hone ?h63 ?hbytes ?hbase ?_)
          case hone => simp [Value.oneCell']
          case hnews => exact hcn
          case h63 => unfold maxLen; omega
          case hbytes => omega
          case hbase => simp; omega
          intro v7 w7 hown7 hg7 _ hat7
          rw [← hx] at hown7
          have Q7 := Q4.appOut hg7 (by rw [World.size_alloc]; exact hat7) hown7
          clear hown7 hg7 hat7 Q4 Q6 hown hcn hx
          go_wp2_with fail
          go_roundg (N - (M' + 1))
          case measure => omega
          case rel => exact ⟨M' + 1, by omega, rfl, Q7⟩
        · obtain rfl : M' = N := by omega
          rw [Nat.sub_self] at R
          have G0 := RS.len_any R
          have G := RS.room_any R
          rw [Int.natCast_zero, Int.sub_zero] at G
          rw [Int.natCast_zero] at G0
          clear o
          go_wp2_with fail
          refine G0.mono ?_
          rintro e w5 ⟨rfl, rfl⟩
          go_wp2_with fail
          refine G.mono ?_
          rintro e w6 ⟨rfl, m6, rfl⟩
          have Q6 := Q'.still (below_drewN _ m6 _)
          generalize w5.drewN m6 = w6 at *
          clear G G0 R Q'
          obtain ⟨_, _, e1, i1, i2, i3⟩ := row_of_own Q6.inn (fun i => .string (A i)) (fun i hi => vals_at _ hi)
          injection e1 with e1 _ e2
          subst e1 e2
          obtain ⟨_, _, e1, o1, o2, o3⟩ := row_of_own Q6.out (fun i => .string (A i)) (fun i hi => vals_at _ hi)
          injection e1 with e1 _ e2
          subst e1 e2
          have BF := Q6.below
          clear Q6
          go_wp2_with fail
          go_loopw [112] (fun i wq => ∃ j : Nat, i = .int .i64 (j : Int) ∧ j ≤ M' ∧ wq = w6) (fun i _ => M' - (RowKit.intOf i).toNat)
          case atStart => exact ⟨0, rfl, Nat.zero_le _, rfl⟩
          case round =>
            obtain ⟨j, rfl, hj, rfl⟩ := hrel
            by_cases hlt : j < M'
            · have t : (j : Int) < (M' : Int) := by omega
              obtain ⟨b1, off1, rfl, c1⟩ := i3 j hlt
              obtain ⟨b2, off2, rfl, c2⟩ := o3 j hlt
              generalize A j = y at *
              clear i3 o3
              go_wp2_with fail
              go_roundw
              case rel => exact ⟨j + 1, by simp, by omega, trivial⟩
              case measure => simp [RowKit.intOf]; omega
            · obtain rfl : j = M' := by omega
              have t : ¬ (j : Int) < (j : Int) := by omega
              clear i3 o3
              go_wp2_with fail
              go_ret
              exact ⟨rfl, BF⟩
theorem ringFirst_walk (w : World) (room : Int) (_hb : -9223372036854775808 ≤ room ∧ room ≤ 9223372036854775807) (v : Value) (n : Nat) (F : Nat → ByteArray) (h : Row w v n fun i => .string (F i)) (pops : Int) (_hp : -9223372036854775808 ≤ pops ∧ pops ≤ 9223372036854775807) :
    Calls Try.prog 5 #[.int .i64 room, v, .int .i64 pops] w fun e w' => e = .returned (.bool true) ∧ Below w.heap.size w w' := by
  by_cases h1 : room < 1
  · exact first_odd w room v n F h pops (.inl h1)
  by_cases h2 : 100 < room
  · exact first_odd w room v n F h pops (.inr (.inl ⟨h1, h2⟩))
  by_cases h3 : 100 < n
  · exact first_odd w room v n F h pops (.inr (.inr (.inl ⟨h1, h2, h3⟩)))
  by_cases h4 : pops < 0
  · exact first_odd w room v n F h pops (.inr (.inr (.inr ⟨h1, h2, h3, h4⟩)))
  obtain ⟨r, rfl⟩ : ∃ r : Nat, room = (r : Int) := ⟨room.toNat, by omega⟩
  exact first_main w r v n F h pops (by omega) (by omega) (by omega) (by omega)
theorem ringFirst_own : ownKnob Try.prog.godebug = none := by kernel_rfl
theorem ringFirst_laidOut : laidOutB Try.prog = true := by kernel_rfl
set_option maxRecDepth 100000 in
theorem ringFirst_lifted (os : Os) (started : os.Started) (H : Type) (enc : TypeId × Value → H) :
    ReturnsInHanded {} Try.checked os 5 .any (Rows.ringFirstSpec.pre6 enc Try.prog Try.f5 Rows.ringFirstRow.domain false) (Rows.ringFirstSpec.post enc Try.prog Try.f5 false true false false) := by
  refine returnsInHanded_of_change (C := Try.checked) ringFirst_own started (by kernel_rfl) Try.func5
    (ChangeSpec.witness6 (enc := enc) (C := Try.checked) false ⟨#[], #[.int .i64 0, .slice none 0 0, .int .i64 0], []⟩ 8 (by kernel_rfl) (by kernel_rfl) (by kernel_rfl) (by kernel_rfl)) ?_
  intro W base args ds gs before hval0 hW hcnd _
  have hval : ∀ (j : Nat) t v, Try.f5.params[j]? = some t → args[j]? = some v → Value.okWide Try.prog W .any base t v := hval0
  have hW' := hW
  obtain ⟨p, q, hA0, hV, rfl, hfz, hnd⟩ := hW
  have hA : DataW.TrodAll enc Try.prog W 0 (fun _ => true) true Try.f5.params.toList args.toList ds p := hA0
  rw [Try.params5] at hA hval
  obtain ⟨v0, vs0, d0, ds0, p0, q0, hargs, rfl, rfl, h0, r0⟩ := trodAll_cons hA
  obtain ⟨v1, vs1, d1, ds1, p1, q1, rfl, rfl, rfl, h1, r1⟩ := trodAll_cons r0
  obtain ⟨v2, vs2, d2, ds2, p2, q2, rfl, rfl, rfl, h2, r2⟩ := trodAll_cons r1
  obtain ⟨rfl, rfl, rfl⟩ := trodAll_nil r2
  obtain rfl : args = #[v0, v1, v2] := by cases args; simp_all
  obtain ⟨rfl, rfl⟩ := trodVars_none hV
  obtain ⟨a0, rfl, rfl, rfl, w0⟩ := open_int Try.underlying3 (hval 0 3 v0 rfl rfl) h0
  have bd0 := bounds_i64 w0
  obtain ⟨ad1, n1, cap1, rfl⟩ := okWide_slice Try.underlying47 (hval 1 47 v1 rfl rfl)
  have k1 := h1
  have lt1 : ∀ x ∈ p1, x.block < W.heap.size := by obtain ⟨m, hm⟩ := k1; exact DataW.trod_lt m _ _ _ hm
  obtain ⟨f1, row1⟩ : ∃ f : Nat → ByteArray, Row W (.slice ad1 n1 cap1) n1 fun i => .string (f i) := by obtain ⟨fuel, hf⟩ := h1; exact open_texts Try.underlying47 Try.underlying9 (by kernel_rfl) hf
  obtain ⟨a2, rfl, rfl, rfl, w2⟩ := open_int Try.underlying3 (hval 2 3 v2 rfl rfl) h2
  have bd2 := bounds_i64 w2
  clear hA0 hval0
  simp only [List.append_nil, List.nil_append] at hW'
  refine (ringFirst_walk W a0 bd0 _ n1 f1 row1 a2 bd2).mono fun e W' ⟨he, bel⟩ => ?_
  subst he
  exact ⟨_, rfl, _, _, _, [], _, [], hW', trodAll_mk1 (shut_bool Try.underlying4 _), (trodAll_cons_mk (shut_int Try.underlying3 w0) (trodAll_cons_mk (Below.trod ringFirst_laidOut (by kernel_rfl) (of_decide_eq_true (by kernel_rfl)) k1 bel lt1) (trodAll_cons_mk (shut_int Try.underlying3 w2) trodAll_mk0))), rfl, bel.frame _, fun h => by cases h⟩

/-- THE STATEMENT. -/
theorem ringFirst_proved : Rows.RingFirstSaid :=
  OpenClaim.holds_of_wide 5 Try.f5 rfl rfl rfl rfl rfl rfl rfl ⟨rfl, rfl, rfl, rfl, rfl⟩ rfl rfl rfl rfl rfl (by kernel_rfl) Try.func5 (by kernel_rfl)
    (of_decide_eq_true (by kernel_rfl)) (by unfold Func.isWrapper; first | (rw [if_pos (by decide +kernel)]; kernel_rfl) | (rw [if_neg (by decide +kernel)]; exact ⟨rfl, rfl⟩))
    (fun os started H enc _ => ringFirst_lifted os started H enc)
#print axioms ringFirst_proved
end Go.Proofs.Ytdikjfajbjedcaa
