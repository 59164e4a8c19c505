/-
  RingPlays: every play of things that go in and come out is the document's. For every room, every list of steps and every number, no condition.
-/
import Derived.Test.YtdikjfajbjedcaaRingAwake
import Derived.Test.YtdikjfajbjedcaaRingDuo
import Derived.Test.YtdikjfajbjedcaaFrame5
namespace Go.Proofs.Ytdikjfajbjedcaa
open Go.ChangeShapes Go.WideShapes Go.ChangeAt Go.RowKit Go.Lib

set_option maxRecDepth 100000 in
set_option maxHeartbeats 1000000 in
theorem plays_many (w : World) (room : Int) (a : Option Addr) (n cap : Nat) (most : Int) (hn : 200 < n) :
    Calls Try.prog 3 #[.int .i64 room, .slice a n cap, .int .i64 most] w fun e w' => e = .returned (.bool true) ∧ Below w.heap.size w w' := by
  have F1 := awake5_any w
  have t : (200 : Int) < (n : Int) := by omega
  go_enter Try.func3, Try.ntmps3
  go_wp2_with fail
  refine F1.mono ?_
  rintro e w1 ⟨rfl, hb⟩
  go_wp2_with fail
  go_ret
  exact ⟨rfl, hb⟩
set_option maxRecDepth 100000 in
set_option maxHeartbeats 1000000 in
theorem plays_room (w : World) (room : Int) (a : Option Addr) (n cap : Nat) (most : Int) (hn : ¬ 200 < n) (hr : room < 1 ∨ (¬ room < 1 ∧ 1024 < room)) :
    Calls Try.prog 3 #[.int .i64 room, .slice a n cap, .int .i64 most] w fun e w' => e = .returned (.bool true) ∧ Below w.heap.size w w' := by
  have F1 := awake5_any w
  have F3 := fun w => RI.new_no room w (by omega)
  have t : ¬ (200 : Int) < (n : Int) := by omega
  rcases hr with hr | ⟨hr1, hr2⟩
  all_goals
    go_enter Try.func3, Try.ntmps3
    go_wp2_with fail
    refine F1.mono ?_
    rintro e w1 ⟨rfl, hb⟩
    go_wp2_with fail
    refine (F3 _).mono ?_
    rintro e w3 ⟨rfl, rfl⟩
    go_wp2_with fail
    go_ret
    exact ⟨by simp, hb⟩

/-- Both rings hold the same n things, apart from each other. -/
def Both5 (w0 : World) (P Q room : Nat) (w : World) : Prop :=
  ∃ n g S C f v, RI.Rng w P S C f room n g ∧ Ref5 w w0.heap.size Q room v n g ∧ ∀ k, RI.own P S k → w0.heap.size ≤ k ∧ ¬ own5 Q v k
theorem Both5.duo {w0 w : World} {P Q room : Nat} (b : Both5 w0 P Q room w) (hB : Below w0.heap.size w0 w) (k x : Int) (t : TypeId) : ∃ n g, Duo w0 P Q room w.heap.size x (w.alloc (.cells #[.int .i64 k, .int .i64 x] t)) n g n g := by
  obtain ⟨n, g, S, C, f, v, R, F, o⟩ := b
  have A := Below.alloc (Below.refl _ w) (Nat.le_refl _) (.cells #[.int .i64 k, .int .i64 x] t)
  refine ⟨n, g, ⟨S, C, f, v, R.below A, F.below A, fun k hk => ⟨(o k hk).1, by have := R.there hk; omega, (o k hk).2⟩, fun k hk => by have := (F.there hk).2; omega⟩, by simp, hB.alloc hB.size _⟩
theorem Duo.both5 {w0 w : World} {P Q room o n : Nat} {x : Int} {g : Nat → Int} (d : Duo w0 P Q room o x w n g n g) : Both5 w0 P Q room w := by
  obtain ⟨S, C, f, v, R, F, o1, _⟩ := d.both
  exact ⟨n, g, S, C, f, v, R, F, fun k hk => ⟨(o1 k hk).1, (o1 k hk).2.2⟩⟩

set_option maxRecDepth 100000 in
set_option maxHeartbeats 8000000 in
theorem plays_main (w : World) (room : Nat) (v : Value) (n : Nat) (K X : Nat → Int) (h : Pairs w v n K X) (most : Int) (hn : n ≤ 200) (hr1 : 1 ≤ room) (hr2 : room ≤ 1024) :
    Calls Try.prog 3 #[.int .i64 (room : Int), v, .int .i64 most] w fun e w' => e = .returned (.bool true) ∧ Below w.heap.size w w' := by
  have F1 := awake5_any w
  have F4 := fun w => RI.new_yes room w (by omega) (by omega)
  have t1 : ¬ (room : Int) < 1 := by omega
  have t2 : ¬ (1024 : Int) < (room : Int) := by omega
  have t3 : ¬ (200 : Int) < (n : Int) := by omega
  obtain ⟨a, cap, rfl, g1, g2, hops⟩ := id h
  go_enter Try.func3, Try.ntmps3
  go_wp2_with fail
  refine F1.mono ?_
  rintro e w1 ⟨rfl, B1⟩
  have z1 := B1.size
  go_wp2_with fail
  refine (F4 _).mono ?_
  rintro e w4 ⟨rfl, R4, B4, s4⟩
  go_wp2_with fail
  have B5 : Below w.heap.size w (w4.alloc (.cells #[.int .i64 (room : Int), .slice none 0 0] 31)) := (B1.trans (B4.mono z1)).alloc (by omega) _
  have D5 : Both5 w w1.heap.size w4.heap.size room (w4.alloc (.cells #[.int .i64 (room : Int), .slice none 0 0] 31)) := by
    refine ⟨0, fun _ => 0, none, 0, 0, .slice none 0 0, (R4 _).below ((Below.refl _ w4).alloc (Nat.le_refl _) _), ⟨by simp, by simp, fun j => by simp, World.ownsRow_nil _ _ _ _, by simp [Value.ownBlock], by omega, by omega, hr2⟩, fun k hk => ?_⟩
    rcases hk with rfl | e
    · refine ⟨z1, ?_⟩
      rintro (e | e)
      · omega
      · simp [Value.ownBlock] at e
    · cases e
  generalize w4.alloc (.cells #[.int .i64 (room : Int), .slice none 0 0] 31) = w5 at *
  obtain ⟨P, hP⟩ : ∃ P, P = w1.heap.size := ⟨_, rfl⟩
  obtain ⟨Q, hQ⟩ : ∃ Q, Q = w4.heap.size := ⟨_, rfl⟩
  have hQ' : w1.heap.size + 1 = Q := by omega
  rw [← hP, ← hQ] at D5
  rw [hQ', ← hP]
  clear hP hQ hQ' R4 B4 B1 F1 F4 s4 z1
  go_loopw [53] (fun i wr => ∃ k : Nat, i = .int .i64 (k : Int) ∧ k ≤ n ∧ Below w.heap.size w wr ∧ Both5 w P Q room wr) (fun i _ => n - (RowKit.intOf i).toNat)
  case atStart => exact ⟨0, rfl, Nat.zero_le _, B5, D5⟩
  case round =>
    clear B5 D5
    obtain ⟨k, rfl, hk, B, BO⟩ := hrel
    have hz := B.size
    by_cases hlt : k < n
    · have t : (k : Int) < (n : Int) := by omega
      obtain ⟨⟨b, off, rfl, k0, k1⟩, _, hXb⟩ := hops k hlt
      have d0 := (B.cell (World.block_lt_of_cell? _ _ k0)).trans k0
      have d1 := (B.cell (World.block_lt_of_cell? _ _ k1)).trans k1
      clear k0 k1 hops h
      generalize K k = y at *
      generalize X k = x at *
      obtain ⟨nn, g, D⟩ := BO.duo B y x 33
      go_upto_block 2 with fail
      go_cut [12, 13, 14, 15, 16, 17, 18, 19] from 54 to 140 (fun _ _ _ _ _ _ _ _ wx => ∃ nn g, Duo w P Q room wr.heap.size x wx nn g nn g)
      case first =>
        have c0 : (wr.alloc (.cells #[.int .i64 y, .int .i64 x] 33)).cell? ⟨wr.heap.size, 0, none⟩ = some (.int .i64 y) := by simp
        have c1 := D.cell
        generalize wr.alloc (.cells #[.int .i64 y, .int .i64 x] 33) = W0 at *
        clear d0 d1 BO B
        by_cases hy1 : y = 1
        · subst hy1
          have GA := fun {w1 m h} (d : Duo w P Q room wr.heap.size x w1 nn g m h) => duo_push d
          have GB := fun {w1 m h} (d : Duo w P Q room wr.heap.size x w1 m h nn g) => duo_refPush d
          have D0 := D.still (below_drewN _ 1 W0)
          have c1d : W0.drew.cell? ⟨wr.heap.size, 1, none⟩ = some (.int .i64 x) := c1
          obtain ⟨r, hr⟩ : ∃ r, pushE room nn = r := ⟨_, rfl⟩
          rw [hr] at GA GB
          clear D hr
          go_wp2_with fail
          go_region_with (first
            | (go_at_call 8; first | (refine (GA D6).mono ?_; rintro e w5 ⟨rfl, D5⟩; have a1 := D5.cell) | (refine (GA D0).mono ?_; rintro e w5 ⟨rfl, D5⟩; have a1 := D5.cell))
            | (go_at_call 9; first | (refine (GB D5).mono ?_; rintro e w6 ⟨rfl, D6⟩; have b1 := D6.cell) | (refine (GB D0).mono ?_; rintro e w6 ⟨rfl, D6⟩; have b1 := D6.cell)))
          all_goals
            go_wp2_with fail
            go_meet
            case rel => first | exact ⟨_, _, D6⟩ | exact ⟨_, _, D5⟩
        by_cases hy2 : y = 2
        · subst hy2
          have GA := fun {w1 m h} (d : Duo w P Q room wr.heap.size x w1 nn g m h) => duo_pop d
          have GB := fun {w1 m h} (d : Duo w P Q room wr.heap.size x w1 m h nn g) => duo_refPop d
          obtain ⟨r, hr⟩ : ∃ r, popX nn g = r := ⟨_, rfl⟩
          obtain ⟨q, hq⟩ : ∃ q, popE nn = q := ⟨_, rfl⟩
          rw [hr, hq] at GA GB
          clear hy1 hr hq
          go_wp2_with fail
          refine (GA D).mono ?_
          rintro e w5 ⟨rfl, D5⟩
          go_wp2_with fail
          refine (GB D5).mono ?_
          rintro e w6 ⟨rfl, D6⟩
          go_wp2_with fail
          go_meet
          case rel => exact ⟨_, _, D6⟩
        by_cases hy3 : y = 3
        · subst hy3
          have GA := fun {w1 m h} (d : Duo w P Q room wr.heap.size x w1 nn g m h) => duo_peek d
          have GB := fun {w1 m h} (d : Duo w P Q room wr.heap.size x w1 m h nn g) => duo_refPeek d
          obtain ⟨r, hr⟩ : ∃ r, popX nn g = r := ⟨_, rfl⟩
          obtain ⟨q, hq⟩ : ∃ q, popE nn = q := ⟨_, rfl⟩
          rw [hr, hq] at GA GB
          clear hy1 hy2 hr hq
          go_wp2_with fail
          refine (GA D).mono ?_
          rintro e w5 ⟨rfl, D5⟩
          go_wp2_with fail
          refine (GB D5).mono ?_
          rintro e w6 ⟨rfl, D6⟩
          go_wp2_with fail
          go_meet
          case rel => exact ⟨_, _, D6⟩
        have q1 : (y == 1) = false := beq_false_of_ne hy1
        have q2 : (y == 2) = false := beq_false_of_ne hy2
        have q3 : (y == 3) = false := beq_false_of_ne hy3
        clear hy1 hy2 hy3
        go_wp2_with fail
        go_meet
        case rel => exact ⟨_, _, D⟩
      case rest =>
        obtain ⟨m, h, E⟩ := hcut
        clear D BO B d0 d1
        obtain ⟨S, C, f, v, R, F, o1, o2⟩ := E.both
        obtain ⟨la, lc, rfl⟩ := own_shape F.list
        have f1 := F.clist
        have hmr := F.fits
        have G1 := fun q => RI.len_any (R.below (below_drewN wc.heap.size q wc))
        have G2 := fun q => RI.room_any (R.below (below_drewN wc.heap.size q wc))
        have G3 := fun q => told_yes (some ⟨P, 0, none⟩) m h (.slice la m lc) most (wc.drewN q) (.inl ⟨P, S, C, f, room, rfl, R.below (below_drewN wc.heap.size q wc)⟩) (F.below (below_drewN wc.heap.size q wc)).row
        have hw : (m : Int) ≤ (room : Int) := by omega
        have hwr : IntKind.i64.wrap ((room : Int) - (m : Int)) = (room : Int) - (m : Int) := by rw [IntKind.wrap_i64]; omega
        clear R F o1 o2
        go_wp2_with fail
        go_region_held3 (fun w' => w'.cell? ⟨Q, 1, none⟩ = some (.slice la m lc)) (go_keep) (first
          | (go_at_call 14; refine (G1 _).mono ?_; rintro e w7 ⟨rfl, rfl⟩)
          | (go_at_call 15; refine (G2 _).mono ?_; rintro e w8 ⟨rfl, q8, rfl⟩)
          | (go_at_call 16; refine (G3 _).mono ?_; rintro e w9 ⟨rfl, hb9⟩; have f9 := (hb9.cell (p := ⟨Q, 1, none⟩) (World.block_lt_of_cell? _ _ f1)).trans f1))
        have E9 := (E.still (below_drewN _ (1 + q8) _)).still hb9
        clear f9 hb9 G1 G2 G3 E hwr
        go_wp2_with fail
        go_roundw
        case rel => exact ⟨k + 1, by simp, by omega, E9.below, E9.both5⟩
        case measure => simp [RowKit.intOf]; omega
    · obtain rfl : k = n := by omega
      have t : ¬ (k : Int) < (k : Int) := by omega
      clear hops h
      go_wp2_with fail
      go_ret
      exact ⟨rfl, B⟩
theorem ringPlays_walk (w : World) (room : Int) (_hb : -9223372036854775808 ≤ room ∧ room ≤ 9223372036854775807) (v : Value) (n : Nat) (K X : Nat → Int) (h : Pairs w v n K X) (most : Int) (_hm : -9223372036854775808 ≤ most ∧ most ≤ 9223372036854775807) :
    Calls Try.prog 3 #[.int .i64 room, v, .int .i64 most] w fun e w' => e = .returned (.bool true) ∧ Below w.heap.size w w' := by
  by_cases hn : 200 < n
  · obtain ⟨a, cap, rfl, _⟩ := h
    exact plays_many w room a n cap most hn
  by_cases h1 : room < 1
  · obtain ⟨a, cap, rfl, _⟩ := h
    exact plays_room w room a n cap most hn (.inl h1)
  by_cases h2 : 1024 < room
  · obtain ⟨a, cap, rfl, _⟩ := h
    exact plays_room w room a n cap most hn (.inr ⟨h1, h2⟩)
  obtain ⟨r, rfl⟩ : ∃ r : Nat, room = (r : Int) := ⟨room.toNat, by omega⟩
  exact plays_main w r v n K X h most (by omega) (by omega) (by omega)
theorem ringPlays_own : ownKnob Try.prog.godebug = none := by kernel_rfl
theorem ringPlays_laidOut : laidOutB Try.prog = true := by kernel_rfl
set_option maxRecDepth 100000 in
theorem ringPlays_lifted (os : Os) (started : os.Started) (H : Type) (enc : TypeId × Value → H) :
    ReturnsInHanded {} Try.checked os 3 .any (Rows.ringPlaysSpec.pre6 enc Try.prog Try.f3 Rows.ringPlaysRow.domain false) (Rows.ringPlaysSpec.post enc Try.prog Try.f3 false true false false) := by
  refine returnsInHanded_of_change (C := Try.checked) ringPlays_own started (by kernel_rfl) Try.func3
    (ChangeSpec.witness6 (enc := enc) (C := Try.checked) false ⟨#[], #[.int .i64 0, .slice none 0 0, .int .i64 0], []⟩ 8 (by kernel_rfl) (by kernel_rfl) (by kernel_rfl) (by kernel_rfl)) ?_
  intro W base args ds gs before hval0 hW hcnd _
  have hval : ∀ (j : Nat) t v, Try.f3.params[j]? = some t → args[j]? = some v → Value.okWide Try.prog W .any base t v := hval0
  have hW' := hW
  obtain ⟨p, q, hA0, hV, rfl, hfz, hnd⟩ := hW
  have hA : DataW.TrodAll enc Try.prog W 0 (fun _ => true) true Try.f3.params.toList args.toList ds p := hA0
  rw [Try.params3] at hA hval
  obtain ⟨v0, vs0, d0, ds0, p0, q0, hargs, rfl, rfl, h0, r0⟩ := trodAll_cons hA
  obtain ⟨v1, vs1, d1, ds1, p1, q1, rfl, rfl, rfl, h1, r1⟩ := trodAll_cons r0
  obtain ⟨v2, vs2, d2, ds2, p2, q2, rfl, rfl, rfl, h2, r2⟩ := trodAll_cons r1
  obtain ⟨rfl, rfl, rfl⟩ := trodAll_nil r2
  obtain rfl : args = #[v0, v1, v2] := by cases args; simp_all
  obtain ⟨rfl, rfl⟩ := trodVars_none hV
  obtain ⟨a0, rfl, rfl, rfl, w0⟩ := open_int Try.underlying3 (hval 0 3 v0 rfl rfl) h0
  have bd0 := bounds_i64 w0
  obtain ⟨ad1, n1, cap1, rfl⟩ := okWide_slice Try.underlying22 (hval 1 22 v1 rfl rfl)
  have k1 := h1
  have lt1 : ∀ x ∈ p1, x.block < W.heap.size := by obtain ⟨m, hm⟩ := k1; exact DataW.trod_lt m _ _ _ hm
  obtain ⟨K1, X1, ops1⟩ : ∃ K X, Pairs W (.slice ad1 n1 cap1) n1 K X := by obtain ⟨fuel, hf⟩ := h1; exact open_pairs hf
  obtain ⟨a2, rfl, rfl, rfl, w2⟩ := open_int Try.underlying3 (hval 2 3 v2 rfl rfl) h2
  have bd2 := bounds_i64 w2
  clear hA0 hval0
  simp only [List.append_nil, List.nil_append] at hW'
  refine (ringPlays_walk W a0 bd0 _ n1 K1 X1 ops1 a2 bd2).mono fun e W' ⟨he, bel⟩ => ?_
  subst he
  exact ⟨_, rfl, _, _, _, [], _, [], hW', trodAll_mk1 (shut_bool Try.underlying4 _), (trodAll_cons_mk (shut_int Try.underlying3 w0) (trodAll_cons_mk (Below.trod ringPlays_laidOut (by kernel_rfl) (of_decide_eq_true (by kernel_rfl)) k1 bel lt1) (trodAll_cons_mk (shut_int Try.underlying3 w2) trodAll_mk0))), rfl, bel.frame _, fun h => by cases h⟩

/-- THE STATEMENT. -/
theorem ringPlays_proved : Rows.RingPlaysSaid :=
  OpenClaim.holds_of_wide 3 Try.f3 rfl rfl rfl rfl rfl rfl rfl ⟨rfl, rfl, rfl, rfl, rfl⟩ rfl rfl rfl rfl rfl (by kernel_rfl) Try.func3 (by kernel_rfl)
    (of_decide_eq_true (by kernel_rfl)) (by unfold Func.isWrapper; first | (rw [if_pos (by decide +kernel)]; kernel_rfl) | (rw [if_neg (by decide +kernel)]; exact ⟨rfl, rfl⟩))
    (fun os started H enc _ => ringPlays_lifted os started H enc)
#print axioms ringPlays_proved
end Go.Proofs.Ytdikjfajbjedcaa
