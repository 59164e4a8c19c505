/-
  WindowPlays: every play of ticks at which one is taken, or asked about, is the document's. For every width, most and list of ticks, no condition.
-/
import Derived.Test.YtphdjjhocdgofaaWinAwake
import Derived.Test.YtphdjjhocdgofaaWinRef
import Derived.Test.YtphdjjhocdgofaaFrame3
namespace Go.Proofs.Ytphdjjhocdgofaa
open Go.ChangeShapes Go.WideShapes Go.ChangeAt Go.RowKit Go.Lib

/-- The window at P keeps the last n of the N ticks that the reference's at Q has, apart from each other; all is newer than w0. -/
structure Duo (w0 : World) (P Q width most : Nat) (w : World) (v : Value) (n : Nat) (g : Nat → Int) (vr : Value) (N : Nat) (a : Nat → Int) : Prop where
  win : Win w w0.heap.size P width most v n g
  ref : Ref w w0.heap.size Q width most vr N a
  kept : Kept a N n width g
  apart : ∀ k, ownT P v k → ¬ ownT Q vr k
  below : Below w0.heap.size w0 w
theorem Duo.drewN {w0 w : World} {P Q width most n N : Nat} {v vr : Value} {g a : Nat → Int} (d : Duo w0 P Q width most w v n g vr N a) (m : Nat) : Duo w0 P Q width most (w.drewN m) v n g vr N a :=
  ⟨d.win.drewN m, d.ref.drewN m, d.kept, d.apart, below_more d.below m⟩
theorem Duo.mid {w0 w w1 : World} {P Q width most n N : Nat} {v vr : Value} {g a : Nat → Int} (d : Duo w0 P Q width most w v n g vr N a) (k1 : But (ownT P v) w w1) : Ref w1 w0.heap.size Q width most vr N a :=
  ⟨d.ref.tk.kept k1 (fun k hk e => d.apart k e hk), d.ref.rise, d.ref.sized, d.ref.few⟩
theorem Duo.took {w0 w w1 w2 : World} {P Q width most n N n' : Nat} {v vr v' vr' : Value} {g a g' : Nat → Int} {now : Int} (d : Duo w0 P Q width most w v n g vr N a)
    (W1 : Win w1 w0.heap.size P width most v' n' g') (k1 : But (ownT P v) w w1) (o1 : ∀ k, ownT P v' k → ownT P v k ∨ w.heap.size ≤ k)
    (T2 : Tk w2 w0.heap.size Q width most vr' (N + 1) (upd a N now)) (k2 : But (ownT Q vr) w1 w2) (o2 : ∀ k, ownT Q vr' k → ownT Q vr k ∨ w1.heap.size ≤ k)
    (ak : Askd a N now) (hk : Kept (upd a N now) (N + 1) n' width g') (few : N < 1000) : Duo w0 P Q width most w2 v' n' g' vr' (N + 1) (upd a N now) := by
  have ap1 : ∀ k, ownT P v' k → ¬ ownT Q vr k := fun k hk' e => by
    rcases o1 k hk' with e' | e'
    · exact d.apart k e' e
    · have := (d.ref.tk.there e).2; omega
  have hz := d.below.size
  have B1 : Below w0.heap.size w0 w1 := d.below.trans (k1.below hz (fun k hk => (d.win.tk.there hk).1))
  refine ⟨⟨W1.tk.kept k2 (fun k hk' e => ap1 k hk' e), W1.rise, W1.sized, W1.fits⟩, ⟨T2, d.ref.rise.more ak, d.ref.sized, by omega⟩, hk, fun k hk' e => ?_, B1.trans (k2.below B1.size (fun k hk => (d.ref.tk.there hk).1))⟩
  rcases o2 k e with e' | e'
  · exact ap1 k hk' e'
  · have := (W1.tk.there hk').2; omega
set_option maxRecDepth 100000 in
set_option maxHeartbeats 1000000 in
theorem plays_many (w : World) (width most : Int) (a : Option Addr) (n cap : Nat) (hn : 200 < n) :
    Calls Try.prog 3 #[.int .i64 width, .int .i64 most, .slice a n cap] w fun e w' => e = .returned (.bool true) ∧ Below w.heap.size w w' := by
  have F1 := awake6_any w
  have t : (200 : Int) < (n : Int) := by omega
  go_enter Try.func3, Try.ntmps3
  go_wp2_with fail
  refine F1.mono ?_
  rintro e w1 ⟨rfl, hb⟩
  go_wp2_with fail
  go_ret
  exact ⟨rfl, hb⟩
set_option maxRecDepth 100000 in
set_option maxHeartbeats 1000000 in
theorem plays_odd (w : World) (width most : Int) (a : Option Addr) (n cap : Nat) (hn : ¬ 200 < n) (hr : width < 1 ∨ 1073741824 < width ∨ most < 1 ∨ 1024 < most) :
    Calls Try.prog 3 #[.int .i64 width, .int .i64 most, .slice a n cap] w fun e w' => e = .returned (.bool true) ∧ Below w.heap.size w w' := by
  have F1 := awake6_any w
  have F3 := fun w => new_no width most w hr
  have F4 := fun w => right_no width most w hr
  have t : ¬ (200 : Int) < (n : Int) := by omega
  clear hr
  go_enter Try.func3, Try.ntmps3
  go_wp2_with fail
  refine F1.mono ?_
  rintro e w1 ⟨rfl, hb⟩
  go_wp2_with fail
  refine (F3 _).mono ?_
  rintro e w3 ⟨rfl, rfl⟩
  go_wp2_with fail
  refine (F4 _).mono ?_
  rintro e w4 ⟨rfl, rfl⟩
  go_wp2_with fail
  go_ret
  exact ⟨by simp, hb⟩
set_option maxRecDepth 100000 in
set_option maxHeartbeats 16000000 in
theorem plays_main (w : World) (width most : Nat) (v : Value) (n : Nat) (F : Nat → Int) (h : Row w v n fun i => .int .i64 (F i)) (hF : ∀ i, -9223372036854775808 ≤ F i ∧ F i ≤ 9223372036854775807) (hn : n ≤ 200) (hs : Sized width most) :
    Calls Try.prog 3 #[.int .i64 (width : Int), .int .i64 (most : Int), v] w fun e w' => e = .returned (.bool true) ∧ Below w.heap.size w w' := by
  have F1 := awake6_any w
  have F2 := fun w' (hB : w.heap.size ≤ w'.heap.size) => new_yes width most w' hs w.heap.size hB
  have F3 := fun w => right_yes width most w hs
  obtain ⟨ad, cap, rfl, h1, h2, h3⟩ := id h
  have t3 : ¬ (200 : Int) < (n : Int) := by omega
  obtain ⟨s1, s2, s3, s4⟩ := id hs
  go_enter Try.func3, Try.ntmps3
  go_wp2_with fail
  refine F1.mono ?_
  rintro e w1 ⟨rfl, B1⟩
  have z1 := B1.size
  go_wp2_with fail
  refine (F2 _ z1).mono ?_
  rintro e w2 ⟨rfl, R2, B2, s2'⟩
  go_wp2_with fail
  refine (F3 _).mono ?_
  rintro e w4 ⟨rfl, rfl⟩
  go_wp2_with fail
  have A2 := (Below.refl w4.heap.size w4).alloc (Nat.le_refl _) (.cells #[.int .i64 (width : Int), .int .i64 (most : Int), .slice none 0 0] 31)
  have nil : ∀ f : Nat → Int, Rise 0 f := fun f => ⟨fun i j _ hj => absurd hj (by omega), fun i hi => absurd hi (by omega), fun i hi => absurd hi (by omega)⟩
  have B12 := B1.trans (B2.mono z1)
  have D5 : Duo w w1.heap.size w4.heap.size width most (w4.alloc (.cells #[.int .i64 (width : Int), .int .i64 (most : Int), .slice none 0 0] 31)) (.slice none 0 0) 0 (fun _ => 0) (.slice none 0 0) 0 (fun _ => 0) := by
    refine ⟨⟨(R2 _).below A2, nil _, hs, by omega⟩, ⟨⟨by simp, by simp, by simp, fun j => by simp, World.ownsRow_nil _ _ _ _, by simp [Value.ownBlock], by omega⟩, nil _, hs, by omega⟩, ⟨by omega, fun i hi => absurd hi (by omega), fun _ => rfl, fun i hi => absurd hi (by omega)⟩, fun k hk e => ?_, B12.alloc B12.size _⟩
    rcases hk with e1 | e1
    · rcases e with e2 | e2
      · omega
      · simp [Value.ownBlock] at e2
    · simp [Value.ownBlock] at e1
  generalize w4.alloc (.cells #[.int .i64 (width : Int), .int .i64 (most : Int), .slice none 0 0] 31) = w5 at *
  obtain ⟨P, hP⟩ : ∃ P, P = w1.heap.size := ⟨_, rfl⟩
  obtain ⟨Q, hQ⟩ : ∃ Q, Q = w4.heap.size := ⟨_, rfl⟩
  have hQ' : w1.heap.size + 1 = Q := by omega
  rw [← hP, ← hQ] at D5
  rw [hQ', ← hP]
  clear hP hQ hQ' R2 B2 s2' F1 F2 F3 B1 z1 A2 nil B12
  go_loopw [52] (fun i wr => ∃ (k N : Nat) (v : Value) (m : Nat) (g : Nat → Int) (vr : Value) (a : Nat → Int), i = .int .i64 (k : Int) ∧ k ≤ n ∧ N ≤ k ∧ Duo w P Q width most wr v m g vr N a) (fun i _ => n - (RowKit.intOf i).toNat)
  case atStart => exact ⟨0, 0, _, _, _, _, _, rfl, Nat.zero_le _, Nat.le_refl _, D5⟩
  case round =>
    clear D5
    obtain ⟨k, N, v, m, g, vr, a, rfl, hk, hN, D⟩ := hrel
    by_cases hlt : k < n
    · have t : (k : Int) < (n : Int) := by omega
      obtain ⟨b, off, rfl, hc⟩ := h3 k hlt
      have d0 := (D.below.cell (World.block_lt_of_cell? _ _ hc)).trans hc
      have d : wr.cell? ⟨b, off + k, none⟩ = some (.int .i64 (F k)) := d0
      have hy := hF k
      obtain ⟨y, ey⟩ : ∃ y, F k = y := ⟨_, rfl⟩
      rw [ey] at d hy
      clear hc h3 h ey hF d0
      obtain ⟨c, hc⟩ := Cnt.ex D.win.rise width y
      have hcr := D.kept.cnt hc
      have few : N < 1000 := by omega
      by_cases ha : Askd g m y
      · have har := D.kept.askd.1 ha
        obtain ⟨K, hK, hcK⟩ := hc.cut ha
        by_cases hcm : c < most
        · have u1 : (c : Int) < (most : Int) := by omega
          have HA : Hid (Askd g m y ∧ Cnt g m width y c ∧ Cut g m (y - (width : Int) + 1) K ∧ c + K = m ∧ c < most ∧ Askd a N y ∧ Cnt a N width y c) := ⟨ha, hc, hK, hcK, hcm, har, hcr⟩
          have D0 := D
          clear D ha hc hK hcK har hcr hcm
          have G0 := free_now D0.win HA.out.1 HA.out.2.1 HA.out.2.2.2.2.1
          go_wp2_with fail
          refine G0.mono ?_
          rintro e w1 ⟨rfl, m1, hw1⟩
          have D1 := D0.drewN m1
          rw [← hw1] at D1
          clear hw1 D0 G0 d
          have G1 := refFree_now D1.ref HA.out.2.2.2.2.2.1 HA.out.2.2.2.2.2.2 HA.out.2.2.2.2.1
          go_wp2_with fail
          refine G1.mono ?_
          rintro e w2 ⟨rfl, m2, hw2⟩
          have D2 := D1.drewN m2
          rw [← hw2] at D2
          clear hw2 D1 G1
          have G2 := refCount_any D2.ref y HA.out.2.2.2.2.2.2
          go_wp2_with fail
          refine G2.mono ?_
          rintro e w3 ⟨rfl, m3, hw3⟩
          have D3 := D2.drewN m3
          rw [← hw3] at D3
          clear hw3 D2 G2
          have G3 := count_any D3.win y hy.2 HA.out.2.1
          go_wp2_with fail
          refine G3.mono ?_
          rintro e w4 ⟨rfl, m4, hw4⟩
          have D4 := D3.drewN m4
          rw [← hw4] at D4
          clear hw4 D3 G3
          have G4 := may_ok D4.win HA.out.1 HA.out.2.1
          rw [decide_eq_true HA.out.2.2.2.2.1] at G4
          go_wp2_with fail
          refine G4.mono ?_
          rintro e w5 ⟨rfl, m5, hw5⟩
          have D5 := D4.drewN m5
          rw [← hw5] at D5
          clear hw5 D4 G4
          have G5 := asked_ok D5.ref HA.out.2.2.2.2.2.1
          go_wp2_with fail
          refine G5.mono ?_
          rintro e w6 ⟨rfl, m6, hw6⟩
          have D6 := D5.drewN m6
          rw [← hw6] at D6
          clear hw6 D5 G5
          have G6 := take_ok D6.win HA.out.1 HA.out.2.1 HA.out.2.2.1 HA.out.2.2.2.1 HA.out.2.2.2.2.1
          go_wp2_with fail
          refine G6.mono ?_
          rintro e w7 ⟨rfl, v7, W7, k7, o7⟩
          have R7 := D6.mid k7
          have G7 := refTake_ok R7 HA.out.2.2.2.2.2.1 HA.out.2.2.2.2.2.2 HA.out.2.2.2.2.1
          have H7 : Hid (Win w7 w.heap.size P width most v7 (m - K + 1) (tookG g m K y) ∧ But (ownT P v) w6 w7 ∧ ∀ k, ownT P v7 k → ownT P v k ∨ w6.heap.size ≤ k) := ⟨W7, k7, o7⟩
          clear W7 k7 o7 R7 G6
          go_wp2_with fail
          refine G7.mono ?_
          rintro e w8 ⟨rfl, v8, T8, k8, o8⟩
          have D8 := D6.took H7.out.1 H7.out.2.1 H7.out.2.2 T8 k8 o8 HA.out.2.2.2.2.2.1 (D6.kept.took HA.out.2.2.2.2.2.1 HA.out.2.2.1) few
          clear T8 k8 o8 D6 H7 G7 HA
          have G8 := last_some D8.win.tk s1 (show 0 < m - K + 1 by omega)
          have eL := D8.kept.last (show 0 < m - K + 1 by omega)
          rw [eL] at G8
          obtain ⟨b9, off9, cap9, ev9, hcap9, hNc9, hcell9⟩ := D8.ref.lastCell (show 0 < N + 1 by omega)
          have x9 := hcell9 (N + 1 - 1) (by omega)
          have k9 := D8.ref.tk.clist
          rw [ev9] at k9
          obtain ⟨z, ez⟩ : ∃ z, upd a N y (N + 1 - 1) = z := ⟨_, rfl⟩
          obtain ⟨j9, ej⟩ : ∃ j9, N + 1 = j9 + 1 := ⟨N + 1 - 1, by omega⟩
          rw [ez] at G8 x9
          rw [show N + 1 - 1 = j9 by omega] at x9
          rw [ej] at k9 hNc9
          have t9 : decide ((0 : Int) < (j9 : Int) + 1) = true := decide_eq_true (by omega)
          have f9 : j9 < 1000 := by have := D8.ref.few; omega
          have HD : Hid (Duo w P Q width _ _ _ _ _ _ _ _) := D8
          clear hcell9 eL ez ev9 D8 ej
          go_wp2_with fail
          refine G8.mono ?_
          rintro e w9 ⟨rfl, m9, rfl⟩
          clear G8
          go_wp2_with fail
          go_quiet (fail)
          go_wp2_with fail
          go_roundw
          case rel => exact ⟨k + 1, N + 1, _, _, _, _, _, by simp, by omega, by omega, HD.out.drewN _⟩
          case measure => simp [RowKit.intOf]; omega
        · have hfit := D.win.fits
          have hcl := hc.le
          obtain rfl : c = most := by omega
          obtain rfl : m = c := by omega
          have eg : a (N - m) = g 0 := by have := D.kept.same 0 (by omega); rw [Nat.add_zero] at this; exact this.symm
          have HA : Hid (Askd g m y ∧ Cnt g m width y m ∧ Askd a N y ∧ Cnt a N width y m ∧ a (N - m) = g 0) := ⟨ha, hc, har, hcr, eg⟩
          have u1 : ¬ (m : Int) < (m : Int) := by omega
          have hNm := D.kept.le
          have D0 := D
          clear D ha hc hK hcK har hcr hcm eg
          have G0 := free_wait D0.win HA.out.1 HA.out.2.1
          obtain ⟨x0, ex0⟩ : ∃ x0, g 0 = x0 := ⟨_, rfl⟩
          rw [ex0] at G0
          have HX : Hid (a (N - m) = x0) := HA.out.2.2.2.2.trans ex0
          clear ex0
          go_wp2_with fail
          refine G0.mono ?_
          rintro e w1 ⟨rfl, m1, hw1⟩
          have D1 := D0.drewN m1
          rw [← hw1] at D1
          clear hw1 D0 G0 d
          have G1 := refFree_wait D1.ref HA.out.2.2.1 HA.out.2.2.2.1 x0 HX.out
          go_wp2_with fail
          refine G1.mono ?_
          rintro e w2 ⟨rfl, m2, hw2⟩
          have D2 := D1.drewN m2
          rw [← hw2] at D2
          clear hw2 D1 G1
          have G2 := refCount_any D2.ref y HA.out.2.2.2.1
          go_wp2_with fail
          refine G2.mono ?_
          rintro e w3 ⟨rfl, m3, hw3⟩
          have D3 := D2.drewN m3
          rw [← hw3] at D3
          clear hw3 D2 G2
          have G3 := count_any D3.win y hy.2 HA.out.2.1
          go_wp2_with fail
          refine G3.mono ?_
          rintro e w4 ⟨rfl, m4, hw4⟩
          have D4 := D3.drewN m4
          rw [← hw4] at D4
          clear hw4 D3 G3
          have G4 := may_ok D4.win HA.out.1 HA.out.2.1
          rw [decide_eq_false (by omega)] at G4
          go_wp2_with fail
          refine G4.mono ?_
          rintro e w5 ⟨rfl, m5, hw5⟩
          have D5 := D4.drewN m5
          rw [← hw5] at D5
          clear hw5 D4 G4
          have G5 := asked_ok D5.ref HA.out.2.2.1
          go_wp2_with fail
          refine G5.mono ?_
          rintro e w6 ⟨rfl, m6, hw6⟩
          have D6 := D5.drewN m6
          rw [← hw6] at D6
          clear hw6 D5 G5
          have G6 := take_full D6.win HA.out.1 HA.out.2.1
          go_wp2_with fail
          refine G6.mono ?_
          rintro e w7 ⟨rfl, m7, hw7⟩
          have D7 := D6.drewN m7
          rw [← hw7] at D7
          clear hw7 D6 G6
          have G7 := refTake_full D7.ref HA.out.2.2.1 HA.out.2.2.2.1
          go_wp2_with fail
          refine G7.mono ?_
          rintro e w8 ⟨rfl, m8, hw8⟩
          have D8 := D7.drewN m8
          rw [← hw8] at D8
          clear hw8 D7 G7
          have G8 := last_some D8.win.tk s1 (show 0 < m by omega)
          have eL := D8.kept.last (show 0 < m by omega)
          rw [eL] at G8
          obtain ⟨b9, off9, cap9, ev9, hcap9, hNc9, hcell9⟩ := D8.ref.lastCell (show 0 < N by omega)
          have x9 := hcell9 (N - 1) (by omega)
          have k9 := D8.ref.tk.clist
          rw [ev9] at k9
          obtain ⟨z, ez⟩ : ∃ z, a (N - 1) = z := ⟨_, rfl⟩
          obtain ⟨j9, ej⟩ : ∃ j9, N = j9 + 1 := ⟨N - 1, by omega⟩
          rw [ez] at G8 x9
          rw [show N - 1 = j9 by omega] at x9
          rw [ej] at k9 hNc9
          have t9 : decide ((0 : Int) < (j9 : Int) + 1) = true := decide_eq_true (by omega)
          have f9 : j9 < 1000 := by have := D8.ref.few; omega
          have HD : Hid (Duo w P Q width _ _ _ _ _ _ _ _) := D8
          clear hcell9 eL ez ev9 D8 ej
          go_wp2_with fail
          refine G8.mono ?_
          rintro e w9 ⟨rfl, m9, rfl⟩
          clear G8
          go_wp2_with fail
          go_quiet (fail)
          go_wp2_with fail
          go_roundw
          case rel => exact ⟨k + 1, N, _, _, _, _, _, by simp, by omega, by omega, HD.out.drewN _⟩
          case measure => simp [RowKit.intOf]; omega
      · have har : ¬ Askd a N y := fun e => ha (D.kept.askd.2 e)
        have HA : Hid (¬ Askd g m y ∧ Cnt g m width y c ∧ ¬ Askd a N y ∧ Cnt a N width y c) := ⟨ha, hc, har, hcr⟩
        have D0 := D
        clear D ha hc har hcr
        have G0 := free_no D0.win HA.out.1
        go_wp2_with fail
        refine G0.mono ?_
        rintro e w1 ⟨rfl, m1, hw1⟩
        have D1 := D0.drewN m1
        rw [← hw1] at D1
        clear hw1 D0 G0 d
        have G1 := refFree_no D1.ref HA.out.2.2.1
        go_wp2_with fail
        refine G1.mono ?_
        rintro e w2 ⟨rfl, m2, hw2⟩
        have D2 := D1.drewN m2
        rw [← hw2] at D2
        clear hw2 D1 G1
        have G2 := refCount_any D2.ref y HA.out.2.2.2
        go_wp2_with fail
        refine G2.mono ?_
        rintro e w3 ⟨rfl, m3, hw3⟩
        have D3 := D2.drewN m3
        rw [← hw3] at D3
        clear hw3 D2 G2
        have G3 := count_any D3.win y hy.2 HA.out.2.1
        go_wp2_with fail
        refine G3.mono ?_
        rintro e w4 ⟨rfl, m4, hw4⟩
        have D4 := D3.drewN m4
        rw [← hw4] at D4
        clear hw4 D3 G3
        have G4 := may_no D4.win HA.out.1
        go_wp2_with fail
        refine G4.mono ?_
        rintro e w5 ⟨rfl, m5, hw5⟩
        have D5 := D4.drewN m5
        rw [← hw5] at D5
        clear hw5 D4 G4
        have G5 := asked_no D5.ref HA.out.2.2.1
        go_wp2_with fail
        refine G5.mono ?_
        rintro e w6 ⟨rfl, m6, hw6⟩
        have D6 := D5.drewN m6
        rw [← hw6] at D6
        clear hw6 D5 G5
        have G6 := take_no D6.win HA.out.1
        go_wp2_with fail
        refine G6.mono ?_
        rintro e w7 ⟨rfl, m7, hw7⟩
        have D7 := D6.drewN m7
        rw [← hw7] at D7
        clear hw7 D6 G6
        have G7 := refTake_no D7.ref HA.out.2.2.1
        go_wp2_with fail
        refine G7.mono ?_
        rintro e w8 ⟨rfl, m8, hw8⟩
        have D8 := D7.drewN m8
        rw [← hw8] at D8
        clear hw8 D7 G7
        by_cases hm0 : m = 0
        · have hN0 := D8.kept.none hm0
          subst hm0 hN0
          clear HA
          have G8 := last_none D8.win.tk s1
          obtain ⟨a9, cap9, ev9⟩ := own_shape D8.ref.tk.list
          have k9 := D8.ref.tk.clist
          rw [ev9] at k9
          have HD : Hid (Duo w P Q width _ _ _ _ _ _ _ _) := D8
          clear ev9 D8
          go_wp2_with fail
          refine G8.mono ?_
          rintro e w9 ⟨rfl, rfl⟩
          clear G8
          go_wp2_with fail
          go_quiet (fail)
          go_wp2_with fail
          go_roundw
          case rel => exact ⟨k + 1, 0, _, _, _, _, _, by simp, by omega, by omega, HD.out.drewN _⟩
          case measure => simp [RowKit.intOf]; omega
        · have hNm := D8.kept.le
          have G8 := last_some D8.win.tk s1 (show 0 < m by omega)
          have eL := D8.kept.last (show 0 < m by omega)
          rw [eL] at G8
          obtain ⟨b9, off9, cap9, ev9, hcap9, hNc9, hcell9⟩ := D8.ref.lastCell (show 0 < N by omega)
          have x9 := hcell9 (N - 1) (by omega)
          have k9 := D8.ref.tk.clist
          rw [ev9] at k9
          obtain ⟨z, ez⟩ : ∃ z, a (N - 1) = z := ⟨_, rfl⟩
          obtain ⟨j9, ej⟩ : ∃ j9, N = j9 + 1 := ⟨N - 1, by omega⟩
          rw [ez] at G8 x9
          rw [show N - 1 = j9 by omega] at x9
          rw [ej] at k9 hNc9
          have t9 : decide ((0 : Int) < (j9 : Int) + 1) = true := decide_eq_true (by omega)
          have f9 : j9 < 1000 := by have := D8.ref.few; omega
          have HD : Hid (Duo w P Q width _ _ _ _ _ _ _ _) := D8
          clear hcell9 eL ez ev9 D8 ej
          go_wp2_with fail
          refine G8.mono ?_
          rintro e w9 ⟨rfl, m9, rfl⟩
          clear G8
          go_wp2_with fail
          go_quiet (fail)
          go_wp2_with fail
          go_roundw
          case rel => exact ⟨k + 1, N, _, _, _, _, _, by simp, by omega, by omega, HD.out.drewN _⟩
          case measure => simp [RowKit.intOf]; omega
    · obtain rfl : k = n := by omega
      have t : ¬ (k : Int) < (k : Int) := by omega
      have BF := D.below
      clear h3 D
      go_wp2_with fail
      go_ret
      exact ⟨rfl, BF⟩
theorem windowPlays_walk (w : World) (width most : Int) (F : Nat → Int) (n : Nat) (v : Value) (h : Row w v n fun i => .int .i64 (F i)) (_h0 : ∀ i, n ≤ i → F i = 0) (hF : ∀ i, -9223372036854775808 ≤ F i ∧ F i ≤ 9223372036854775807) :
    Calls Try.prog 3 #[.int .i64 width, .int .i64 most, v] w fun e w' => e = .returned (.bool true) ∧ Below w.heap.size w w' := by
  obtain ⟨a, cap, rfl, _⟩ := id h
  by_cases hn : 200 < n
  · exact plays_many w width most a n cap hn
  by_cases hr : width < 1 ∨ 1073741824 < width ∨ most < 1 ∨ 1024 < most
  · exact plays_odd w width most a n cap hn hr
  obtain ⟨W, rfl⟩ : ∃ r : Nat, width = (r : Int) := ⟨width.toNat, by omega⟩
  obtain ⟨M, rfl⟩ : ∃ r : Nat, most = (r : Int) := ⟨most.toNat, by omega⟩
  exact plays_main w W M _ n F h hF (by omega) ⟨by omega, by omega, by omega, by omega⟩
theorem windowPlays_own : ownKnob Try.prog.godebug = none := by kernel_rfl
theorem windowPlays_laidOut : laidOutB Try.prog = true := by kernel_rfl
set_option maxRecDepth 100000 in
theorem windowPlays_lifted (os : Os) (started : os.Started) (H : Type) (enc : TypeId × Value → H) :
    ReturnsInHanded {} Try.checked os 3 .any (Rows.windowPlaysSpec.pre6 enc Try.prog Try.f3 Rows.windowPlaysRow.domain false) (Rows.windowPlaysSpec.post enc Try.prog Try.f3 false true false false) := by
  refine returnsInHanded_of_change (C := Try.checked) windowPlays_own started (by kernel_rfl) Try.func3
    (ChangeSpec.witness6 (enc := enc) (C := Try.checked) false ⟨#[], #[.int .i64 0, .int .i64 0, .slice none 0 0], []⟩ 8 (by kernel_rfl) (by kernel_rfl) (by kernel_rfl) (by kernel_rfl)) ?_
  intro W base args ds gs before hval0 hW hcnd _
  have hval : ∀ (j : Nat) t v, Try.f3.params[j]? = some t → args[j]? = some v → Value.okWide Try.prog W .any base t v := hval0
  have hW' := hW
  obtain ⟨p, q, hA0, hV, rfl, hfz, hnd⟩ := hW
  have hA : DataW.TrodAll enc Try.prog W 0 (fun _ => true) true Try.f3.params.toList args.toList ds p := hA0
  rw [Try.params3] at hA hval
  obtain ⟨v0, vs0, d0, ds0, p0, q0, hargs, rfl, rfl, h0, r0⟩ := trodAll_cons hA
  obtain ⟨v1, vs1, d1, ds1, p1, q1, rfl, rfl, rfl, h1, r1⟩ := trodAll_cons r0
  obtain ⟨v2, vs2, d2, ds2, p2, q2, rfl, rfl, rfl, h2, r2⟩ := trodAll_cons r1
  obtain ⟨rfl, rfl, rfl⟩ := trodAll_nil r2
  obtain rfl : args = #[v0, v1, v2] := by cases args; simp_all
  obtain ⟨rfl, rfl⟩ := trodVars_none hV
  obtain ⟨a0, rfl, rfl, rfl, w0⟩ := open_int Try.underlying3 (hval 0 3 v0 rfl rfl) h0
  have bd0 := bounds_i64 w0
  obtain ⟨a1, rfl, rfl, rfl, w1⟩ := open_int Try.underlying3 (hval 1 3 v1 rfl rfl) h1
  have bd1 := bounds_i64 w1
  obtain ⟨ad2, n2, cap2, rfl⟩ := okWide_slice Try.underlying22 (hval 2 22 v2 rfl rfl)
  have k2 := h2
  have lt2 : ∀ x ∈ p2, x.block < W.heap.size := by obtain ⟨m, hm⟩ := k2; exact DataW.trod_lt m _ _ _ hm
  obtain ⟨f2, row2, be2, bd2⟩ : ∃ f : Nat → Int, Row W (.slice ad2 n2 cap2) n2 (fun i => .int .i64 (f i)) ∧ (∀ i, n2 ≤ i → f i = 0) ∧ ∀ i, -9223372036854775808 ≤ f i ∧ f i ≤ 9223372036854775807 := by
    obtain ⟨fuel, hf⟩ := h2
    rcases open_ints Try.underlying22 Try.underlying3 (by kernel_rfl) hf with ⟨hcs, _⟩ | ⟨x, l, c, zs, hcs, _, hl, hm, hz, _, hcell, hwz⟩
    · simp [Value.cells] at hcs
      obtain ⟨rfl, rfl, rfl⟩ := hcs
      exact row_none W
    · simp [Value.cells] at hcs
      obtain ⟨rfl, rfl, rfl⟩ := hcs
      exact row_some hl hm (by simpa using hz) hcell (fun z hz => bounds_i64 (hwz z hz))
  clear hA0 hval0
  simp only [List.append_nil, List.nil_append] at hW'
  refine (windowPlays_walk W a0 a1 f2 n2 _ row2 be2 bd2).mono fun e W' ⟨he, bel⟩ => ?_
  subst he
  exact ⟨_, rfl, _, _, _, [], _, [], hW', trodAll_mk1 (shut_bool Try.underlying4 _), (trodAll_cons_mk (shut_int Try.underlying3 w0) (trodAll_cons_mk (shut_int Try.underlying3 w1) (trodAll_cons_mk (Below.trod windowPlays_laidOut (by kernel_rfl) (of_decide_eq_true (by kernel_rfl)) k2 bel lt2) trodAll_mk0))), rfl, bel.frame _, fun h => by cases h⟩

/-- THE STATEMENT. -/
theorem windowPlays_proved : Rows.WindowPlaysSaid :=
  OpenClaim.holds_of_wide 3 Try.f3 rfl rfl rfl rfl rfl rfl rfl ⟨rfl, rfl, rfl, rfl, rfl⟩ rfl rfl rfl rfl rfl (by kernel_rfl) Try.func3 (by kernel_rfl)
    (of_decide_eq_true (by kernel_rfl)) (by unfold Func.isWrapper; first | (rw [if_pos (by decide +kernel)]; kernel_rfl) | (rw [if_neg (by decide +kernel)]; exact ⟨rfl, rfl⟩))
    (fun os started H enc _ => windowPlays_lifted os started H enc)
#print axioms windowPlays_proved
end Go.Proofs.Ytphdjjhocdgofaa
