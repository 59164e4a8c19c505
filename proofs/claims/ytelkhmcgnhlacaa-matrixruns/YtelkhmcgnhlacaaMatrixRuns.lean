/-
  MatrixRuns: whatever happens, what is done stays done, what was heard of is never pending again, and what may not happen changes nothing. For every two lists of ints, no condition.
-/
import Derived.Test.YtelkhmcgnhlacaaMaNext
import Derived.Test.YtelkhmcgnhlacaaFrame3
import Derived.Deep.DeepCutAuto
namespace Go.Proofs.Ytelkhmcgnhlacaa
open Go.ChangeShapes Go.WideShapes Go.ChangeAt Go.RowKit MA

set_option maxHeartbeats 4000000 in
theorem runs_many (w : World) (a a2 : Option Addr) (n cap n2 cap2 : Nat) (hn : 200 < n) :
    Calls Try.prog 5 #[.slice a n cap, .slice a2 n2 cap2] w fun e w' => e = .returned (.bool true) ∧ Below w.heap.size w w' := by
  have F1 := awake_any w
  have t : (200 : Int) < (n : Int) := by omega
  go_enter Try.func5, Try.ntmps5
  go_wp2_with fail
  refine F1.mono ?_
  rintro e w1 ⟨rfl, hb⟩
  go_wp2_with fail
  go_ret
  exact ⟨rfl, hb⟩
set_option maxRecDepth 100000 in
set_option maxHeartbeats 16000000 in
theorem runs_main (w : World) (v v2 : Value) (n n2 : Nat) (F F2 : Nat → Int) (h : Row w v n fun i => .int .i64 (F i)) (h' : Row w v2 n2 fun i => .int .i64 (F2 i)) (hn : n ≤ 200) :
    Calls Try.prog 5 #[v, v2] w fun e w' => e = .returned (.bool true) ∧ Below w.heap.size w w' := by
  have F1 := awake_any w
  obtain ⟨a, cap, rfl, h1, h2, h3⟩ := id h
  obtain ⟨a2, cap2, rfl, g1, g2, g3⟩ := id h'
  have t3 : ¬ (200 : Int) < (n : Int) := by omega
  clear h h'
  go_enter Try.func5, Try.ntmps5
  go_wp2_with fail
  refine F1.mono ?_
  rintro e w1 ⟨rfl, B1⟩
  clear F1
  go_wp2_with fail
  go_loopw [5, 18] (fun s i wr => ∃ (k : Nat) (x : Int), s = .int .i64 x ∧ i = .int .i64 (k : Int) ∧ k ≤ n ∧ Hid (Below w.heap.size w wr)) (fun _ i _ => n - (RowKit.intOf i).toNat)
  case atStart => exact ⟨0, 1, rfl, rfl, Nat.zero_le _, B1⟩
  case round =>
    clear B1
    obtain ⟨k, x, rfl, rfl, hk, HB⟩ := hrel
    by_cases hlt : k < n
    · have t : (k : Int) < (n : Int) := by omega
      have k200 : (k : Int) < 200 := by omega
      obtain ⟨b, off, rfl, hc⟩ := h3 k hlt
      have d0 := (HB.out.cell (World.block_lt_of_cell? _ _ hc)).trans hc
      have d : wr.cell? ⟨b, off + k, none⟩ = some (.int .i64 (F k)) := d0
      generalize F k = y at *
      clear hc h3 d0
      by_cases hl2 : k < n2
      · have t2 : (k : Int) < (n2 : Int) := by omega
        obtain ⟨b2, off2, rfl, hc2⟩ := g3 k hl2
        have d02 := (HB.out.cell (World.block_lt_of_cell? _ _ hc2)).trans hc2
        have d2 : wr.cell? ⟨b2, off2 + k, none⟩ = some (.int .i64 (F2 k)) := d02
        generalize F2 k = c at *
        clear hc2 g3 d02
        have G := next_any x y c wr
        have HN : Hid (¬ nE x y c = 0 → nS x y c = 0) := n_none
        have HG : Hid (nE x y c = 0 → MA.Good x y (nS x y c)) := n_good
        generalize nS x y c = t at *
        generalize nE x y c = r at *
        by_cases hr : r = 0
        · subst hr
          have HD : Hid (MA.Good x y t) := HG.out rfl
          clear HN HG
          have O1 := open_any t
          have D1 := done_any t
          have D2 := done_any x
          go_wp2_with fail
          refine G.mono ?_
          rintro e w2 ⟨rfl, b2⟩
          have HB2 : Hid (Below w.heap.size w w2) := HB.out.trans (b2.mono HB.out.size)
          clear G b2 HB d d2
          go_upto_region 16 with fail
          go_cut [18, 66] from 18 to 98 (fun i z wx => i = .int .i64 (k : Int) ∧ z = .bool false ∧ wx = w2)
          case first =>
            have H := HD.out
            have h1 := H.is
            have hst := (st_iff t).2 H.is
            unfold stB at hst
            have hk1 := H.stays
            have hk2 := H.heard
            clear H HD HB2 h1
            generalize opB t = p1 at *
            generalize dnB t = p2 at *
            have hx1 : dnB x = true → (x != 1) = true := fun e => by unfold dnB at e; simp only [Bool.and_eq_true, decide_eq_true_eq] at e; simp; omega
            have hx2 : dnB x = true → ¬ x = 1 := fun e => by unfold dnB at e; simp only [Bool.and_eq_true, decide_eq_true_eq] at e; omega
            generalize dnB x = p3 at *
            cases p1
            · have hp2 : p2 = true := by simpa using hst
              subst hp2
              clear hst
              cases p3
              · clear hx1 hx2 hk1
                by_cases e1 : x = 1
                · subst e1
                  clear hk2
                  go_wp2_with fail
                  refine (O1 _).mono ?_
                  rintro e w3 ⟨rfl, rfl⟩
                  go_wp2_with fail
                  refine (D1 _).mono ?_
                  rintro e w3 ⟨rfl, rfl⟩
                  go_wp2_with fail
                  refine (D2 _).mono ?_
                  rintro e w3 ⟨rfl, rfl⟩
                  go_wp2_with fail
                  go_meet
                  case rel => exact ⟨rfl, rfl, rfl⟩
                · have e2 : (x != 1) = true := by simp [e1]
                  have e3 := hk2 e1
                  have e4 : (t == 1) = false := beq_false_of_ne e3
                  clear hk2
                  go_wp2_with fail
                  refine (O1 _).mono ?_
                  rintro e w3 ⟨rfl, rfl⟩
                  go_wp2_with fail
                  refine (D1 _).mono ?_
                  rintro e w3 ⟨rfl, rfl⟩
                  go_wp2_with fail
                  refine (D2 _).mono ?_
                  rintro e w3 ⟨rfl, rfl⟩
                  go_wp2_with fail
                  go_meet
                  case rel => exact ⟨rfl, rfl, rfl⟩
              · have e0 : t = x := hk1 rfl
                have e1 := hx2 rfl
                have e2 := hx1 rfl
                have e3 := hk2 e1
                have e4 : (t == 1) = false := beq_false_of_ne e3
                have e5 : (t != x) = false := by simp [e0]
                have e6 : Hid (t = x) := e0
                clear hk1 hk2 hx1 hx2 e0
                go_wp2_with fail
                refine (O1 _).mono ?_
                rintro e w3 ⟨rfl, rfl⟩
                go_wp2_with fail
                refine (D1 _).mono ?_
                rintro e w3 ⟨rfl, rfl⟩
                go_wp2_with fail
                refine (D2 _).mono ?_
                rintro e w3 ⟨rfl, rfl⟩
                go_wp2_with fail
                go_meet
                case rel => exact ⟨rfl, rfl, rfl⟩
            · clear hst D1
              cases p3
              · clear hx1 hx2 hk1
                by_cases e1 : x = 1
                · subst e1
                  clear hk2
                  go_wp2_with fail
                  refine (O1 _).mono ?_
                  rintro e w3 ⟨rfl, rfl⟩
                  go_wp2_with fail
                  refine (D2 _).mono ?_
                  rintro e w3 ⟨rfl, rfl⟩
                  go_wp2_with fail
                  go_meet
                  case rel => exact ⟨rfl, rfl, rfl⟩
                · have e2 : (x != 1) = true := by simp [e1]
                  have e3 := hk2 e1
                  have e4 : (t == 1) = false := beq_false_of_ne e3
                  clear hk2
                  go_wp2_with fail
                  refine (O1 _).mono ?_
                  rintro e w3 ⟨rfl, rfl⟩
                  go_wp2_with fail
                  refine (D2 _).mono ?_
                  rintro e w3 ⟨rfl, rfl⟩
                  go_wp2_with fail
                  go_meet
                  case rel => exact ⟨rfl, rfl, rfl⟩
              · have e0 : t = x := hk1 rfl
                have e1 := hx2 rfl
                have e2 := hx1 rfl
                have e3 := hk2 e1
                have e4 : (t == 1) = false := beq_false_of_ne e3
                have e5 : (t != x) = false := by simp [e0]
                have e6 : Hid (t = x) := e0
                clear hk1 hk2 hx1 hx2 e0
                go_wp2_with fail
                refine (O1 _).mono ?_
                rintro e w3 ⟨rfl, rfl⟩
                go_wp2_with fail
                refine (D2 _).mono ?_
                rintro e w3 ⟨rfl, rfl⟩
                go_wp2_with fail
                go_meet
                case rel => exact ⟨rfl, rfl, rfl⟩
          case rest =>
           obtain ⟨rfl, rfl, rfl⟩ := hcut
           clear O1 D1 D2
           go_upto_region 18 with fail
           go_cut [18, 96] from 18 to 98 (fun i z wx => i = .int .i64 (k : Int) ∧ z = .bool false ∧ wx = wc)
           case first =>
            clear HB2
            by_cases y6 : y = 6
            · obtain rfl := y6
              obtain rfl : t = 6 := HD.out.fill rfl
              clear HD
              go_wp2_with fail
              go_meet
              case rel => exact ⟨rfl, rfl, rfl⟩
            by_cases y2 : y = 2
            · obtain rfl := y2
              obtain rfl : t = 7 := HD.out.gone rfl
              clear HD
              go_wp2_with fail
              go_meet
              case rel => exact ⟨rfl, rfl, rfl⟩
            by_cases y9 : y = 9
            · obtain rfl := y9
              obtain rfl : t = 4 := HD.out.cancel rfl
              clear HD
              go_wp2_with fail
              go_meet
              case rel => exact ⟨rfl, rfl, rfl⟩
            by_cases y10 : y = 10
            · obtain rfl := y10
              obtain rfl : t = 5 := HD.out.other rfl
              clear HD
              go_wp2_with fail
              go_meet
              case rel => exact ⟨rfl, rfl, rfl⟩
            have z6 : (y == 6) = false := beq_false_of_ne y6
            have z2 : (y == 2) = false := beq_false_of_ne y2
            have z9 : (y == 9) = false := beq_false_of_ne y9
            have z10 : (y == 10) = false := beq_false_of_ne y10
            clear HD
            go_wp2_with fail
            go_meet
            case rel => exact ⟨rfl, by simp, rfl⟩
           case rest =>
            obtain ⟨rfl, rfl, rfl⟩ := hcut
            go_wp2_with fail
            go_roundw
            case rel => exact ⟨k + 1, t, rfl, by simp, by omega, HB2.out⟩
            case measure => simp [RowKit.intOf]; omega
        · have hr' : (r != 0) = true := by simp [hr]
          have ht : t = 0 := HN.out hr
          subst ht
          clear HN HG
          go_wp2_with fail
          refine G.mono ?_
          rintro e w2 ⟨rfl, b2⟩
          have HB2 : Hid (Below w.heap.size w w2) := HB.out.trans (b2.mono HB.out.size)
          clear G b2 HB d d2
          go_wp2_with fail
          go_roundw
          case rel => exact ⟨k + 1, x, rfl, by simp, by omega, HB2.out⟩
          case measure => simp [RowKit.intOf]; omega
      · have t2 : ¬ (k : Int) < (n2 : Int) := by omega
        clear g3
        have G := next_any x y 0 wr
        have HN : Hid (¬ nE x y 0 = 0 → nS x y 0 = 0) := n_none
        have HG : Hid (nE x y 0 = 0 → MA.Good x y (nS x y 0)) := n_good
        generalize nS x y 0 = t at *
        generalize nE x y 0 = r at *
        by_cases hr : r = 0
        · subst hr
          have HD : Hid (MA.Good x y t) := HG.out rfl
          clear HN HG
          have O1 := open_any t
          have D1 := done_any t
          have D2 := done_any x
          go_wp2_with fail
          refine G.mono ?_
          rintro e w2 ⟨rfl, b2⟩
          have HB2 : Hid (Below w.heap.size w w2) := HB.out.trans (b2.mono HB.out.size)
          clear G b2 HB d
          go_upto_region 16 with fail
          go_cut [18, 66] from 18 to 98 (fun i z wx => i = .int .i64 (k : Int) ∧ z = .bool false ∧ wx = w2)
          case first =>
            have H := HD.out
            have h1 := H.is
            have hst := (st_iff t).2 H.is
            unfold stB at hst
            have hk1 := H.stays
            have hk2 := H.heard
            clear H HD HB2 h1
            generalize opB t = p1 at *
            generalize dnB t = p2 at *
            have hx1 : dnB x = true → (x != 1) = true := fun e => by unfold dnB at e; simp only [Bool.and_eq_true, decide_eq_true_eq] at e; simp; omega
            have hx2 : dnB x = true → ¬ x = 1 := fun e => by unfold dnB at e; simp only [Bool.and_eq_true, decide_eq_true_eq] at e; omega
            generalize dnB x = p3 at *
            cases p1
            · have hp2 : p2 = true := by simpa using hst
              subst hp2
              clear hst
              cases p3
              · clear hx1 hx2 hk1
                by_cases e1 : x = 1
                · subst e1
                  clear hk2
                  go_wp2_with fail
                  refine (O1 _).mono ?_
                  rintro e w3 ⟨rfl, rfl⟩
                  go_wp2_with fail
                  refine (D1 _).mono ?_
                  rintro e w3 ⟨rfl, rfl⟩
                  go_wp2_with fail
                  refine (D2 _).mono ?_
                  rintro e w3 ⟨rfl, rfl⟩
                  go_wp2_with fail
                  go_meet
                  case rel => exact ⟨rfl, rfl, rfl⟩
                · have e2 : (x != 1) = true := by simp [e1]
                  have e3 := hk2 e1
                  have e4 : (t == 1) = false := beq_false_of_ne e3
                  clear hk2
                  go_wp2_with fail
                  refine (O1 _).mono ?_
                  rintro e w3 ⟨rfl, rfl⟩
                  go_wp2_with fail
                  refine (D1 _).mono ?_
                  rintro e w3 ⟨rfl, rfl⟩
                  go_wp2_with fail
                  refine (D2 _).mono ?_
                  rintro e w3 ⟨rfl, rfl⟩
                  go_wp2_with fail
                  go_meet
                  case rel => exact ⟨rfl, rfl, rfl⟩
              · have e0 : t = x := hk1 rfl
                have e1 := hx2 rfl
                have e2 := hx1 rfl
                have e3 := hk2 e1
                have e4 : (t == 1) = false := beq_false_of_ne e3
                have e5 : (t != x) = false := by simp [e0]
                have e6 : Hid (t = x) := e0
                clear hk1 hk2 hx1 hx2 e0
                go_wp2_with fail
                refine (O1 _).mono ?_
                rintro e w3 ⟨rfl, rfl⟩
                go_wp2_with fail
                refine (D1 _).mono ?_
                rintro e w3 ⟨rfl, rfl⟩
                go_wp2_with fail
                refine (D2 _).mono ?_
                rintro e w3 ⟨rfl, rfl⟩
                go_wp2_with fail
                go_meet
                case rel => exact ⟨rfl, rfl, rfl⟩
            · clear hst D1
              cases p3
              · clear hx1 hx2 hk1
                by_cases e1 : x = 1
                · subst e1
                  clear hk2
                  go_wp2_with fail
                  refine (O1 _).mono ?_
                  rintro e w3 ⟨rfl, rfl⟩
                  go_wp2_with fail
                  refine (D2 _).mono ?_
                  rintro e w3 ⟨rfl, rfl⟩
                  go_wp2_with fail
                  go_meet
                  case rel => exact ⟨rfl, rfl, rfl⟩
                · have e2 : (x != 1) = true := by simp [e1]
                  have e3 := hk2 e1
                  have e4 : (t == 1) = false := beq_false_of_ne e3
                  clear hk2
                  go_wp2_with fail
                  refine (O1 _).mono ?_
                  rintro e w3 ⟨rfl, rfl⟩
                  go_wp2_with fail
                  refine (D2 _).mono ?_
                  rintro e w3 ⟨rfl, rfl⟩
                  go_wp2_with fail
                  go_meet
                  case rel => exact ⟨rfl, rfl, rfl⟩
              · have e0 : t = x := hk1 rfl
                have e1 := hx2 rfl
                have e2 := hx1 rfl
                have e3 := hk2 e1
                have e4 : (t == 1) = false := beq_false_of_ne e3
                have e5 : (t != x) = false := by simp [e0]
                have e6 : Hid (t = x) := e0
                clear hk1 hk2 hx1 hx2 e0
                go_wp2_with fail
                refine (O1 _).mono ?_
                rintro e w3 ⟨rfl, rfl⟩
                go_wp2_with fail
                refine (D2 _).mono ?_
                rintro e w3 ⟨rfl, rfl⟩
                go_wp2_with fail
                go_meet
                case rel => exact ⟨rfl, rfl, rfl⟩
          case rest =>
           obtain ⟨rfl, rfl, rfl⟩ := hcut
           clear O1 D1 D2
           go_upto_region 18 with fail
           go_cut [18, 96] from 18 to 98 (fun i z wx => i = .int .i64 (k : Int) ∧ z = .bool false ∧ wx = wc)
           case first =>
            clear HB2
            by_cases y6 : y = 6
            · obtain rfl := y6
              obtain rfl : t = 6 := HD.out.fill rfl
              clear HD
              go_wp2_with fail
              go_meet
              case rel => exact ⟨rfl, rfl, rfl⟩
            by_cases y2 : y = 2
            · obtain rfl := y2
              obtain rfl : t = 7 := HD.out.gone rfl
              clear HD
              go_wp2_with fail
              go_meet
              case rel => exact ⟨rfl, rfl, rfl⟩
            by_cases y9 : y = 9
            · obtain rfl := y9
              obtain rfl : t = 4 := HD.out.cancel rfl
              clear HD
              go_wp2_with fail
              go_meet
              case rel => exact ⟨rfl, rfl, rfl⟩
            by_cases y10 : y = 10
            · obtain rfl := y10
              obtain rfl : t = 5 := HD.out.other rfl
              clear HD
              go_wp2_with fail
              go_meet
              case rel => exact ⟨rfl, rfl, rfl⟩
            have z6 : (y == 6) = false := beq_false_of_ne y6
            have z2 : (y == 2) = false := beq_false_of_ne y2
            have z9 : (y == 9) = false := beq_false_of_ne y9
            have z10 : (y == 10) = false := beq_false_of_ne y10
            clear HD
            go_wp2_with fail
            go_meet
            case rel => exact ⟨rfl, by simp, rfl⟩
           case rest =>
            obtain ⟨rfl, rfl, rfl⟩ := hcut
            go_wp2_with fail
            go_roundw
            case rel => exact ⟨k + 1, t, rfl, by simp, by omega, HB2.out⟩
            case measure => simp [RowKit.intOf]; omega
        · have hr' : (r != 0) = true := by simp [hr]
          have ht : t = 0 := HN.out hr
          subst ht
          clear HN HG
          go_wp2_with fail
          refine G.mono ?_
          rintro e w2 ⟨rfl, b2⟩
          have HB2 : Hid (Below w.heap.size w w2) := HB.out.trans (b2.mono HB.out.size)
          clear G b2 HB d
          go_wp2_with fail
          go_roundw
          case rel => exact ⟨k + 1, x, rfl, by simp, by omega, HB2.out⟩
          case measure => simp [RowKit.intOf]; omega
    · obtain rfl : k = n := by omega
      go_wp2_with fail
      go_ret
      exact ⟨rfl, HB.out⟩
theorem matrixRuns_walk (w : World) (F : Nat → Int) (n : Nat) (v : Value) (h : Row w v n fun i => .int .i64 (F i)) (_ : ∀ i, n ≤ i → F i = 0) (_ : ∀ i, -9223372036854775808 ≤ F i ∧ F i ≤ 9223372036854775807) (F2 : Nat → Int) (n2 : Nat) (v2 : Value) (h' : Row w v2 n2 fun i => .int .i64 (F2 i)) (_ : ∀ i, n2 ≤ i → F2 i = 0) (_ : ∀ i, -9223372036854775808 ≤ F2 i ∧ F2 i ≤ 9223372036854775807) :
    Calls Try.prog 5 #[v, v2] w fun e w' => e = .returned (.bool true) ∧ Below w.heap.size w w' := by
  by_cases hn : 200 < n
  · obtain ⟨a, cap, rfl, _, _, _⟩ := h
    obtain ⟨a2, cap2, rfl, _, _, _⟩ := h'
    exact runs_many w a a2 n cap n2 cap2 hn
  · exact runs_main w v v2 n n2 F F2 h h' (by omega)
theorem matrixRuns_own : ownKnob Try.prog.godebug = none := by kernel_rfl
theorem matrixRuns_laidOut : laidOutB Try.prog = true := by kernel_rfl
set_option maxRecDepth 100000 in
theorem matrixRuns_lifted (os : Os) (started : os.Started) (H : Type) (enc : TypeId × Value → H) :
    ReturnsInHanded {} Try.checked os 5 .any (Rows.matrixRunsSpec.pre6 enc Try.prog Try.f5 Rows.matrixRunsRow.domain false) (Rows.matrixRunsSpec.post enc Try.prog Try.f5 false true false false) := by
  refine returnsInHanded_of_change (C := Try.checked) matrixRuns_own started (by kernel_rfl) Try.func5
    (ChangeSpec.witness6 (enc := enc) (C := Try.checked) false ⟨#[], #[.slice none 0 0, .slice none 0 0], []⟩ 8 (by kernel_rfl) (by kernel_rfl) (by kernel_rfl) (by kernel_rfl)) ?_
  intro W base args ds gs before hval0 hW hcnd _
  have hval : ∀ (j : Nat) t v, Try.f5.params[j]? = some t → args[j]? = some v → Value.okWide Try.prog W .any base t v := hval0
  have hW' := hW
  obtain ⟨p, q, hA0, hV, rfl, hfz, hnd⟩ := hW
  have hA : DataW.TrodAll enc Try.prog W 0 (fun _ => true) true Try.f5.params.toList args.toList ds p := hA0
  rw [Try.params5] at hA hval
  obtain ⟨v0, vs0, d0, ds0, p0, q0, hargs, rfl, rfl, h0, r0⟩ := trodAll_cons hA
  obtain ⟨v1, vs1, d1, ds1, p1, q1, rfl, rfl, rfl, h1, r1⟩ := trodAll_cons r0
  obtain ⟨rfl, rfl, rfl⟩ := trodAll_nil r1
  obtain rfl : args = #[v0, v1] := by cases args; simp_all
  obtain ⟨rfl, rfl⟩ := trodVars_none hV
  obtain ⟨ad0, n0, cap0, rfl⟩ := okWide_slice Try.underlying31 (hval 0 31 v0 rfl rfl)
  have k0 := h0
  have lt0 : ∀ x ∈ p0, x.block < W.heap.size := by obtain ⟨m, hm⟩ := k0; exact DataW.trod_lt m _ _ _ hm
  obtain ⟨f0, row0, be0, bd0⟩ : ∃ f : Nat → Int, Row W (.slice ad0 n0 cap0) n0 (fun i => .int .i64 (f i)) ∧ (∀ i, n0 ≤ i → f i = 0) ∧ ∀ i, -9223372036854775808 ≤ f i ∧ f i ≤ 9223372036854775807 := by
    obtain ⟨fuel, hf⟩ := h0
    rcases open_ints Try.underlying31 Try.underlying3 (by kernel_rfl) hf with ⟨hcs, _⟩ | ⟨x, l, c, zs, hcs, _, hl, hm, hz, _, hcell, hwz⟩
    · simp [Value.cells] at hcs
      obtain ⟨rfl, rfl, rfl⟩ := hcs
      exact row_none W
    · simp [Value.cells] at hcs
      obtain ⟨rfl, rfl, rfl⟩ := hcs
      exact row_some hl hm (by simpa using hz) hcell (fun z hz => bounds_i64 (hwz z hz))
  obtain ⟨ad1, n1, cap1, rfl⟩ := okWide_slice Try.underlying31 (hval 1 31 v1 rfl rfl)
  have k1 := h1
  have lt1 : ∀ x ∈ p1, x.block < W.heap.size := by obtain ⟨m, hm⟩ := k1; exact DataW.trod_lt m _ _ _ hm
  obtain ⟨f1, row1, be1, bd1⟩ : ∃ f : Nat → Int, Row W (.slice ad1 n1 cap1) n1 (fun i => .int .i64 (f i)) ∧ (∀ i, n1 ≤ i → f i = 0) ∧ ∀ i, -9223372036854775808 ≤ f i ∧ f i ≤ 9223372036854775807 := by
    obtain ⟨fuel, hf⟩ := h1
    rcases open_ints Try.underlying31 Try.underlying3 (by kernel_rfl) hf with ⟨hcs, _⟩ | ⟨x, l, c, zs, hcs, _, hl, hm, hz, _, hcell, hwz⟩
    · simp [Value.cells] at hcs
      obtain ⟨rfl, rfl, rfl⟩ := hcs
      exact row_none W
    · simp [Value.cells] at hcs
      obtain ⟨rfl, rfl, rfl⟩ := hcs
      exact row_some hl hm (by simpa using hz) hcell (fun z hz => bounds_i64 (hwz z hz))
  clear hA0 hval0
  simp only [List.append_nil] at hW'
  refine (matrixRuns_walk W f0 n0 _ row0 be0 bd0 f1 n1 _ row1 be1 bd1).mono fun e W' ⟨he, bel⟩ => ?_
  subst he
  exact ⟨_, rfl, _, _, _, [], _, [], hW', trodAll_mk1 (shut_bool Try.underlying4 _), (trodAll_cons_mk (Below.trod matrixRuns_laidOut (by kernel_rfl) (of_decide_eq_true (by kernel_rfl)) k0 bel lt0) (trodAll_cons_mk (Below.trod matrixRuns_laidOut (by kernel_rfl) (of_decide_eq_true (by kernel_rfl)) k1 bel lt1) trodAll_mk0)), rfl, bel.frame _, fun h => by cases h⟩

/-- THE STATEMENT. -/
theorem matrixRuns_proved : Rows.MatrixRunsSaid :=
  OpenClaim.holds_of_wide 5 Try.f5 rfl rfl rfl rfl rfl rfl rfl ⟨rfl, rfl, rfl, rfl, rfl⟩ rfl rfl rfl rfl rfl (by kernel_rfl) Try.func5 (by kernel_rfl)
    (of_decide_eq_true (by kernel_rfl)) (by unfold Func.isWrapper; first | (rw [if_pos (by decide +kernel)]; kernel_rfl) | (rw [if_neg (by decide +kernel)]; exact ⟨rfl, rfl⟩))
    (fun os started H enc _ => matrixRuns_lifted os started H enc)
#print axioms matrixRuns_proved
end Go.Proofs.Ytelkhmcgnhlacaa
