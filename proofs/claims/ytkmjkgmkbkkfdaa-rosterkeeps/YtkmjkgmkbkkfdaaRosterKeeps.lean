/-
  RosterKeeps: a name keeps its slot whatever is done beside it. For every room, every text and every list of steps, no condition.
-/
import Derived.Test.YtkmjkgmkbkkfdaaFrame4
namespace Go.Proofs.Ytkmjkgmkbkkfdaa
open Go.ChangeShapes Go.WideShapes Go.ChangeAt Go.RowKit Go.Lib

set_option maxHeartbeats 1000000 in
theorem keeps_many (w : World) (room : Int) (name : ByteArray) (v : Value) (n : Nat) (K T : Nat → Int) (N : Nat → ByteArray) (h : Ops w v n K T N) (hf : ¬ Few n N) :
    Calls Try.prog 6 #[.int .i64 room, .string name, v] w fun e w' => e = .returned (.bool true) ∧ Below w.heap.size w w' := by
  have F1 := awake4_any w
  have F2 := fun {w'} (h : Ops w' v n K T N) => few_no h hf
  clear hf
  go_enter Try.func6, Try.ntmps6
  go_wp2_with fail
  refine F1.mono ?_
  rintro e w1 ⟨rfl, hb⟩
  go_wp2_with fail
  refine (F2 (h.below (Nat.le_refl _) hb)).mono ?_
  rintro e w2 ⟨rfl, hb2⟩
  go_wp2_with fail
  go_ret
  exact ⟨rfl, hb.trans (hb2.mono hb.size)⟩
set_option maxHeartbeats 1000000 in
theorem keeps_room (w : World) (room : Int) (name : ByteArray) (v : Value) (n : Nat) (K T : Nat → Int) (N : Nat → ByteArray) (h : Ops w v n K T N) (hf : Few n N) (hr : room < 1 ∨ (¬ room < 1 ∧ 100 < room)) :
    Calls Try.prog 6 #[.int .i64 room, .string name, v] w fun e w' => e = .returned (.bool true) ∧ Below w.heap.size w w' := by
  have F1 := awake4_any w
  have F2 := fun {w'} (h : Ops w' v n K T N) => few_yes h hf.1 hf.2
  clear hf
  rcases hr with hr | ⟨hr1, hr2⟩
  all_goals
    go_enter Try.func6, Try.ntmps6
    go_wp2_with fail
    refine F1.mono ?_
    rintro e w1 ⟨rfl, hb⟩
    go_wp2_with fail
    refine (F2 (h.below (Nat.le_refl _) hb)).mono ?_
    rintro e w2 ⟨rfl, hb2⟩
    go_wp2_with fail
    go_ret
    exact ⟨rfl, hb.trans (hb2.mono hb.size)⟩
set_option maxHeartbeats 1000000 in
theorem keeps_bad (w : World) (room : Int) (name : ByteArray) (v : Value) (n : Nat) (K T : Nat → Int) (N : Nat → ByteArray) (h : Ops w v n K T N) (hf : Few n N) (hr1 : ¬ room < 1) (hr2 : ¬ 100 < room) (hv : vldB name = false) :
    Calls Try.prog 6 #[.int .i64 room, .string name, v] w fun e w' => e = .returned (.bool true) ∧ Below w.heap.size w w' := by
  have F1 := awake4_any w
  have F2 := fun {w'} (h : Ops w' v n K T N) => few_yes h hf.1 hf.2
  have F3 := fun w => valid_any name w
  rw [hv] at F3
  clear hf
  go_enter Try.func6, Try.ntmps6
  go_wp2_with fail
  refine F1.mono ?_
  rintro e w1 ⟨rfl, hb⟩
  go_wp2_with fail
  refine (F2 (h.below (Nat.le_refl _) hb)).mono ?_
  rintro e w2 ⟨rfl, hb2⟩
  have B2 := hb.trans (hb2.mono hb.size)
  go_wp2_with fail
  refine (F3 _).mono ?_
  rintro e w3 ⟨rfl, hb3⟩
  go_wp2_with fail
  go_ret
  exact ⟨rfl, B2.trans (hb3.mono B2.size)⟩
set_option maxRecDepth 100000 in
set_option maxHeartbeats 8000000 in
theorem keeps_main (w : World) (room : Nat) (name : ByteArray) (v : Value) (n : Nat) (K T : Nat → Int) (N : Nat → ByteArray) (h : Ops w v n K T N) (hf : Few n N) (hr1 : 1 ≤ room) (hr2 : room ≤ 100) (hv : vldB name = true) :
    Calls Try.prog 6 #[.int .i64 (room : Int), .string name, v] w fun e w' => e = .returned (.bool true) ∧ Below w.heap.size w w' := by
  have F1 := awake4_any w
  have F2 := fun {w'} (h : Ops w' v n K T N) => few_yes h hf.1 hf.2
  have F3 := fun w => valid_any name w
  have hne := vld_ne hv
  have F4 := fun w => new_yes room w (by omega) (by omega)
  have F5 := fun {w' p q S c L} (h : Ros w' p q S c room (fun _ => none4) L) => put_ok h name hv (fun _ _ e => hne e.symm) 0 (by omega) rfl (fun j hj => absurd hj (by omega))
  have t1 : ¬ (room : Int) < 1 := by omega
  have t2 : ¬ (100 : Int) < (room : Int) := by omega
  have t3 : ¬ (room : Int) ≤ 0 := by omega
  have t4 : ¬ room = 0 := by omega
  rw [hv] at F3
  have HN : Hid (name ≠ none4) := hne
  have hn := hf.1
  clear hf hne
  go_enter Try.func6, Try.ntmps6
  go_wp2_with fail
  refine F1.mono ?_
  rintro e w1 ⟨rfl, hb⟩
  go_wp2_with fail
  refine (F2 (h.below (Nat.le_refl _) hb)).mono ?_
  rintro e w2 ⟨rfl, hb2⟩
  have B2 := hb.trans (hb2.mono hb.size)
  go_wp2_with fail
  refine (F3 _).mono ?_
  rintro e w3 ⟨rfl, hb3⟩
  have B3 := B2.trans (hb3.mono B2.size)
  have z3 := B3.size
  go_wp2_with fail
  refine (F4 _).mono ?_
  rintro e w4 ⟨rfl, R4, hb4, s4⟩
  have B4 := B3.trans (hb4.mono z3)
  go_wp2_with fail
  refine (F5 R4).mono ?_
  rintro e w5 ⟨rfl, S5, c5, L5, R5, k5, o5⟩
  have B5 : Below w.heap.size w w5 := B4.trans (k5.below B4.size (by rintro k (rfl | rfl | e); omega; omega; cases e))
  have O5 : ∀ k, own (w3.heap.size + 1) w3.heap.size S5 k → w.heap.size ≤ k := fun k hk => by
    rcases o5 k hk with (rfl | rfl | e) | e
    · omega
    · omega
    · cases e
    · have := B4.size; omega
  obtain ⟨a, cap, rfl, g1, g2, _⟩ := id h
  obtain ⟨P, hP⟩ : ∃ P, P = w3.heap.size + 1 := ⟨_, rfl⟩
  obtain ⟨Q, hQ⟩ : ∃ Q, Q = w3.heap.size := ⟨_, rfl⟩
  rw [← hP] at R5 O5
  rw [← hQ] at R5 O5
  rw [← hP]
  clear hP hQ F1 F2 F3 F4 F5 hb hb2 hb3 hb4 B2 B3 B4 k5 o5 R4
  go_wp2_with fail
  go_loopw [64] (fun i wr => ∃ k : Nat, i = .int .i64 (k : Int) ∧ k ≤ n ∧ Below w.heap.size w wr ∧ ∃ S c sl L, Ros wr P Q S c room sl L ∧ Hid (sl 0 = name) ∧ Hid (∀ k, own P Q S k → w.heap.size ≤ k)) (fun i _ => n - (RowKit.intOf i).toNat)
  case atStart => exact ⟨0, rfl, Nat.zero_le _, B5, S5, c5, _, L5, R5, upd_same _ _ _, O5⟩
  case round =>
    clear R5 O5 B5
    obtain ⟨k, rfl, hk, B, S, c, sl, L, R, HE, HO⟩ := hrel
    have hz := B.size
    by_cases hlt : k < n
    · have t : (k : Int) < (n : Int) := by omega
      obtain ⟨_, _, e', _, _, hops⟩ := id h
      injection e' with e1 _ e2
      subst e1 e2
      obtain ⟨⟨b, off, rfl, k0, k1, k2⟩, _⟩ := hops k hlt
      have d0 := (B.cell (World.block_lt_of_cell? _ _ k0)).trans k0
      have d1 := (B.cell (World.block_lt_of_cell? _ _ k1)).trans k1
      have d2 := (B.cell (World.block_lt_of_cell? _ _ k2)).trans k2
      clear k0 k1 k2 hops
      generalize N k = y at *
      generalize K k = x at *
      generalize T k = z at *
      have A0 : Below wr.heap.size wr (wr.alloc (.cells #[.int .i64 x, .int .i64 z, .string y] 35)) := (Below.refl _ wr).alloc (Nat.le_refl _) _
      have R0 := R.below A0
      have B0 : Below w.heap.size w (wr.alloc (.cells #[.int .i64 x, .int .i64 z, .string y] 35)) := B.alloc hz _
      have heq := beq_bytes y name
      by_cases hy : y = name
      · rw [decide_eq_true hy] at heq
        clear hy
        go_wp2_with fail
        go_roundw
        case rel => exact ⟨k + 1, by simp, by omega, B0, S, c, sl, L, R0, HE, HO⟩
        case measure => simp [RowKit.intOf]; omega
      · rw [decide_eq_false hy] at heq
        have HY : Hid (¬ y = name) := hy
        clear hy
        have G1 := count_any R0
        have W0O : ∀ k, own P Q S k → w.heap.size ≤ k := HO.out
        by_cases hx1 : x = 1
        · subst hx1
          have G1' := G1
          rcases put_cases room sl y with hv' | ⟨hv', i, hi, e⟩ | ⟨hv', hno, hfu⟩ | ⟨hv', hno, i, hi, hfr, hl⟩
          · have G := put_name R0 y hv'
            clear hv'
            go_wp2_with fail
            refine G1.mono ?_
            rintro e w5' ⟨rfl, rfl⟩
            go_wp2_with fail
            refine G.mono ?_
            rintro e w6 ⟨rfl, hb6⟩
            have R6 := R0.below hb6
            have B6 := B0.trans (hb6.mono B0.size)
            obtain ⟨S6, c6, sl6, L6, R6, HE6, HO6⟩ : ∃ S6 c6 sl6 L6, Ros w6 P Q S6 c6 room sl6 L6 ∧ Hid (sl6 0 = name) ∧ Hid (∀ k, own P Q S6 k → w.heap.size ≤ k) := ⟨S, c, sl, L, R6, HE, HO⟩
            clear G hb6 R0 R
            go_wp2_with fail
            refine (find_yes R6 name 0 (by omega) HE6.out HN.out).mono ?_
            rintro e w7 ⟨rfl, hb7⟩
            have R7 := R6.below hb7
            have B7 := B6.trans (hb7.mono B6.size)
            have G3 := name_in R7 0 (by omega)
            rw [HE6.out, decide_eq_true HN.out] at G3
            have hle := R7.seated.le
            have q3 : ¬ (room : Int) < (L6.length : Int) := by omega
            go_wp2_with fail
            refine G3.mono ?_
            rintro e w8 ⟨rfl, rfl⟩
            go_wp2_with fail
            refine (count_any R7).mono ?_
            rintro e w9 ⟨rfl, rfl⟩
            go_wp2_with fail
            go_roundw
            case rel => exact ⟨k + 1, by simp, by omega, B7, S6, c6, sl6, L6, R7, HE6, HO6⟩
            case measure => simp [RowKit.intOf]; omega
          · have G := put_twice R0 y hv' i hi e
            clear hv' e
            go_wp2_with fail
            refine G1.mono ?_
            rintro e w5' ⟨rfl, rfl⟩
            go_wp2_with fail
            refine G.mono ?_
            rintro e w6 ⟨rfl, hb6⟩
            have R6 := R0.below hb6
            have B6 := B0.trans (hb6.mono B0.size)
            obtain ⟨S6, c6, sl6, L6, R6, HE6, HO6⟩ : ∃ S6 c6 sl6 L6, Ros w6 P Q S6 c6 room sl6 L6 ∧ Hid (sl6 0 = name) ∧ Hid (∀ k, own P Q S6 k → w.heap.size ≤ k) := ⟨S, c, sl, L, R6, HE, HO⟩
            clear G hb6 R0 R
            go_wp2_with fail
            refine (find_yes R6 name 0 (by omega) HE6.out HN.out).mono ?_
            rintro e w7 ⟨rfl, hb7⟩
            have R7 := R6.below hb7
            have B7 := B6.trans (hb7.mono B6.size)
            have G3 := name_in R7 0 (by omega)
            rw [HE6.out, decide_eq_true HN.out] at G3
            have hle := R7.seated.le
            have q3 : ¬ (room : Int) < (L6.length : Int) := by omega
            go_wp2_with fail
            refine G3.mono ?_
            rintro e w8 ⟨rfl, rfl⟩
            go_wp2_with fail
            refine (count_any R7).mono ?_
            rintro e w9 ⟨rfl, rfl⟩
            go_wp2_with fail
            go_roundw
            case rel => exact ⟨k + 1, by simp, by omega, B7, S6, c6, sl6, L6, R7, HE6, HO6⟩
            case measure => simp [RowKit.intOf]; omega
          · have G := put_full R0 y hv' hno hfu
            clear hv' hno hfu
            go_wp2_with fail
            refine G1.mono ?_
            rintro e w5' ⟨rfl, rfl⟩
            go_wp2_with fail
            refine G.mono ?_
            rintro e w6 ⟨rfl, hb6⟩
            have R6 := R0.below hb6
            have B6 := B0.trans (hb6.mono B0.size)
            obtain ⟨S6, c6, sl6, L6, R6, HE6, HO6⟩ : ∃ S6 c6 sl6 L6, Ros w6 P Q S6 c6 room sl6 L6 ∧ Hid (sl6 0 = name) ∧ Hid (∀ k, own P Q S6 k → w.heap.size ≤ k) := ⟨S, c, sl, L, R6, HE, HO⟩
            clear G hb6 R0 R
            go_wp2_with fail
            refine (find_yes R6 name 0 (by omega) HE6.out HN.out).mono ?_
            rintro e w7 ⟨rfl, hb7⟩
            have R7 := R6.below hb7
            have B7 := B6.trans (hb7.mono B6.size)
            have G3 := name_in R7 0 (by omega)
            rw [HE6.out, decide_eq_true HN.out] at G3
            have hle := R7.seated.le
            have q3 : ¬ (room : Int) < (L6.length : Int) := by omega
            go_wp2_with fail
            refine G3.mono ?_
            rintro e w8 ⟨rfl, rfl⟩
            go_wp2_with fail
            refine (count_any R7).mono ?_
            rintro e w9 ⟨rfl, rfl⟩
            go_wp2_with fail
            go_roundw
            case rel => exact ⟨k + 1, by simp, by omega, B7, S6, c6, sl6, L6, R7, HE6, HO6⟩
            case measure => simp [RowKit.intOf]; omega
          · have G := put_ok R0 y hv' hno i hi hfr hl
            have hi0 : i ≠ 0 := fun e => by
              subst e
              exact HN.out (HE.out.symm.trans hfr)
            have hle0 := R0.seated.room_left (vld_ne hv') hno hi hfr
            have q4 : ((i : Int) == 0) = false := beq_false_of_ne (by omega)
            have q5 : ((L.length : Int) == (room : Int)) = false := beq_false_of_ne (by omega)
            have q5' : ¬ L.length = room := by omega
            have q6 : ¬ (room : Int) ≤ (i : Int) := by omega
            have q6' : ¬ room ≤ i := by omega
            have HU : Hid (upd sl i y 0 = name) := (upd_other sl y (fun e => hi0 e.symm)).trans HE.out
            clear hv' hno hfr hl
            go_wp2_with fail
            refine G1.mono ?_
            rintro e w5' ⟨rfl, rfl⟩
            go_wp2_with fail
            refine G.mono ?_
            rintro e w6 ⟨rfl, S6, c6, L6, R6, k6, o6⟩
            have B6 : Below w.heap.size w w6 := B0.trans (k6.below B0.size W0O)
            have HO6 : Hid (∀ k, own P Q S6 k → w.heap.size ≤ k) := fun k hk => by
              rcases o6 k hk with e | e
              · exact W0O k e
              · exact Nat.le_trans B0.size e
            obtain ⟨sl6, R6, HE6⟩ : ∃ sl6, Ros w6 P Q S6 c6 room sl6 L6 ∧ Hid (sl6 0 = name) := ⟨_, R6, HU⟩
            clear G k6 o6 R0 R HU
            go_wp2_with fail
            refine (find_yes R6 name 0 (by omega) HE6.out HN.out).mono ?_
            rintro e w7 ⟨rfl, hb7⟩
            have R7 := R6.below hb7
            have B7 := B6.trans (hb7.mono B6.size)
            have G3 := name_in R7 0 (by omega)
            rw [HE6.out, decide_eq_true HN.out] at G3
            have hle := R7.seated.le
            have q3 : ¬ (room : Int) < (L6.length : Int) := by omega
            go_wp2_with fail
            refine G3.mono ?_
            rintro e w8 ⟨rfl, rfl⟩
            go_wp2_with fail
            refine (count_any R7).mono ?_
            rintro e w9 ⟨rfl, rfl⟩
            go_wp2_with fail
            go_roundw
            case rel => exact ⟨k + 1, by simp, by omega, B7, S6, c6, sl6, L6, R7, HE6, HO6⟩
            case measure => simp [RowKit.intOf]; omega
        by_cases hx2 : x = 2
        · subst hx2
          rcases least_ex (fun i => sl i = y ∧ y ≠ none4) room with hno | ⟨i, hi, ⟨e, hne⟩, _⟩
          · have G := drop_no R0 y (fun i hi e => Decidable.byContradiction fun k => hno i hi ⟨e, k⟩)
            clear hno
            go_wp2_with fail
            refine G1.mono ?_
            rintro e w5' ⟨rfl, rfl⟩
            go_wp2_with fail
            refine G.mono ?_
            rintro e w6 ⟨rfl, hb6⟩
            have R6 := R0.below hb6
            have B6 := B0.trans (hb6.mono B0.size)
            obtain ⟨S6, c6, sl6, L6, R6, HE6, HO6⟩ : ∃ S6 c6 sl6 L6, Ros w6 P Q S6 c6 room sl6 L6 ∧ Hid (sl6 0 = name) ∧ Hid (∀ k, own P Q S6 k → w.heap.size ≤ k) := ⟨S, c, sl, L, R6, HE, HO⟩
            clear G hb6 R0 R
            go_wp2_with fail
            refine (find_yes R6 name 0 (by omega) HE6.out HN.out).mono ?_
            rintro e w7 ⟨rfl, hb7⟩
            have R7 := R6.below hb7
            have B7 := B6.trans (hb7.mono B6.size)
            have G3 := name_in R7 0 (by omega)
            rw [HE6.out, decide_eq_true HN.out] at G3
            have hle := R7.seated.le
            have q3 : ¬ (room : Int) < (L6.length : Int) := by omega
            go_wp2_with fail
            refine G3.mono ?_
            rintro e w8 ⟨rfl, rfl⟩
            go_wp2_with fail
            refine (count_any R7).mono ?_
            rintro e w9 ⟨rfl, rfl⟩
            go_wp2_with fail
            go_roundw
            case rel => exact ⟨k + 1, by simp, by omega, B7, S6, c6, sl6, L6, R7, HE6, HO6⟩
            case measure => simp [RowKit.intOf]; omega
          · have G := drop_ok R0 y i hi e hne
            have hi0 : i ≠ 0 := fun e0 => by
              subst e0
              exact HY.out (e.symm.trans HE.out)
            have HU : Hid (upd sl i none4 0 = name) := (upd_other sl none4 (fun e => hi0 e.symm)).trans HE.out
            clear e hne
            go_wp2_with fail
            refine G1.mono ?_
            rintro e w5' ⟨rfl, rfl⟩
            go_wp2_with fail
            refine G.mono ?_
            rintro e w6 ⟨rfl, L6, R6, k6⟩
            have B6 : Below w.heap.size w w6 := B0.trans (k6.below B0.size W0O)
            obtain ⟨S6, c6, sl6, R6, HE6, HO6⟩ : ∃ S6 c6 sl6, Ros w6 P Q S6 c6 room sl6 L6 ∧ Hid (sl6 0 = name) ∧ Hid (∀ k, own P Q S6 k → w.heap.size ≤ k) := ⟨S, c, _, R6, HU, HO⟩
            clear G k6 R0 R HU
            go_wp2_with fail
            refine (find_yes R6 name 0 (by omega) HE6.out HN.out).mono ?_
            rintro e w7 ⟨rfl, hb7⟩
            have R7 := R6.below hb7
            have B7 := B6.trans (hb7.mono B6.size)
            have G3 := name_in R7 0 (by omega)
            rw [HE6.out, decide_eq_true HN.out] at G3
            have hle := R7.seated.le
            have q3 : ¬ (room : Int) < (L6.length : Int) := by omega
            go_wp2_with fail
            refine G3.mono ?_
            rintro e w8 ⟨rfl, rfl⟩
            go_wp2_with fail
            refine (count_any R7).mono ?_
            rintro e w9 ⟨rfl, rfl⟩
            go_wp2_with fail
            go_roundw
            case rel => exact ⟨k + 1, by simp, by omega, B7, S6, c6, sl6, L6, R7, HE6, HO6⟩
            case measure => simp [RowKit.intOf]; omega
        · have q1 : (x == 1) = false := beq_false_of_ne hx1
          have q2 : (x == 2) = false := beq_false_of_ne hx2
          clear hx1 hx2
          go_wp2_with fail
          refine G1.mono ?_
          rintro e w6 ⟨rfl, rfl⟩
          go_wp2_with fail
          refine (find_yes R0 name 0 (by omega) HE.out HN.out).mono ?_
          rintro e w7 ⟨rfl, hb7⟩
          have R7 := R0.below hb7
          have B7 := B0.trans (hb7.mono B0.size)
          have G3 := name_in R7 0 (by omega)
          rw [HE.out, decide_eq_true HN.out] at G3
          have hle := R7.seated.le
          have q3 : ¬ (room : Int) < (L.length : Int) := by omega
          go_wp2_with fail
          refine G3.mono ?_
          rintro e w8 ⟨rfl, rfl⟩
          go_wp2_with fail
          refine (count_any R7).mono ?_
          rintro e w9 ⟨rfl, rfl⟩
          go_wp2_with fail
          go_roundw
          case rel => exact ⟨k + 1, by simp, by omega, B7, S, c, sl, L, R7, HE, HO⟩
          case measure => simp [RowKit.intOf]; omega
    · obtain rfl : k = n := by omega
      have t : ¬ (k : Int) < (k : Int) := by omega
      go_wp2_with fail
      go_ret
      exact ⟨rfl, B⟩

theorem rosterKeeps_walk (w : World) (room : Int) (_hr : -9223372036854775808 ≤ room ∧ room ≤ 9223372036854775807) (name : ByteArray) (_hs : name.size ≤ maxLen) (v : Value) (n : Nat) (K T : Nat → Int) (N : Nat → ByteArray) (h : Ops w v n K T N) :
    Calls Try.prog 6 #[.int .i64 room, .string name, v] w fun e w' => e = .returned (.bool true) ∧ Below w.heap.size w w' := by
  by_cases hf : Few n N
  · by_cases h1 : room < 1
    · exact keeps_room w room name v n K T N h hf (.inl h1)
    · by_cases h2 : 100 < room
      · exact keeps_room w room name v n K T N h hf (.inr ⟨h1, h2⟩)
      · cases hv : vldB name
        · exact keeps_bad w room name v n K T N h hf h1 h2 hv
        · obtain ⟨r, rfl⟩ : ∃ r : Nat, room = (r : Int) := ⟨room.toNat, by omega⟩
          exact keeps_main w r name v n K T N h hf (by omega) (by omega) hv
  · exact keeps_many w room name v n K T N h hf

theorem rosterKeeps_own : ownKnob Try.prog.godebug = none := by kernel_rfl
theorem rosterKeeps_laidOut : laidOutB Try.prog = true := by kernel_rfl
set_option maxRecDepth 100000 in
theorem rosterKeeps_lifted (os : Os) (started : os.Started) (H : Type) (enc : TypeId × Value → H) :
    ReturnsInHanded {} Try.checked os 6 .any (Rows.rosterKeepsSpec.pre6 enc Try.prog Try.f6 Rows.rosterKeepsRow.domain false) (Rows.rosterKeepsSpec.post enc Try.prog Try.f6 false true false false) := by
  refine returnsInHanded_of_change (C := Try.checked) rosterKeeps_own started (by kernel_rfl) Try.func6
    (ChangeSpec.witness6 (enc := enc) (C := Try.checked) false ⟨#[], #[.int .i64 0, .string ⟨#[]⟩, .slice none 0 0], []⟩ 8 (by kernel_rfl) (by kernel_rfl) (by kernel_rfl) (by kernel_rfl)) ?_
  intro W base args ds gs before hval0 hW hcnd _
  have hval : ∀ (j : Nat) t v, Try.f6.params[j]? = some t → args[j]? = some v → Value.okWide Try.prog W .any base t v := hval0
  have hW' := hW
  obtain ⟨p, q, hA0, hV, rfl, hfz, hnd⟩ := hW
  have hA : DataW.TrodAll enc Try.prog W 0 (fun _ => true) true Try.f6.params.toList args.toList ds p := hA0
  rw [Try.params6] at hA hval
  obtain ⟨v0, vs0, d0, ds0, p0, q0, hargs, rfl, rfl, h0, r0⟩ := trodAll_cons hA
  obtain ⟨v1, vs1, d1, ds1, p1, q1, rfl, rfl, rfl, h1, r1⟩ := trodAll_cons r0
  obtain ⟨v2, vs2, d2, ds2, p2, q2, rfl, rfl, rfl, h2, r2⟩ := trodAll_cons r1
  obtain ⟨rfl, rfl, rfl⟩ := trodAll_nil r2
  obtain rfl : args = #[v0, v1, v2] := by cases args; simp_all
  obtain ⟨rfl, rfl⟩ := trodVars_none hV
  obtain ⟨a0, rfl, rfl, rfl, w0⟩ := open_int Try.underlying3 (hval 0 3 v0 rfl rfl) h0
  have bd0 := bounds_i64 w0
  obtain ⟨s1, rfl, rfl, rfl, w1⟩ := Go.ChangeMaps.open_string Try.underlying9 (hval 1 9 v1 rfl rfl) h1
  obtain ⟨ad2, n2, cap2, rfl⟩ := okWide_slice Try.underlying24 (hval 2 24 v2 rfl rfl)
  have k2 := h2
  have lt2 : ∀ x ∈ p2, x.block < W.heap.size := by obtain ⟨m, hm⟩ := k2; exact DataW.trod_lt m _ _ _ hm
  obtain ⟨K2, T2, N2, ops2⟩ : ∃ K T N, Ops W (.slice ad2 n2 cap2) n2 K T N := by obtain ⟨fuel, hf⟩ := h2; exact open_ops hf
  clear hA0 hval0
  simp only [List.append_nil, List.nil_append] at hW'
  refine (rosterKeeps_walk W a0 bd0 s1 w1 _ n2 K2 T2 N2 ops2).mono fun e W' ⟨he, bel⟩ => ?_
  subst he
  exact ⟨_, rfl, _, _, _, [], _, [], hW', trodAll_mk1 (shut_bool Try.underlying4 _), (trodAll_cons_mk (shut_int Try.underlying3 w0) (trodAll_cons_mk (Go.ChangeMaps.shut_string Try.underlying9 w1) (trodAll_cons_mk (Below.trod rosterKeeps_laidOut (by kernel_rfl) (of_decide_eq_true (by kernel_rfl)) k2 bel lt2) trodAll_mk0))), rfl, bel.frame _, fun h => by cases h⟩

/-- THE STATEMENT. -/
theorem rosterKeeps_proved : Rows.RosterKeepsSaid :=
  OpenClaim.holds_of_wide 6 Try.f6 rfl rfl rfl rfl rfl rfl rfl ⟨rfl, rfl, rfl, rfl, rfl⟩ rfl rfl rfl rfl rfl (by kernel_rfl) Try.func6 (by kernel_rfl)
    (of_decide_eq_true (by kernel_rfl)) (by unfold Func.isWrapper; first | (rw [if_pos (by decide +kernel)]; kernel_rfl) | (rw [if_neg (by decide +kernel)]; exact ⟨rfl, rfl⟩))
    (fun os started H enc _ => rosterKeeps_lifted os started H enc)
#print axioms rosterKeeps_proved
end Go.Proofs.Ytkmjkgmkbkkfdaa
