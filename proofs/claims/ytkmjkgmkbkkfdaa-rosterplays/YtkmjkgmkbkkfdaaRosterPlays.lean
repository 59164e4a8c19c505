/-
  RosterPlays: every play of names that are put and dropped is the document's. For every room and every list of steps, no condition.
-/
import Derived.Test.YtkmjkgmkbkkfdaaFrame4
import Derived.Test.YtkmjkgmkbkkfdaaRosterRefSorted
import Derived.Deep.CutRange
import Derived.Deep.CutBlock
import Derived.Deep.RegionWith
namespace Go.Proofs.Ytkmjkgmkbkkfdaa
open Go.ChangeShapes Go.WideShapes Go.ChangeAt Go.RowKit Go.Lib

set_option maxRecDepth 100000 in
set_option maxHeartbeats 1000000 in
theorem plays_many (w : World) (room : Int) (v : Value) (n : Nat) (K T : Nat → Int) (N : Nat → ByteArray) (h : Ops w v n K T N) (hf : ¬ Few n N) :
    Calls Try.prog 4 #[.int .i64 room, v] w fun e w' => e = .returned (.bool true) ∧ Below w.heap.size w w' := by
  have F1 := awake4_any w
  have F2 := fun {w'} (h : Ops w' v n K T N) => few_no h hf
  clear hf
  go_enter Try.func4, Try.ntmps4
  go_wp2_with fail
  refine F1.mono ?_
  rintro e w1 ⟨rfl, hb⟩
  go_wp2_with fail
  refine (F2 (h.below (Nat.le_refl _) hb)).mono ?_
  rintro e w2 ⟨rfl, hb2⟩
  go_wp2_with fail
  go_ret
  exact ⟨rfl, hb.trans (hb2.mono hb.size)⟩
set_option maxRecDepth 100000 in
set_option maxHeartbeats 1000000 in
theorem plays_mid (w : World) (room : Int) (v : Value) (n : Nat) (K T : Nat → Int) (N : Nat → ByteArray) (h : Ops w v n K T N) (hf : Few n N) (h1 : 300 < room) (h2 : room ≤ 1024) :
    Calls Try.prog 4 #[.int .i64 room, v] w fun e w' => e = .returned (.bool true) ∧ Below w.heap.size w w' := by
  have F1 := awake4_any w
  have F2 := fun {w'} (h : Ops w' v n K T N) => few_yes h hf.1 hf.2
  clear hf
  go_enter Try.func4, Try.ntmps4
  go_wp2_with fail
  refine F1.mono ?_
  rintro e w1 ⟨rfl, hb⟩
  go_wp2_with fail
  refine (F2 (h.below (Nat.le_refl _) hb)).mono ?_
  rintro e w2 ⟨rfl, hb2⟩
  go_wp2_with fail
  go_ret
  exact ⟨rfl, hb.trans (hb2.mono hb.size)⟩
set_option maxRecDepth 100000 in
set_option maxHeartbeats 1000000 in
theorem plays_room (w : World) (room : Int) (v : Value) (n : Nat) (K T : Nat → Int) (N : Nat → ByteArray) (h : Ops w v n K T N) (hf : Few n N) (hr : (room < 1 ∧ ¬ 300 < room) ∨ (¬ room < 1 ∧ 300 < room ∧ ¬ room ≤ 1024 ∧ 1024 < room)) :
    Calls Try.prog 4 #[.int .i64 room, v] w fun e w' => e = .returned (.bool true) ∧ Below w.heap.size w w' := by
  have F1 := awake4_any w
  have F2 := fun {w'} (h : Ops w' v n K T N) => few_yes h hf.1 hf.2
  have F3 := fun w => new_no room w (by omega)
  clear hf
  rcases hr with ⟨hr1, hr2⟩ | ⟨hr1, hr2, hr3, hr4⟩
  all_goals
    go_enter Try.func4, Try.ntmps4
    go_wp2_with fail
    refine F1.mono ?_
    rintro e w1 ⟨rfl, hb⟩
    go_wp2_with fail
    refine (F2 (h.below (Nat.le_refl _) hb)).mono ?_
    rintro e w2 ⟨rfl, hb2⟩
    go_wp2_with fail
    refine (F3 _).mono ?_
    rintro e w3 ⟨rfl, rfl⟩
    go_wp2_with fail
    go_ret
    exact ⟨by simp, hb.trans (hb2.mono hb.size)⟩

theorem row_slice {w : World} {v : Value} {n : Nat} {f : Nat → Value} (h : Row w v n f) : ∃ a cap, v = .slice a n cap ∧ Row w (.slice a n cap) n f := by
  obtain ⟨a, cap, rfl, h'⟩ := id h
  exact ⟨a, cap, rfl, h⟩
/-- Both rosters hold the same names, apart from each other. -/
def Both (B P Q P2 Q2 room : Nat) (w : World) : Prop :=
  ∃ S c sl L, Ros w P Q S c room sl L ∧ Ref w P2 Q2 room sl ∧ ∀ k, own P Q S k → B ≤ k ∧ k ≠ P2 ∧ k ≠ Q2
theorem Both.below {B P Q P2 Q2 room : Nat} {w w' : World} (h : Both B P Q P2 Q2 room w) (k : Below w.heap.size w w') : Both B P Q P2 Q2 room w' := by
  obtain ⟨S, c, sl, L, R, F, o⟩ := h
  exact ⟨S, c, sl, L, R.below k, F.below k, o⟩
theorem sl_one {room : Nat} {sl : Nat → ByteArray} {L : List (ByteArray × Nat)} (h : Seated room sl L) {i j : Nat} (hi : i < room) (hj : j < room) (e : sl i = sl j) (hne : sl i ≠ none4) : i = j := by
  obtain ⟨K, hK⟩ := h.place (sl i)
  have h1 := (h.found hK hi rfl hne).2.2
  have h2 := (h.found hK hj e.symm hne).2.2
  rw [h1] at h2
  exact h2
theorem name_in' {w : World} {p q c room : Nat} {S : Option Addr} {sl : Nat → ByteArray} {L : List (ByteArray × Nat)} (h : Ros w p q S c room sl L) (i : Nat) (hi : i < room) :
    Calls Try.prog 19 #[.pointer (some ⟨p, 0, none⟩), .int .i64 (i : Int)] w fun e w' => e = .returned (.tuple #[.string (sl i), .bool (!(sl i).toList.isEmpty)]) ∧ w' = w := by
  have := name_in h i hi
  rw [show decide (sl i ≠ none4) = !(sl i).toList.isEmpty by rw [empty_bytes]; simp] at this
  exact this

/-- Both Drops, in whatever order: they answer the same, and leave the same names. -/
theorem drop_both {P Q P2 Q2 c room : Nat} {S : Option Addr} {sl : Nat → ByteArray} {L : List (ByteArray × Nat)} (hs : Seated room sl L) (y : ByteArray) : ∃ (r : Int) (slX : Nat → ByteArray),
    (∀ w', Ros w' P Q S c room sl L → Calls Try.prog 15 #[.pointer (some ⟨P, 0, none⟩), .string y] w' fun e w'' => e = .returned (.int .i64 r) ∧ ∃ L', Ros w'' P Q S c room slX L' ∧ But (own P Q S) w' w'') ∧
    (∀ w', Ref w' P2 Q2 room sl → Calls Try.prog 16 #[.pointer (some ⟨P2, 0, none⟩), .string y] w' fun e w'' => e = .returned (.int .i64 r) ∧ Ref w'' P2 Q2 room slX ∧ But (fun k => k = Q2) w' w'') := by
  rcases least_ex (fun i => sl i = y ∧ y ≠ none4) room with hno | ⟨i, hi, ⟨e, hne⟩, _⟩
  · have hno' : ∀ i, i < room → sl i = y → y = none4 := fun i hi e => Decidable.byContradiction fun k => hno i hi ⟨e, k⟩
    refine ⟨42, sl, fun w' h => (drop_no h y hno').mono fun e w'' ⟨he, hb⟩ => ⟨he, L, h.below hb, But.of_below hb⟩, fun w' h => (refDrop_no h y hno').mono fun e w'' ⟨he, hw⟩ => ?_⟩
    subst hw
    exact ⟨he, h, But.refl _ _⟩
  · refine ⟨0, upd sl i none4, fun w' h => (drop_ok h y i hi e hne).mono fun e w'' h' => h', fun w' h => (refDrop_ok h y i hi e hne (fun j hj e' => absurd (sl_one hs (by omega) hi (e'.trans e.symm) (by rw [e']; exact hne)) (by omega))).mono fun e w'' ⟨he, hw⟩ => ?_⟩
    subst hw
    exact ⟨he, h.set i hi none4, But.setCell (S := fun k => k = Q2) (But.refl _ w') Q2 i _ (fun _ => rfl)⟩

set_option maxRecDepth 100000 in
set_option maxHeartbeats 20000000 in
theorem plays_main (w : World) (room : Nat) (v : Value) (n : Nat) (K T : Nat → Int) (N : Nat → ByteArray) (h : Ops w v n K T N) (hf : Few n N) (hr1 : 1 ≤ room) (hr2 : room ≤ 300) :
    Calls Try.prog 4 #[.int .i64 (room : Int), v] w fun e w' => e = .returned (.bool true) ∧ Below w.heap.size w w' := by
  have F1 := awake4_any w
  have F2 := fun {w'} (h : Ops w' v n K T N) => few_yes h hf.1 hf.2
  have F4 := fun w => new_yes room w (by omega) (by omega)
  have t1 : ¬ (room : Int) < 1 := by omega
  have t2 : ¬ (300 : Int) < (room : Int) := by omega
  have t3 : ¬ (1024 : Int) < (room : Int) := by omega
  have hmk := run_make_strs room (by omega)
  have hcell := made_str room
  obtain ⟨A, HA'⟩ : ∃ A, madeCells #[.string { data := #[] }] room = A := ⟨_, rfl⟩
  rw [HA'] at hmk hcell
  have HC : Hid (∀ i, i < room → A[i]? = some (.string none4)) := hcell
  have HS : Hid (∀ i, i < n → (N i).size ≤ 200) := hf.2
  have hn := hf.1
  clear hf HA' hcell
  go_enter Try.func4, Try.ntmps4
  go_wp2_with fail
  refine F1.mono ?_
  rintro e w1 ⟨rfl, hb⟩
  go_wp2_with fail
  refine (F2 (h.below (Nat.le_refl _) hb)).mono ?_
  rintro e w3 ⟨rfl, hb2⟩
  have B3 := hb.trans (hb2.mono hb.size)
  have z3 := B3.size
  go_wp2_with fail
  refine (F4 _).mono ?_
  rintro e w4 ⟨rfl, R4, hb4, s4⟩
  have B4 := B3.trans (hb4.mono z3)
  obtain ⟨a, cap, rfl, g1, g2, _⟩ := id h
  go_wp2_with fail
  have B5 : Below w.heap.size w ((w4.alloc (.cells A 9)).alloc (.cells #[.slice (some ⟨w3.heap.size + 2, 0, none⟩) room room] 33)) := (B4.alloc (by omega) _).alloc (by simp; omega) _
  have BB5 : Both w.heap.size (w3.heap.size + 1) w3.heap.size (w3.heap.size + 2 + 1) (w3.heap.size + 2) room ((w4.alloc (.cells A 9)).alloc (.cells #[.slice (some ⟨w3.heap.size + 2, 0, none⟩) room room] 33)) := by
    refine ⟨none, 0, fun _ => none4, [], R4.below (((Below.refl _ w4).alloc (Nat.le_refl _) _).alloc (by simp) _), ⟨?_, fun i hi => ?_, fun j => ?_, by omega, by omega, by omega⟩, fun k hk => ?_⟩
    · rw [World.cell?_alloc_at _ _ _ _ (by simp [s4])]; rfl
    · rw [World.cell?_alloc_past _ _ _ (by simp [s4]), World.cell?_alloc_at _ _ _ _ s4.symm]; exact HC.out i hi
    · rw [World.frozen?_alloc_past _ _ _ (by simp [s4]), World.frozen?_alloc_at _ _ _ _ s4.symm]
    · rcases hk with rfl | rfl | e
      · omega
      · omega
      · cases e
  generalize (w4.alloc (.cells A 9)).alloc (.cells #[.slice (some ⟨w3.heap.size + 2, 0, none⟩) room room] 33) = w5 at *
  obtain ⟨P2, hP2⟩ : ∃ P2, P2 = w3.heap.size + 2 + 1 := ⟨_, rfl⟩
  obtain ⟨Q2, hQ2⟩ : ∃ Q2, Q2 = w3.heap.size + 2 := ⟨_, rfl⟩
  obtain ⟨P, hP⟩ : ∃ P, P = w3.heap.size + 1 := ⟨_, rfl⟩
  obtain ⟨Q, hQ⟩ : ∃ Q, Q = w3.heap.size := ⟨_, rfl⟩
  have hBp : w.heap.size ≤ P2 ∧ w.heap.size ≤ Q2 := ⟨by omega, by omega⟩
  rw [← hP2, ← hQ2, ← hP, ← hQ] at BB5
  rw [← hP2, ← hP]
  clear hP2 hQ2 hP hQ R4 B4 B3 hb4 hb2 hb F1 F2 F4 HC hmk s4
  go_loopw [63] (fun i wr => ∃ k : Nat, i = .int .i64 (k : Int) ∧ k ≤ n ∧ Below w.heap.size w wr ∧ Both w.heap.size P Q P2 Q2 room wr) (fun i _ => n - (RowKit.intOf i).toNat)
  case atStart => exact ⟨0, rfl, Nat.zero_le _, B5, BB5⟩
  case round =>
    clear B5 BB5
    obtain ⟨k, rfl, hk, B, BO⟩ := hrel
    have hz := B.size
    by_cases hlt : k < n
    · have t : (k : Int) < (n : Int) := by omega
      obtain ⟨_, _, e', _, _, hops⟩ := id h
      injection e' with e1 _ e2
      subst e1 e2
      obtain ⟨⟨b, off, rfl, k0, k1, k2⟩, _, hTb, _⟩ := hops k hlt
      have hys := HS.out k hlt
      have d0 := (B.cell (World.block_lt_of_cell? _ _ k0)).trans k0
      have d1 := (B.cell (World.block_lt_of_cell? _ _ k1)).trans k1
      have d2 := (B.cell (World.block_lt_of_cell? _ _ k2)).trans k2
      clear k0 k1 k2 hops
      generalize N k = y at *
      generalize K k = x at *
      generalize T k = z at *
      have A0 : Below wr.heap.size wr (wr.alloc (.cells #[.int .i64 x, .int .i64 z, .string y] 35)) := (Below.refl _ wr).alloc (Nat.le_refl _) _
      have B0 : Below w.heap.size w (wr.alloc (.cells #[.int .i64 x, .int .i64 z, .string y] 35)) := B.alloc hz _
      have BO0 := BO.below A0
      go_upto_block 2 with fail
      go_cut [10, 11, 12, 13] from 64 to 176 (fun _ _ _ _ wx => Below w.heap.size w wx ∧ Both w.heap.size P Q P2 Q2 room wx ∧ wx.cell? ⟨wr.heap.size, 1, none⟩ = some (.int .i64 z) ∧ wx.cell? ⟨wr.heap.size, 2, none⟩ = some (.string y))
      case first =>
        obtain ⟨S, c, sl, L, R, F, o⟩ := BO
        have R0 := R.below A0
        have F0 := F.below A0
        have hob : ∀ k, own P Q S k → k ≠ wr.heap.size := fun k hk e => by have := R.there hk; omega
        have hoQ : Q2 ≠ wr.heap.size := fun e => by have := F.qthere; omega
        have c1 : (wr.alloc (.cells #[.int .i64 x, .int .i64 z, .string y] 35)).cell? ⟨wr.heap.size, 1, none⟩ = some (.int .i64 z) := by simp
        have c2 : (wr.alloc (.cells #[.int .i64 x, .int .i64 z, .string y] 35)).cell? ⟨wr.heap.size, 2, none⟩ = some (.string y) := by simp
        have hW0 : wr.heap.size < (wr.alloc (.cells #[.int .i64 x, .int .i64 z, .string y] 35)).heap.size := by simp
        generalize wr.alloc (.cells #[.int .i64 x, .int .i64 z, .string y] 35) = W0 at *
        have hsz3 : y.size ≤ 300 := by omega
        have p2t := F0.pthere
        have q2t := F0.qthere
        clear d0 d1 d2 A0 BO0 B h R F
        by_cases hx1 : x = 1
        · subst hx1
          rcases put_cases room sl y with hv' | ⟨hv', i, hi, e⟩ | ⟨hv', hno, hfu⟩ | ⟨hv', hno, i, hi, hfr, hl⟩
          · have G1 := put_name R0 y hv'
            have G2 := fun w => refPut_name (w := w) (p := P2) y hsz3 hv'
            clear hv'
            go_wp2_with fail
            refine G1.mono ?_
            rintro e w5 ⟨rfl, hb5⟩
            have e1 := (hb5.cell (p := ⟨wr.heap.size, 1, none⟩) hW0).trans c1
            have e2 := (hb5.cell (p := ⟨wr.heap.size, 2, none⟩) hW0).trans c2
            have B5 := B0.trans (hb5.mono B0.size)
            go_wp2_with fail
            refine (G2 _).mono ?_
            rintro e w6 ⟨rfl, hb6⟩
            have h5 := hb5.size
            go_wp2_with fail
            go_meet
            case rel => exact ⟨B5.trans (hb6.mono B5.size), ⟨S, c, sl, L, (R0.below hb5).below hb6, (F0.below hb5).below hb6, o⟩, (hb6.cell (p := ⟨wr.heap.size, 1, none⟩) (by simp; omega)).trans e1, (hb6.cell (p := ⟨wr.heap.size, 2, none⟩) (by simp; omega)).trans e2⟩
          · have G1 := put_twice R0 y hv' i hi e
            have G2 := fun {w'} (h : Ref w' P2 Q2 room sl) => refPut_twice h y hsz3 hv' i hi e (fun j hj e' => absurd (sl_one R0.seated (by omega) hi (e'.trans e.symm) (by rw [e']; exact vld_ne hv')) (by omega))
            clear hv' e
            go_wp2_with fail
            refine G1.mono ?_
            rintro e w5 ⟨rfl, hb5⟩
            have e1 := (hb5.cell (p := ⟨wr.heap.size, 1, none⟩) hW0).trans c1
            have e2 := (hb5.cell (p := ⟨wr.heap.size, 2, none⟩) hW0).trans c2
            have B5 := B0.trans (hb5.mono B0.size)
            go_wp2_with fail
            refine (G2 (F0.below hb5)).mono ?_
            rintro e w6 ⟨rfl, hb6⟩
            have h5 := hb5.size
            go_wp2_with fail
            go_meet
            case rel => exact ⟨B5.trans (hb6.mono B5.size), ⟨S, c, sl, L, (R0.below hb5).below hb6, (F0.below hb5).below hb6, o⟩, (hb6.cell (p := ⟨wr.heap.size, 1, none⟩) (by simp; omega)).trans e1, (hb6.cell (p := ⟨wr.heap.size, 2, none⟩) (by simp; omega)).trans e2⟩
          · have G1 := put_full R0 y hv' hno hfu
            have G2 := fun {w'} (h : Ref w' P2 Q2 room sl) => refPut_full h y hsz3 hv' hno hfu
            clear hv' hno hfu
            go_wp2_with fail
            refine G1.mono ?_
            rintro e w5 ⟨rfl, hb5⟩
            have e1 := (hb5.cell (p := ⟨wr.heap.size, 1, none⟩) hW0).trans c1
            have e2 := (hb5.cell (p := ⟨wr.heap.size, 2, none⟩) hW0).trans c2
            have B5 := B0.trans (hb5.mono B0.size)
            go_wp2_with fail
            refine (G2 (F0.below hb5)).mono ?_
            rintro e w6 ⟨rfl, hb6⟩
            have h5 := hb5.size
            go_wp2_with fail
            go_meet
            case rel => exact ⟨B5.trans (hb6.mono B5.size), ⟨S, c, sl, L, (R0.below hb5).below hb6, (F0.below hb5).below hb6, o⟩, (hb6.cell (p := ⟨wr.heap.size, 1, none⟩) (by simp; omega)).trans e1, (hb6.cell (p := ⟨wr.heap.size, 2, none⟩) (by simp; omega)).trans e2⟩
          · have G1 := put_ok R0 y hv' hno i hi hfr hl
            have G2 := fun {w'} (h : Ref w' P2 Q2 room sl) => refPut_ok h y hsz3 hv' hno i hi hfr hl
            clear hv' hno hfr hl
            go_wp2_with fail
            refine G1.mono ?_
            rintro e w5 ⟨rfl, S5, c5, L5, R5, k5, o5⟩
            have F5 := F0.kept k5 (fun hk => (o _ hk).2.1 rfl) (fun hk => (o _ hk).2.2 rfl)
            have hnob : ¬ own P Q S wr.heap.size := fun hk => hob _ hk rfl
            have e1 := (k5.cell (o := 1) hW0 hnob).trans c1
            have e2 := (k5.cell (o := 2) hW0 hnob).trans c2
            have B5 : Below w.heap.size w w5 := B0.trans (k5.below B0.size (fun k hk => (o k hk).1))
            have h5 := k5.size
            go_wp2_with fail
            refine (G2 F5).mono ?_
            rintro e w6 ⟨rfl, F6, k6⟩
            have o6 : ∀ k, own P Q S5 k → w.heap.size ≤ k ∧ k ≠ P2 ∧ k ≠ Q2 := fun k hk => by
              rcases o5 k hk with e | e
              · exact o k e
              · have := B0.size; exact ⟨by omega, by omega, by omega⟩
            have R6 := R5.kept k6 (fun k hk e => (o6 k hk).2.2 e)
            have f1 := (k6.cell (k := wr.heap.size) (o := 1) (by omega) (fun e => hoQ e.symm)).trans e1
            have f2 := (k6.cell (k := wr.heap.size) (o := 2) (by omega) (fun e => hoQ e.symm)).trans e2
            have B6 : Below w.heap.size w w6 := B5.trans (k6.below B5.size (fun k e => by rw [e]; exact hBp.2))
            clear e1 e2 G1 G2 k5 o5 F5 k6
            go_wp2_with fail
            go_meet
            case rel => exact ⟨B6, ⟨S5, c5, _, L5, R6, F6, o6⟩, f1, f2⟩
        by_cases hx2 : x = 2
        · subst hx2
          obtain ⟨r, slX, GA, GB⟩ := drop_both (P := P) (Q := Q) (P2 := P2) (Q2 := Q2) (S := S) (c := c) (L := L) R0.seated y
          have hnob : ¬ own P Q S wr.heap.size := fun hk => hob _ hk rfl
          have hnq : ¬ wr.heap.size = Q2 := fun e => hoQ e.symm
          have hpo : ¬ own P Q S P2 := fun hk => (o _ hk).2.1 rfl
          have hqo : ¬ own P Q S Q2 := fun hk => (o _ hk).2.2 rfl
          have hro : ∀ k, own P Q S k → ¬ k = Q2 := fun k hk e => (o k hk).2.2 e
          have R0d : Ros W0.drew P Q S c room sl L := R0.below (below_drewN W0 1 _)
          have F0d : Ref W0.drew P2 Q2 room sl := F0.below (below_drewN W0 1 _)
          have hBS : ∀ k, own P Q S k → w.heap.size ≤ k := fun k hk => (o k hk).1
          have hBQ : ∀ k, k = Q2 → w.heap.size ≤ k := fun k e => by rw [e]; exact hBp.2
          have B0d : Below w.heap.size w W0.drew := B0.drew
          have z0d := B0d.size
          have c1d : W0.drew.cell? ⟨wr.heap.size, 1, none⟩ = some (.int .i64 z) := c1
          have c2d : W0.drew.cell? ⟨wr.heap.size, 2, none⟩ = some (.string y) := c2
          have hW0d : wr.heap.size < W0.drew.heap.size := hW0
          clear hx1 R0 F0 B0
          go_wp2_with fail
          go_region_with (first
            | (go_at_call 15; first | (refine (GA _ R6).mono ?_; rintro e w5 ⟨rfl, L5, R5, k5⟩; have F5 := F6.kept k5 hpo hqo; have a1 := (k5.cell (o := 1) hW6 hnob).trans b1; have a2 := (k5.cell (o := 2) hW6 hnob).trans b2; have hW5 := Nat.lt_of_lt_of_le hW6 k5.size; have B5 := B6.trans (k5.below B6.size hBS)) | (refine (GA _ R0d).mono ?_; rintro e w5 ⟨rfl, L5, R5, k5⟩; have F5 := F0d.kept k5 hpo hqo; have a1 := (k5.cell (o := 1) hW0d hnob).trans c1d; have a2 := (k5.cell (o := 2) hW0d hnob).trans c2d; have hW5 := Nat.lt_of_lt_of_le hW0d k5.size; have B5 := B0d.trans (k5.below z0d hBS)))
            | (go_at_call 16; first | (refine (GB _ F5).mono ?_; rintro e w6 ⟨rfl, F6, k6⟩; have R6 := R5.kept k6 hro; have b1 := (k6.cell (o := 1) hW5 hnq).trans a1; have b2 := (k6.cell (o := 2) hW5 hnq).trans a2; have hW6 := Nat.lt_of_lt_of_le hW5 k6.size; have B6 := B5.trans (k6.below B5.size hBQ)) | (refine (GB _ F0d).mono ?_; rintro e w6 ⟨rfl, F6, k6⟩; have R6 := R0d.kept k6 hro; have b1 := (k6.cell (o := 1) hW0d hnq).trans c1d; have b2 := (k6.cell (o := 2) hW0d hnq).trans c2d; have hW6 := Nat.lt_of_lt_of_le hW0d k6.size; have B6 := B0d.trans (k6.below z0d hBQ))))
          all_goals
            go_wp2_with fail
            go_meet
            case rel => first | exact ⟨B6, ⟨S, c, slX, _, R6, F6, o⟩, b1, b2⟩ | exact ⟨B5, ⟨S, c, slX, _, R5, F5, o⟩, a1, a2⟩
        · have q1 : (x == 1) = false := beq_false_of_ne hx1
          have q2 : (x == 2) = false := beq_false_of_ne hx2
          clear hx1 hx2
          go_wp2_with fail
          go_meet
          case rel => exact ⟨B0, ⟨S, c, sl, L, R0, F0, o⟩, c1, c2⟩
      case rest =>
        obtain ⟨jB, S, c, sl, L, R, F, o⟩ := (⟨hcut.1, hcut.2.1⟩ : _ ∧ Both _ _ _ _ _ _ _)
        obtain ⟨_, _, j1, j2⟩ := hcut
        have hzc := jB.size
        clear d0 d1 d2 A0 B0 BO0 BO B h
        rcases least_ex (fun i => sl i = y ∧ y ≠ none4) room with hno | ⟨i, hi, ⟨e, hne⟩, _⟩
        · have hno' : ∀ i, i < room → sl i = y → y = none4 := fun i hi e => Decidable.byContradiction fun k => hno i hi ⟨e, k⟩
          have G1 := find_no R y hno'
          obtain ⟨na, hna, G2⟩ : ∃ na : Int, na < 0 ∧ ∀ {w'}, Ref w' P2 Q2 room sl → Calls Try.prog 18 #[.pointer (some ⟨P2, 0, none⟩), .string y] w' fun e w'' => e = .returned (.int .i64 na) ∧ w'' = w' := ⟨-1, by omega, fun h => refFind_no h y hno'⟩
          have hd : decide ((0 : Int) ≤ na) = false := decide_eq_false (by omega)
          have hmx : ∀ w ts t, (Builtin.max_ ts t #[.int .i64 na, .int .i64 0]).run Try.prog w = .ok (.int .i64 0) w := fun w ts t => by rw [run_max_int2, if_pos hna]
          clear hno hno' hna
          by_cases hzr : 0 ≤ z ∧ z < (room : Int)
          · obtain ⟨s, rfl⟩ : ∃ s : Nat, z = (s : Int) := ⟨z.toNat, by omega⟩
            have hsr : s < room := by omega
            have q1 : (s : Int) < (room : Int) := hzr.2
            have G3 := fun {w'} (h : Ros w' P Q S c room sl L) => name_in' h s hsr
            have G4 : ∀ {w'}, Ref w' P2 Q2 room sl → w'.cell? ⟨Q2, s, none⟩ = some (.string (sl s)) := fun h => h.slot s hsr
            generalize sl s = m at *
            clear hzr
            go_wp2_with fail
            refine G1.mono ?_
            rintro e w7 ⟨rfl, hb7⟩
            have R7 := R.below hb7
            have F7 := F.below hb7
            have e1 := (hb7.cell (World.block_lt_of_cell? _ _ j1)).trans j1
            have e2 := (hb7.cell (World.block_lt_of_cell? _ _ j2)).trans j2
            have B7 := jB.trans (hb7.mono hzc)
            have z7 := B7.size
            clear hb7 j1 j2 jB
            go_wp2_with fail
            refine (G2 F7).mono ?_
            rintro e w8 ⟨rfl, hw8⟩
            subst hw8
            go_wp2_with fail
            refine (G3 R7).mono ?_
            rintro e w8' ⟨rfl, hw8'⟩
            subst hw8'
            have f1 := F7.slots
            have f2 := G4 F7
            go_wp2_with fail
            go_quiet (fail)
            go_wp2_with fail
            refine (refSorted_any (F7.below (below_drewN _ nq _)) R7.seated).mono ?_
            rintro e w9 ⟨l, rfl, hb9, own9⟩
            have R8 := R7.below (below_drewN _ nq _)
            have F8 := F7.below (below_drewN _ nq _)
            have B8 := below_more B7 nq
            clear f1 f2 e1 e2 G1 G2 G3 G4
            have R9 := R8.below hb9
            have F9 := F8.below hb9
            have B9 := B8.trans (hb9.mono B8.size)
            obtain ⟨la, lcap, rfl, row9⟩ := row_slice (row_of_own own9 (fun i => .string (nmOf L i)) (fun i hi => nameCells_at hi))
            have G5 := count_any R9
            have G6 := sorted_any R9
            have hlen := R9.len
            clear hb9 own9
            go_wp2_with fail
            refine G5.mono ?_
            rintro e w10 ⟨rfl, hw10⟩
            subst hw10
            go_wp2_with fail
            refine G6.mono ?_
            rintro e w11 ⟨l2, rfl, hb11, own11⟩
            obtain ⟨lb, lcap2, rfl, row11⟩ := row_slice (row_of_own own11 (fun i => .string (nmOf L i)) (fun i hi => nameCells_at hi))
            have row9' := row9.below hb11
            have R11 := R9.below hb11
            have F11 := F9.below hb11
            have B11 := B9.trans (hb11.mono B9.size)
            have G7 := same4_yes (nmOf L) L.length _ _ _ (by omega) row11 row9'
            clear own11 hb11 row9 row11 row9' R9 F9
            go_wp2_with fail
            refine G7.mono ?_
            rintro e w12 ⟨rfl, hb12⟩
            have BF := B11.trans (hb12.mono B11.size)
            have RF := R11.below hb12
            have FF := F11.below hb12
            clear hb12
            go_wp2_with fail
            go_roundw
            case rel => exact ⟨k + 1, by simp, by omega, BF, S, c, sl, L, RF, FF, o⟩
            case measure => simp [RowKit.intOf]; omega
          · by_cases hz0 : z < 0
            · have q1 : ¬ (0 : Int) ≤ z := by omega
              have G3 := fun {w'} (h : Ros w' P Q S c room sl L) => name_out h z (.inl hz0)
              clear hzr
              go_wp2_with fail
              refine G1.mono ?_
              rintro e w7 ⟨rfl, hb7⟩
              have R7 := R.below hb7
              have F7 := F.below hb7
              have e1 := (hb7.cell (World.block_lt_of_cell? _ _ j1)).trans j1
              have e2 := (hb7.cell (World.block_lt_of_cell? _ _ j2)).trans j2
              have B7 := jB.trans (hb7.mono hzc)
              have z7 := B7.size
              clear hb7 j1 j2 jB
              go_wp2_with fail
              refine (G2 F7).mono ?_
              rintro e w8 ⟨rfl, hw8⟩
              subst hw8
              go_wp2_with fail
              refine (G3 R7).mono ?_
              rintro e w8' ⟨rfl, hw8'⟩
              subst hw8'
              go_wp2_with fail
              refine (refSorted_any F7 R7.seated).mono ?_
              rintro e w9 ⟨l, rfl, hb9, own9⟩
              have R8 := R7
              have F8 := F7
              have B8 := B7
              clear e1 e2 G1 G2 G3
              have R9 := R8.below hb9
              have F9 := F8.below hb9
              have B9 := B8.trans (hb9.mono B8.size)
              obtain ⟨la, lcap, rfl, row9⟩ := row_slice (row_of_own own9 (fun i => .string (nmOf L i)) (fun i hi => nameCells_at hi))
              have G5 := count_any R9
              have G6 := sorted_any R9
              have hlen := R9.len
              clear hb9 own9
              go_wp2_with fail
              refine G5.mono ?_
              rintro e w10 ⟨rfl, hw10⟩
              subst hw10
              go_wp2_with fail
              refine G6.mono ?_
              rintro e w11 ⟨l2, rfl, hb11, own11⟩
              obtain ⟨lb, lcap2, rfl, row11⟩ := row_slice (row_of_own own11 (fun i => .string (nmOf L i)) (fun i hi => nameCells_at hi))
              have row9' := row9.below hb11
              have R11 := R9.below hb11
              have F11 := F9.below hb11
              have B11 := B9.trans (hb11.mono B9.size)
              have G7 := same4_yes (nmOf L) L.length _ _ _ (by omega) row11 row9'
              clear own11 hb11 row9 row11 row9' R9 F9
              go_wp2_with fail
              refine G7.mono ?_
              rintro e w12 ⟨rfl, hb12⟩
              have BF := B11.trans (hb12.mono B11.size)
              have RF := R11.below hb12
              have FF := F11.below hb12
              clear hb12
              go_wp2_with fail
              go_roundw
              case rel => exact ⟨k + 1, by simp, by omega, BF, S, c, sl, L, RF, FF, o⟩
              case measure => simp [RowKit.intOf]; omega
            · have q1 : ¬ z < (room : Int) := by omega
              have G3 := fun {w'} (h : Ros w' P Q S c room sl L) => name_out h z (.inr (by omega))
              clear hzr
              go_wp2_with fail
              refine G1.mono ?_
              rintro e w7 ⟨rfl, hb7⟩
              have R7 := R.below hb7
              have F7 := F.below hb7
              have e1 := (hb7.cell (World.block_lt_of_cell? _ _ j1)).trans j1
              have e2 := (hb7.cell (World.block_lt_of_cell? _ _ j2)).trans j2
              have B7 := jB.trans (hb7.mono hzc)
              have z7 := B7.size
              clear hb7 j1 j2 jB
              go_wp2_with fail
              refine (G2 F7).mono ?_
              rintro e w8 ⟨rfl, hw8⟩
              subst hw8
              go_wp2_with fail
              refine (G3 R7).mono ?_
              rintro e w8' ⟨rfl, hw8'⟩
              subst hw8'
              go_wp2_with fail
              refine (refSorted_any F7 R7.seated).mono ?_
              rintro e w9 ⟨l, rfl, hb9, own9⟩
              have R8 := R7
              have F8 := F7
              have B8 := B7
              clear e1 e2 G1 G2 G3
              have R9 := R8.below hb9
              have F9 := F8.below hb9
              have B9 := B8.trans (hb9.mono B8.size)
              obtain ⟨la, lcap, rfl, row9⟩ := row_slice (row_of_own own9 (fun i => .string (nmOf L i)) (fun i hi => nameCells_at hi))
              have G5 := count_any R9
              have G6 := sorted_any R9
              have hlen := R9.len
              clear hb9 own9
              go_wp2_with fail
              refine G5.mono ?_
              rintro e w10 ⟨rfl, hw10⟩
              subst hw10
              go_wp2_with fail
              refine G6.mono ?_
              rintro e w11 ⟨l2, rfl, hb11, own11⟩
              obtain ⟨lb, lcap2, rfl, row11⟩ := row_slice (row_of_own own11 (fun i => .string (nmOf L i)) (fun i hi => nameCells_at hi))
              have row9' := row9.below hb11
              have R11 := R9.below hb11
              have F11 := F9.below hb11
              have B11 := B9.trans (hb11.mono B9.size)
              have G7 := same4_yes (nmOf L) L.length _ _ _ (by omega) row11 row9'
              clear own11 hb11 row9 row11 row9' R9 F9
              go_wp2_with fail
              refine G7.mono ?_
              rintro e w12 ⟨rfl, hb12⟩
              have BF := B11.trans (hb12.mono B11.size)
              have RF := R11.below hb12
              have FF := F11.below hb12
              clear hb12
              go_wp2_with fail
              go_roundw
              case rel => exact ⟨k + 1, by simp, by omega, BF, S, c, sl, L, RF, FF, o⟩
              case measure => simp [RowKit.intOf]; omega
        · have G1 := find_yes R y i hi e hne
          have G2 := fun {w'} (h : Ref w' P2 Q2 room sl) => refFind_yes h y i hi e hne (fun j hj e' => absurd (sl_one R.seated (by omega) hi (e'.trans e.symm) (by rw [e']; exact hne)) (by omega))
          have q0 : (0 : Int) ≤ (i : Int) := by omega
          clear e hne
          by_cases hzr : 0 ≤ z ∧ z < (room : Int)
          · obtain ⟨s, rfl⟩ : ∃ s : Nat, z = (s : Int) := ⟨z.toNat, by omega⟩
            have hsr : s < room := by omega
            have q1 : (s : Int) < (room : Int) := hzr.2
            have G3 := fun {w'} (h : Ros w' P Q S c room sl L) => name_in' h s hsr
            have G4 : ∀ {w'}, Ref w' P2 Q2 room sl → w'.cell? ⟨Q2, s, none⟩ = some (.string (sl s)) := fun h => h.slot s hsr
            generalize sl s = m at *
            clear hzr
            go_wp2_with fail
            refine G1.mono ?_
            rintro e w7 ⟨rfl, hb7⟩
            have R7 := R.below hb7
            have F7 := F.below hb7
            have e1 := (hb7.cell (World.block_lt_of_cell? _ _ j1)).trans j1
            have e2 := (hb7.cell (World.block_lt_of_cell? _ _ j2)).trans j2
            have B7 := jB.trans (hb7.mono hzc)
            have z7 := B7.size
            clear hb7 j1 j2 jB
            go_wp2_with fail
            refine (G2 F7).mono ?_
            rintro e w8 ⟨rfl, hw8⟩
            subst hw8
            go_wp2_with fail
            refine (G3 R7).mono ?_
            rintro e w8' ⟨rfl, hw8'⟩
            subst hw8'
            have f1 := F7.slots
            have f2 := G4 F7
            go_wp2_with fail
            go_quiet (fail)
            go_wp2_with fail
            refine (refSorted_any (F7.below (below_drewN _ nq _)) R7.seated).mono ?_
            rintro e w9 ⟨l, rfl, hb9, own9⟩
            have R8 := R7.below (below_drewN _ nq _)
            have F8 := F7.below (below_drewN _ nq _)
            have B8 := below_more B7 nq
            clear f1 f2 e1 e2 G1 G2 G3 G4
            have R9 := R8.below hb9
            have F9 := F8.below hb9
            have B9 := B8.trans (hb9.mono B8.size)
            obtain ⟨la, lcap, rfl, row9⟩ := row_slice (row_of_own own9 (fun i => .string (nmOf L i)) (fun i hi => nameCells_at hi))
            have G5 := count_any R9
            have G6 := sorted_any R9
            have hlen := R9.len
            clear hb9 own9
            go_wp2_with fail
            refine G5.mono ?_
            rintro e w10 ⟨rfl, hw10⟩
            subst hw10
            go_wp2_with fail
            refine G6.mono ?_
            rintro e w11 ⟨l2, rfl, hb11, own11⟩
            obtain ⟨lb, lcap2, rfl, row11⟩ := row_slice (row_of_own own11 (fun i => .string (nmOf L i)) (fun i hi => nameCells_at hi))
            have row9' := row9.below hb11
            have R11 := R9.below hb11
            have F11 := F9.below hb11
            have B11 := B9.trans (hb11.mono B9.size)
            have G7 := same4_yes (nmOf L) L.length _ _ _ (by omega) row11 row9'
            clear own11 hb11 row9 row11 row9' R9 F9
            go_wp2_with fail
            refine G7.mono ?_
            rintro e w12 ⟨rfl, hb12⟩
            have BF := B11.trans (hb12.mono B11.size)
            have RF := R11.below hb12
            have FF := F11.below hb12
            clear hb12
            go_wp2_with fail
            go_roundw
            case rel => exact ⟨k + 1, by simp, by omega, BF, S, c, sl, L, RF, FF, o⟩
            case measure => simp [RowKit.intOf]; omega
          · by_cases hz0 : z < 0
            · have q1 : ¬ (0 : Int) ≤ z := by omega
              have G3 := fun {w'} (h : Ros w' P Q S c room sl L) => name_out h z (.inl hz0)
              clear hzr
              go_wp2_with fail
              refine G1.mono ?_
              rintro e w7 ⟨rfl, hb7⟩
              have R7 := R.below hb7
              have F7 := F.below hb7
              have e1 := (hb7.cell (World.block_lt_of_cell? _ _ j1)).trans j1
              have e2 := (hb7.cell (World.block_lt_of_cell? _ _ j2)).trans j2
              have B7 := jB.trans (hb7.mono hzc)
              have z7 := B7.size
              clear hb7 j1 j2 jB
              go_wp2_with fail
              refine (G2 F7).mono ?_
              rintro e w8 ⟨rfl, hw8⟩
              subst hw8
              go_wp2_with fail
              refine (G3 R7).mono ?_
              rintro e w8' ⟨rfl, hw8'⟩
              subst hw8'
              go_wp2_with fail
              refine (refSorted_any F7 R7.seated).mono ?_
              rintro e w9 ⟨l, rfl, hb9, own9⟩
              have R8 := R7
              have F8 := F7
              have B8 := B7
              clear e1 e2 G1 G2 G3
              have R9 := R8.below hb9
              have F9 := F8.below hb9
              have B9 := B8.trans (hb9.mono B8.size)
              obtain ⟨la, lcap, rfl, row9⟩ := row_slice (row_of_own own9 (fun i => .string (nmOf L i)) (fun i hi => nameCells_at hi))
              have G5 := count_any R9
              have G6 := sorted_any R9
              have hlen := R9.len
              clear hb9 own9
              go_wp2_with fail
              refine G5.mono ?_
              rintro e w10 ⟨rfl, hw10⟩
              subst hw10
              go_wp2_with fail
              refine G6.mono ?_
              rintro e w11 ⟨l2, rfl, hb11, own11⟩
              obtain ⟨lb, lcap2, rfl, row11⟩ := row_slice (row_of_own own11 (fun i => .string (nmOf L i)) (fun i hi => nameCells_at hi))
              have row9' := row9.below hb11
              have R11 := R9.below hb11
              have F11 := F9.below hb11
              have B11 := B9.trans (hb11.mono B9.size)
              have G7 := same4_yes (nmOf L) L.length _ _ _ (by omega) row11 row9'
              clear own11 hb11 row9 row11 row9' R9 F9
              go_wp2_with fail
              refine G7.mono ?_
              rintro e w12 ⟨rfl, hb12⟩
              have BF := B11.trans (hb12.mono B11.size)
              have RF := R11.below hb12
              have FF := F11.below hb12
              clear hb12
              go_wp2_with fail
              go_roundw
              case rel => exact ⟨k + 1, by simp, by omega, BF, S, c, sl, L, RF, FF, o⟩
              case measure => simp [RowKit.intOf]; omega
            · have q1 : ¬ z < (room : Int) := by omega
              have G3 := fun {w'} (h : Ros w' P Q S c room sl L) => name_out h z (.inr (by omega))
              clear hzr
              go_wp2_with fail
              refine G1.mono ?_
              rintro e w7 ⟨rfl, hb7⟩
              have R7 := R.below hb7
              have F7 := F.below hb7
              have e1 := (hb7.cell (World.block_lt_of_cell? _ _ j1)).trans j1
              have e2 := (hb7.cell (World.block_lt_of_cell? _ _ j2)).trans j2
              have B7 := jB.trans (hb7.mono hzc)
              have z7 := B7.size
              clear hb7 j1 j2 jB
              go_wp2_with fail
              refine (G2 F7).mono ?_
              rintro e w8 ⟨rfl, hw8⟩
              subst hw8
              go_wp2_with fail
              refine (G3 R7).mono ?_
              rintro e w8' ⟨rfl, hw8'⟩
              subst hw8'
              go_wp2_with fail
              refine (refSorted_any F7 R7.seated).mono ?_
              rintro e w9 ⟨l, rfl, hb9, own9⟩
              have R8 := R7
              have F8 := F7
              have B8 := B7
              clear e1 e2 G1 G2 G3
              have R9 := R8.below hb9
              have F9 := F8.below hb9
              have B9 := B8.trans (hb9.mono B8.size)
              obtain ⟨la, lcap, rfl, row9⟩ := row_slice (row_of_own own9 (fun i => .string (nmOf L i)) (fun i hi => nameCells_at hi))
              have G5 := count_any R9
              have G6 := sorted_any R9
              have hlen := R9.len
              clear hb9 own9
              go_wp2_with fail
              refine G5.mono ?_
              rintro e w10 ⟨rfl, hw10⟩
              subst hw10
              go_wp2_with fail
              refine G6.mono ?_
              rintro e w11 ⟨l2, rfl, hb11, own11⟩
              obtain ⟨lb, lcap2, rfl, row11⟩ := row_slice (row_of_own own11 (fun i => .string (nmOf L i)) (fun i hi => nameCells_at hi))
              have row9' := row9.below hb11
              have R11 := R9.below hb11
              have F11 := F9.below hb11
              have B11 := B9.trans (hb11.mono B9.size)
              have G7 := same4_yes (nmOf L) L.length _ _ _ (by omega) row11 row9'
              clear own11 hb11 row9 row11 row9' R9 F9
              go_wp2_with fail
              refine G7.mono ?_
              rintro e w12 ⟨rfl, hb12⟩
              have BF := B11.trans (hb12.mono B11.size)
              have RF := R11.below hb12
              have FF := F11.below hb12
              clear hb12
              go_wp2_with fail
              go_roundw
              case rel => exact ⟨k + 1, by simp, by omega, BF, S, c, sl, L, RF, FF, o⟩
              case measure => simp [RowKit.intOf]; omega
    · obtain rfl : k = n := by omega
      have t : ¬ (k : Int) < (k : Int) := by omega
      go_wp2_with fail
      go_ret
      exact ⟨rfl, B⟩

theorem rosterPlays_walk (w : World) (room : Int) (_hr : -9223372036854775808 ≤ room ∧ room ≤ 9223372036854775807) (v : Value) (n : Nat) (K T : Nat → Int) (N : Nat → ByteArray) (h : Ops w v n K T N) :
    Calls Try.prog 4 #[.int .i64 room, v] w fun e w' => e = .returned (.bool true) ∧ Below w.heap.size w w' := by
  by_cases hf : Few n N
  · by_cases h1 : room < 1
    · exact plays_room w room v n K T N h hf (.inl ⟨h1, by omega⟩)
    · by_cases h2 : 1024 < room
      · exact plays_room w room v n K T N h hf (.inr ⟨h1, by omega, by omega, h2⟩)
      · by_cases h3 : 300 < room
        · exact plays_mid w room v n K T N h hf h3 (by omega)
        · obtain ⟨r, rfl⟩ : ∃ r : Nat, room = (r : Int) := ⟨room.toNat, by omega⟩
          exact plays_main w r v n K T N h hf (by omega) (by omega)
  · exact plays_many w room v n K T N h hf

theorem rosterPlays_own : ownKnob Try.prog.godebug = none := by kernel_rfl
theorem rosterPlays_laidOut : laidOutB Try.prog = true := by kernel_rfl
set_option maxRecDepth 100000 in
theorem rosterPlays_lifted (os : Os) (started : os.Started) (H : Type) (enc : TypeId × Value → H) :
    ReturnsInHanded {} Try.checked os 4 .any (Rows.rosterPlaysSpec.pre6 enc Try.prog Try.f4 Rows.rosterPlaysRow.domain false) (Rows.rosterPlaysSpec.post enc Try.prog Try.f4 false true false false) := by
  refine returnsInHanded_of_change (C := Try.checked) rosterPlays_own started (by kernel_rfl) Try.func4
    (ChangeSpec.witness6 (enc := enc) (C := Try.checked) false ⟨#[], #[.int .i64 0, .slice none 0 0], []⟩ 8 (by kernel_rfl) (by kernel_rfl) (by kernel_rfl) (by kernel_rfl)) ?_
  intro W base args ds gs before hval0 hW hcnd _
  have hval : ∀ (j : Nat) t v, Try.f4.params[j]? = some t → args[j]? = some v → Value.okWide Try.prog W .any base t v := hval0
  have hW' := hW
  obtain ⟨p, q, hA0, hV, rfl, hfz, hnd⟩ := hW
  have hA : DataW.TrodAll enc Try.prog W 0 (fun _ => true) true Try.f4.params.toList args.toList ds p := hA0
  rw [Try.params4] at hA hval
  obtain ⟨v0, vs0, d0, ds0, p0, q0, hargs, rfl, rfl, h0, r0⟩ := trodAll_cons hA
  obtain ⟨v1, vs1, d1, ds1, p1, q1, rfl, rfl, rfl, h1, r1⟩ := trodAll_cons r0
  obtain ⟨rfl, rfl, rfl⟩ := trodAll_nil r1
  obtain rfl : args = #[v0, v1] := by cases args; simp_all
  obtain ⟨rfl, rfl⟩ := trodVars_none hV
  obtain ⟨a0, rfl, rfl, rfl, w0⟩ := open_int Try.underlying3 (hval 0 3 v0 rfl rfl) h0
  have bd0 := bounds_i64 w0
  obtain ⟨ad1, n1, cap1, rfl⟩ := okWide_slice Try.underlying24 (hval 1 24 v1 rfl rfl)
  have k1 := h1
  have lt1 : ∀ x ∈ p1, x.block < W.heap.size := by obtain ⟨m, hm⟩ := k1; exact DataW.trod_lt m _ _ _ hm
  obtain ⟨K1, T1, N1, ops1⟩ : ∃ K T N, Ops W (.slice ad1 n1 cap1) n1 K T N := by obtain ⟨fuel, hf⟩ := h1; exact open_ops hf
  clear hA0 hval0
  simp only [List.append_nil, List.nil_append] at hW'
  refine (rosterPlays_walk W a0 bd0 _ n1 K1 T1 N1 ops1).mono fun e W' ⟨he, bel⟩ => ?_
  subst he
  exact ⟨_, rfl, _, _, _, [], _, [], hW', trodAll_mk1 (shut_bool Try.underlying4 _), (trodAll_cons_mk (shut_int Try.underlying3 w0) (trodAll_cons_mk (Below.trod rosterPlays_laidOut (by kernel_rfl) (of_decide_eq_true (by kernel_rfl)) k1 bel lt1) trodAll_mk0)), rfl, bel.frame _, fun h => by cases h⟩

/-- THE STATEMENT. -/
theorem rosterPlays_proved : Rows.RosterPlaysSaid :=
  OpenClaim.holds_of_wide 4 Try.f4 rfl rfl rfl rfl rfl rfl rfl ⟨rfl, rfl, rfl, rfl, rfl⟩ rfl rfl rfl rfl rfl (by kernel_rfl) Try.func4 (by kernel_rfl)
    (of_decide_eq_true (by kernel_rfl)) (by unfold Func.isWrapper; first | (rw [if_pos (by decide +kernel)]; kernel_rfl) | (rw [if_neg (by decide +kernel)]; exact ⟨rfl, rfl⟩))
    (fun os started H enc _ => rosterPlays_lifted os started H enc)
#print axioms rosterPlays_proved
end Go.Proofs.Ytkmjkgmkbkkfdaa
