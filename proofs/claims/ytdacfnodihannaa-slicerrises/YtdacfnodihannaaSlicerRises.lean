/-
  SlicerRises: a target is from nothing to all, and never falls. For every ask, step and further step the Go function SlicerRises, over the landed program, returns true and leaves all old memory as it was. No condition.
-/
import Derived.Test.YtdacfnodihannaaSlRiseIdle
import Derived.Test.YtdacfnodihannaaAskCame
import Derived.Lib.MinMax
namespace Go.Proofs.Ytdacfnodihannaa
open Go.ChangeShapes Go.WideShapes Go.ChangeAt Go.RowKit Go.Lib SL

set_option maxRecDepth 100000 in
set_option maxHeartbeats 8000000 in
theorem rises_main (w : World) (k : Int) (i t c s : ByteArray) (sd q p al st en ra sh : Int) (a : Option Addr) (cap : Nat) (cz : List Int) (row : Row w (.slice a cz.length cap) cz.length fun i => .int .i64 (cz.getD i 0)) (x : Opc) (m0 m1 m2 : Int) (hf : few27 i t c s cz.length = true) (t0 : ¬ m0 < 0) (t1 : ¬ m1 < 0) (t2 : ¬ m2 < 0) (t3 : ¬ 1099511627776 < m0) (t4 : ¬ 1099511627776 < m1) (t5 : ¬ 1099511627776 < m2) (t6 : ¬ x.a < 0) (t7 : ¬ x.b < 0) (t8 : ¬ x.c < 0) (t9 : ¬ 1099511627776 < x.a) (t10 : ¬ 1152921504606846976 < x.b) (t11 : ¬ 1099511627776 < x.c) : Calls Try.prog 4 #[.agg #[.int .i64 k, .string i, .string t, .string c, .string s, .int .i64 sd, .int .i64 q, .int .i64 p, .int .i64 al, .int .i64 st, .int .i64 en, .int .i64 ra, .int .i64 sh, .slice a cz.length cap], .agg x.cells, .agg #[.int .i64 m0, .int .i64 m1, .int .i64 m2]] w fun e w' => e = .returned (.bool true) ∧ Below w.heap.size w w' := by
  have hcz : cz.length ≤ 100 := (few27_of hf).2.2.2.2
  have I0 : Hid (Inp w (((w.alloc (.cells #[.int .i64 k, .string i, .string t, .string c, .string s, .int .i64 sd, .int .i64 q, .int .i64 p, .int .i64 al, .int .i64 st, .int .i64 en, .int .i64 ra, .int .i64 sh, .slice a cz.length cap] 28)).alloc (.cells x.cells 23)).alloc (.cells #[.int .i64 m0, .int .i64 m1, .int .i64 m2] 44)) w.heap.size ⟨k, i, t, c, s, sd, q, p, al, st, en, ra, sh, cz, 0⟩ (.slice a cz.length cap) x m0 m1 m2) := inp_new w ⟨k, i, t, c, s, sd, q, p, al, st, en, ra, sh, cz, 0⟩ (.slice a cz.length cap) x m0 m1 m2 _ _ _
  have G1 := awake27_any (((w.alloc (.cells #[.int .i64 k, .string i, .string t, .string c, .string s, .int .i64 sd, .int .i64 q, .int .i64 p, .int .i64 al, .int .i64 st, .int .i64 en, .int .i64 ra, .int .i64 sh, .slice a cz.length cap] 28)).alloc (.cells x.cells 23)).alloc (.cells #[.int .i64 m0, .int .i64 m1, .int .i64 m2] 44))
  go_enter Try.func4, Try.ntmps4
  go_wp2_with fail
  refine G1.mono ?_
  rintro e w1 ⟨rfl, b1⟩
  have I1 := I0.out.more b1
  have c0 : w1.cell? ⟨w.heap.size, 0, none⟩ = some (.int .i64 k) := I1.box.cell 0 (by omega)
  have c1 : w1.cell? ⟨w.heap.size, 1, none⟩ = some (.string i) := I1.box.cell 1 (by omega)
  have c2 : w1.cell? ⟨w.heap.size, 2, none⟩ = some (.string t) := I1.box.cell 2 (by omega)
  have c3 : w1.cell? ⟨w.heap.size, 3, none⟩ = some (.string c) := I1.box.cell 3 (by omega)
  have c4 : w1.cell? ⟨w.heap.size, 4, none⟩ = some (.string s) := I1.box.cell 4 (by omega)
  have c5 : w1.cell? ⟨w.heap.size, 5, none⟩ = some (.int .i64 sd) := I1.box.cell 5 (by omega)
  have c6 : w1.cell? ⟨w.heap.size, 6, none⟩ = some (.int .i64 q) := I1.box.cell 6 (by omega)
  have c7 : w1.cell? ⟨w.heap.size, 7, none⟩ = some (.int .i64 p) := I1.box.cell 7 (by omega)
  have c8 : w1.cell? ⟨w.heap.size, 8, none⟩ = some (.int .i64 al) := I1.box.cell 8 (by omega)
  have c9 : w1.cell? ⟨w.heap.size, 9, none⟩ = some (.int .i64 st) := I1.box.cell 9 (by omega)
  have c10 : w1.cell? ⟨w.heap.size, 10, none⟩ = some (.int .i64 en) := I1.box.cell 10 (by omega)
  have c11 : w1.cell? ⟨w.heap.size, 11, none⟩ = some (.int .i64 ra) := I1.box.cell 11 (by omega)
  have c12 : w1.cell? ⟨w.heap.size, 12, none⟩ = some (.int .i64 sh) := I1.box.cell 12 (by omega)
  have c13 : w1.cell? ⟨w.heap.size, 13, none⟩ = some (.slice a cz.length cap) := I1.box.cell 13 (by omega)
  have G2 := few27_any k i t c s sd q p al st en ra sh a cz.length cap w1
  rw [hf] at G2
  clear I0 G1 b1
  go_wp2_with fail
  refine G2.mono ?_
  rintro e w2 ⟨rfl, b2⟩
  have I2 : Hid (Inp w (w2) w.heap.size ⟨k, i, t, c, s, sd, q, p, al, st, en, ra, sh, cz, 0⟩ (.slice a cz.length cap) x m0 m1 m2) := I1.more b2
  clear c0 c1 c2 c3 c4 c5 c6 c7 c8 c9 c10 c11 c12 c13 I1 G2
  have q1 := I2.out.o1
  have q2 := I2.out.o2
  have q3 := I2.out.o3
  have u0 := I2.out.s0
  have u1 := I2.out.s1
  have u2 := I2.out.s2
  have c0 : w2.cell? ⟨w.heap.size, 0, none⟩ = some (.int .i64 k) := I2.out.box.cell 0 (by omega)
  have c1 : w2.cell? ⟨w.heap.size, 1, none⟩ = some (.string i) := I2.out.box.cell 1 (by omega)
  have c2 : w2.cell? ⟨w.heap.size, 2, none⟩ = some (.string t) := I2.out.box.cell 2 (by omega)
  have c3 : w2.cell? ⟨w.heap.size, 3, none⟩ = some (.string c) := I2.out.box.cell 3 (by omega)
  have c4 : w2.cell? ⟨w.heap.size, 4, none⟩ = some (.string s) := I2.out.box.cell 4 (by omega)
  have c5 : w2.cell? ⟨w.heap.size, 5, none⟩ = some (.int .i64 sd) := I2.out.box.cell 5 (by omega)
  have c6 : w2.cell? ⟨w.heap.size, 6, none⟩ = some (.int .i64 q) := I2.out.box.cell 6 (by omega)
  have c7 : w2.cell? ⟨w.heap.size, 7, none⟩ = some (.int .i64 p) := I2.out.box.cell 7 (by omega)
  have c8 : w2.cell? ⟨w.heap.size, 8, none⟩ = some (.int .i64 al) := I2.out.box.cell 8 (by omega)
  have c9 : w2.cell? ⟨w.heap.size, 9, none⟩ = some (.int .i64 st) := I2.out.box.cell 9 (by omega)
  have c10 : w2.cell? ⟨w.heap.size, 10, none⟩ = some (.int .i64 en) := I2.out.box.cell 10 (by omega)
  have c11 : w2.cell? ⟨w.heap.size, 11, none⟩ = some (.int .i64 ra) := I2.out.box.cell 11 (by omega)
  have c12 : w2.cell? ⟨w.heap.size, 12, none⟩ = some (.int .i64 sh) := I2.out.box.cell 12 (by omega)
  have c13 : w2.cell? ⟨w.heap.size, 13, none⟩ = some (.slice a cz.length cap) := I2.out.box.cell 13 (by omega)
  have row2 := row.below I2.out.bel
  have gB : Hid (Box (w2.alloc (.cells #[.int .i64 k, .string i, .string t, .string c, .string s, .int .i64 sd, .int .i64 q, .int .i64 p, .int .i64 al, .int .i64 st, .int .i64 en, .int .i64 ra, .int .i64 sh, .slice a cz.length cap] 28)) w2.heap.size (oF ⟨k, i, t, c, s, sd, q, p, al, st, en, ra, sh, cz, 0⟩ (.slice a cz.length cap))) := box_new w2 ⟨k, i, t, c, s, sd, q, p, al, st, en, ra, sh, cz, 0⟩ _ _
  have bE : Below w2.heap.size w2 ((w2.alloc (.cells #[.int .i64 k, .string i, .string t, .string c, .string s, .int .i64 sd, .int .i64 q, .int .i64 p, .int .i64 al, .int .i64 st, .int .i64 en, .int .i64 ra, .int .i64 sh, .slice a cz.length cap] 28)).alloc (.cells #[] 3)) := ((Below.refl _ w2).alloc (Nat.le_refl _) _).alloc (by simp) _
  have s2 : Hid (w.heap.size + 3 ≤ w2.heap.size) := Nat.succ_le_of_lt (World.block_lt_of_cell? _ _ u0)
  have d13 : ((w2.alloc (.cells #[.int .i64 k, .string i, .string t, .string c, .string s, .int .i64 sd, .int .i64 q, .int .i64 p, .int .i64 al, .int .i64 st, .int .i64 en, .int .i64 ra, .int .i64 sh, .slice a cz.length cap] 28)).alloc (.cells #[] 3)).cell? ⟨w.heap.size, 13, none⟩ = some (.slice a cz.length cap) := (bE.cell (p := ⟨w.heap.size, 13, none⟩) (World.block_lt_of_cell? _ _ c13)).trans c13
  have hE : Hid (((w2.alloc (.cells #[.int .i64 k, .string i, .string t, .string c, .string s, .int .i64 sd, .int .i64 q, .int .i64 p, .int .i64 al, .int .i64 st, .int .i64 en, .int .i64 ra, .int .i64 sh, .slice a cz.length cap] 28)).alloc (.cells #[] 3)).ownsRow (w2.heap.size + 1) 3 1 (.slice (some ⟨w2.heap.size + 1, 0, none⟩) 0 0) 0 []) := by
    have h := World.ownsRow_made (base := w2.heap.size + 1) (size := 1) (w2.alloc (.cells #[.int .i64 k, .string i, .string t, .string c, .string s, .int .i64 sd, .int .i64 q, .int .i64 p, .int .i64 al, .int .i64 st, .int .i64 en, .int .i64 ra, .int .i64 sh, .slice a cz.length cap] 28)) (e := 3) #[] 0 (by simp) (Nat.zero_le _) rfl
    simp only [World.size_alloc] at h
    exact h
  go_wp2_with (at_builtin; refine wpList_append_z rfl _ _ rfl (w2.heap.size + 1) _ _ cz rfl rfl hE.out (row2.below bE) ?qa ?qb ?_)
  case qa => omega
  case qb => simp only [World.size_alloc]; omega
  intro v' w3 hown hgrow
  obtain ⟨a', c', rfl⟩ := own_shape hown
  have b3 : Below (w2.heap.size + 1) (w2.alloc (.cells #[.int .i64 k, .string i, .string t, .string c, .string s, .int .i64 sd, .int .i64 q, .int .i64 p, .int .i64 al, .int .i64 st, .int .i64 en, .int .i64 ra, .int .i64 sh, .slice a cz.length cap] 28)) w3 := ((Below.refl _ (w2.alloc (.cells #[.int .i64 k, .string i, .string t, .string c, .string s, .int .i64 sd, .int .i64 q, .int .i64 p, .int .i64 al, .int .i64 st, .int .i64 en, .int .i64 ra, .int .i64 sh, .slice a cz.length cap] 28))).alloc (by simp) _).grown hgrow (by simp) (by intro k hk; simp [Value.ownBlock] at hk; omega)
  have b3' : Below (w2.alloc (.cells #[.int .i64 k, .string i, .string t, .string c, .string s, .int .i64 sd, .int .i64 q, .int .i64 p, .int .i64 al, .int .i64 st, .int .i64 en, .int .i64 ra, .int .i64 sh, .slice a cz.length cap] 28)).heap.size (w2.alloc (.cells #[.int .i64 k, .string i, .string t, .string c, .string s, .int .i64 sd, .int .i64 q, .int .i64 p, .int .i64 al, .int .i64 st, .int .i64 en, .int .i64 ra, .int .i64 sh, .slice a cz.length cap] 28)) w3 := by rw [World.size_alloc]; exact b3
  have Q3 := gB.out.below b3'
  have e13 : w3.cell? ⟨w2.heap.size, 13, none⟩ = some (.slice a cz.length cap) := Q3.cell 13 (by omega)
  have z := Q3.fz
  have l3 : w2.heap.size + 1 ≤ w3.heap.size := Q3.lt
  obtain ⟨V, hV⟩ : ∃ V, w3.setCell ⟨w2.heap.size, 13, none⟩ (.slice a' cz.length c') = V := ⟨_, rfl⟩
  have kV : But (fun k => k = w2.heap.size) w3 V := hV ▸ (But.refl (fun k => k = w2.heap.size) w3).setCell _ _ _ (fun _ => rfl)
  have QV : Hid (Box V w2.heap.size (oF ⟨k, i, t, c, s, sd, q, p, al, st, en, ra, sh, cz, 0⟩ (.slice a' cz.length c'))) := (hV ▸ Q3.set (i := 13) (by omega) (.slice a' cz.length c') : Box V w2.heap.size (upd (oF ⟨k, i, t, c, s, sd, q, p, al, st, en, ra, sh, cz, 0⟩ (.slice a cz.length cap)) 13 (.slice a' cz.length c'))).same fun j hj => by
    rcases (show j = 0 ∨ j = 1 ∨ j = 2 ∨ j = 3 ∨ j = 4 ∨ j = 5 ∨ j = 6 ∨ j = 7 ∨ j = 8 ∨ j = 9 ∨ j = 10 ∨ j = 11 ∨ j = 12 ∨ j = 13 by omega) with rfl | rfl | rfl | rfl | rfl | rfl | rfl | rfl | rfl | rfl | rfl | rfl | rfl | rfl <;> rfl
  have g0 : V.cell? ⟨w2.heap.size, 0, none⟩ = some (.int .i64 k) := QV.out.cell 0 (by omega)
  have g1 : V.cell? ⟨w2.heap.size, 1, none⟩ = some (.string i) := QV.out.cell 1 (by omega)
  have g2 : V.cell? ⟨w2.heap.size, 2, none⟩ = some (.string t) := QV.out.cell 2 (by omega)
  have g3 : V.cell? ⟨w2.heap.size, 3, none⟩ = some (.string c) := QV.out.cell 3 (by omega)
  have g4 : V.cell? ⟨w2.heap.size, 4, none⟩ = some (.string s) := QV.out.cell 4 (by omega)
  have g5 : V.cell? ⟨w2.heap.size, 5, none⟩ = some (.int .i64 sd) := QV.out.cell 5 (by omega)
  have g6 : V.cell? ⟨w2.heap.size, 6, none⟩ = some (.int .i64 q) := QV.out.cell 6 (by omega)
  have g7 : V.cell? ⟨w2.heap.size, 7, none⟩ = some (.int .i64 p) := QV.out.cell 7 (by omega)
  have g8 : V.cell? ⟨w2.heap.size, 8, none⟩ = some (.int .i64 al) := QV.out.cell 8 (by omega)
  have g9 : V.cell? ⟨w2.heap.size, 9, none⟩ = some (.int .i64 st) := QV.out.cell 9 (by omega)
  have g10 : V.cell? ⟨w2.heap.size, 10, none⟩ = some (.int .i64 en) := QV.out.cell 10 (by omega)
  have g11 : V.cell? ⟨w2.heap.size, 11, none⟩ = some (.int .i64 ra) := QV.out.cell 11 (by omega)
  have g12 : V.cell? ⟨w2.heap.size, 12, none⟩ = some (.int .i64 sh) := QV.out.cell 12 (by omega)
  have g13 : V.cell? ⟨w2.heap.size, 13, none⟩ = some (.slice a' cz.length c') := QV.out.cell 13 (by omega)
  have bV : Below w2.heap.size w2 V := (((Below.refl _ w2).alloc (Nat.le_refl _) _).trans (b3.mono (by omega))).trans (kV.below (by omega) (fun i e => by omega))
  have IV : Hid (Inp w (V) w.heap.size ⟨k, i, t, c, s, sd, q, p, al, st, en, ra, sh, cz, 0⟩ (.slice a cz.length cap) x m0 m1 m2) := I2.out.more bV
  have ownV : Hid (V.ownsRow (w2.heap.size + 1) 3 1 (.slice a' cz.length c') cz.length (valsZ cz)) := own_kept hown kV (fun g hg e => by have := (own_base hown hg).1; omega)
  clear I2 gB bE hE row2 hown hgrow b3 b3' Q3 kV bV q1 q2 q3 u0 u1 u2 d13 b2 c0 c1 c2 c3 c4 c5 c6 c7 c8 c9 c10 c11 c12 c13
  cases hn : newB ⟨k, i, t, c, s, sd, q, p, al, st, en, ra, sh, cz, 0⟩
  · have N1 : Calls Try.prog 14 #[.agg #[.int .i64 k, .string i, .string t, .string c, .string s, .int .i64 sd, .int .i64 q, .int .i64 p, .int .i64 al, .int .i64 st, .int .i64 en, .int .i64 ra, .int .i64 sh, .slice a' cz.length c'], .int .i64 0] V fun e w' => e = .returned (.tuple #[.pointer none, .int .i64 2]) ∧ Below V.heap.size V w' := new_bad ⟨k, i, t, c, s, sd, q, p, al, st, en, ra, sh, cz, 0⟩ a' c' V (row_of_ownZ ownV.out) hn
    clear ownV QV hn
    go_wp2_with fail
    refine N1.mono ?_
    rintro e w7 ⟨rfl, b7⟩
    have I7 : Hid (Inp w (w7) w.heap.size ⟨k, i, t, c, s, sd, q, p, al, st, en, ra, sh, cz, 0⟩ (.slice a cz.length cap) x m0 m1 m2) := IV.out.more b7
    clear IV b7
    go_wp2_with fail
    go_ret
    exact ⟨rfl, I7.out.bel⟩
  have N1 : Calls Try.prog 14 #[.agg #[.int .i64 k, .string i, .string t, .string c, .string s, .int .i64 sd, .int .i64 q, .int .i64 p, .int .i64 al, .int .i64 st, .int .i64 en, .int .i64 ra, .int .i64 sh, .slice a' cz.length c'], .int .i64 0] V fun e w' => ∃ P v, e = .returned (.tuple #[.pointer (some ⟨P, 0, none⟩), .int .i64 0]) ∧ SlAt w' V.heap.size P v ⟨k, i, t, c, s, sd, q, p, al, st, en, ra, sh, cz, 0⟩ ∧ Below V.heap.size V w' := new_good ⟨k, i, t, c, s, sd, q, p, al, st, en, ra, sh, cz, 0⟩ a' c' V (row_of_ownZ ownV.out) hn
  go_wp2_with fail
  refine N1.mono ?_
  rintro e w7 ⟨P, vz, rfl, K7, b7⟩
  have L7 : Hid (Lp w w2 V w7 P vz ⟨k, i, t, c, s, sd, q, p, al, st, en, ra, sh, cz, 0⟩ (.slice a cz.length cap) a' c' x m0 m1 m2) := lp_new s2.out IV.out ownV.out ((QV.out.below b7).cell 13 (by omega)) K7 b7
  have hq1 := (good_of hn).q1
  have Gd := good_of hn
  clear N1 IV QV ownV K7 b7 g0 g1 g2 g3 g4 g5 g6 g7 g8 g9 g10 g11 g12 g13 hV e13 z
  have c13 := L7.out.c13
  go_wp2_with fail
  go_loopw [99] (fun lc wr => ∃ j : Nat, lc = .int .i64 (j : Int) ∧ j ≤ cz.length ∧ Hid (Lp w w2 V wr P vz ⟨k, i, t, c, s, sd, q, p, al, st, en, ra, sh, cz, 0⟩ (.slice a cz.length cap) a' c' x m0 m1 m2)) (fun lc _ => cz.length - (RowKit.intOf lc).toNat)
  case atStart => exact ⟨0, rfl, by omega, L7.out⟩
  case round =>
    clear L7 c13
    obtain ⟨j, rfl, hj, L⟩ := hrel
    by_cases hlt : j < cz.length
    · obtain ⟨g, rfl⟩ := L.out.some (show 0 < cz.length by omega)
      obtain ⟨W1, l1, l2⟩ := L.out.wr g rfl
      have c13 := L.out.c13
      obtain ⟨u, hu⟩ := W1.cell j hlt
      have hz := W1.fz j
      have d0 : (j : Int) < (cz.length : Int) := by omega
      have d1 : (0 : Int) ≤ (j : Int) := by omega
      have L' : Hid (Lp w w2 V (wr.setCell ⟨g, j, none⟩ (.int .i64 0)) P vz ⟨k, i, t, c, s, sd, q, p, al, st, en, ra, sh, cz, 0⟩ (.slice a cz.length cap) (some ⟨g, 0, none⟩) c' x m0 m1 m2) := L.out.set rfl j _
      clear L W1
      go_wp2_with fail
      go_roundw
      case rel => exact ⟨j + 1, by simp, by omega, L'.out⟩
      case measure => simp [RowKit.intOf]; omega
    · have d0 : ¬ (j : Int) < (cz.length : Int) := by omega
      have q1 := L.out.inp.o1
      have q2 := L.out.inp.o2
      have q3 := L.out.inp.o3
      have T1 := target_yes L.out.sl x.a x.b x.c
      cases ha : askB ⟨k, i, t, c, s, sd, q, p, al, st, en, ra, sh, cz, 0⟩ x.a x.b x.c
      · obtain ⟨e1, e2⟩ := tg_wrong ha
        rw [e1, e2] at T1
        have HB : Hid (Below w.heap.size w wr) := L.out.inp.bel
        clear e1 e2 ha L Gd hq1
        go_wp2_with fail
        refine T1.mono ?_
        rintro e w8 ⟨rfl, b8⟩
        go_wp2_with fail
        go_ret
        exact ⟨rfl, HB.out.trans (b8.mono HB.out.size)⟩
      have hE : ∀ {n v d : Int}, askB ⟨k, i, t, c, s, sd, q, p, al, st, en, ra, sh, cz, 0⟩ n v d = true → tgE ⟨k, i, t, c, s, sd, q, p, al, st, en, ra, sh, cz, 0⟩ n v d = 0 := fun h => by unfold tgE; rw [h]; rfl
      have bd := tg_bd Gd ha
      have hq : q ≤ 1099511627776 := Gd.q2
      obtain ⟨_, _, hc0, hc1⟩ := ask_of ha
      have ha2 : askB ⟨k, i, t, c, s, sd, q, p, al, st, en, ra, sh, cz, 0⟩ (min (x.a + m0) 1099511627776) (x.b + m1) (min (x.c + m2) q) = true := of_ask (by omega) (show 0 ≤ x.b + m1 ∧ _ by omega) (show _ ∧ min (x.c + m2) q ≤ q by omega)
      have bd2 := tg_bd Gd ha2
      have up := tg_mono Gd ha ha2 (by omega) (by omega) (show x.c ≤ min (x.c + m2) q by have : x.c ≤ q := hc1; omega)
      have T2 : ∀ w8 o, Below wr.heap.size wr w8 → Calls Try.prog 6 #[.pointer (some ⟨P, 0, none⟩), .int .i64 (min (x.a + m0) 1099511627776), .int .i64 (x.b + m1), .int .i64 (min (x.c + m2) q)] (w8.alloc o) fun e w' => e = .returned (.tuple #[.int .i64 (tgN ⟨k, i, t, c, s, sd, q, p, al, st, en, ra, sh, cz, 0⟩ (min (x.a + m0) 1099511627776) (x.b + m1) (min (x.c + m2) q)), .int .i64 (tgE ⟨k, i, t, c, s, sd, q, p, al, st, en, ra, sh, cz, 0⟩ (min (x.a + m0) 1099511627776) (x.b + m1) (min (x.c + m2) q))]) ∧ Below (w8.alloc o).heap.size (w8.alloc o) w' :=
        fun w8 o b => target_yes ((L.out.sl.below b).below ((Below.refl _ w8).alloc (Nat.le_refl _) o)) _ _ _
      rw [hE ha] at T1
      simp only [hE ha2] at T2
      have bd' : 0 ≤ tgN ⟨k, i, t, c, s, sd, q, p, al, st, en, ra, sh, cz, 0⟩ x.a x.b x.c ∧ tgN ⟨k, i, t, c, s, sd, q, p, al, st, en, ra, sh, cz, 0⟩ x.a x.b x.c ≤ q := bd
      have bd2' : tgN ⟨k, i, t, c, s, sd, q, p, al, st, en, ra, sh, cz, 0⟩ (min (x.a + m0) 1099511627776) (x.b + m1) (min (x.c + m2) q) ≤ q := bd2.2
      generalize tgN ⟨k, i, t, c, s, sd, q, p, al, st, en, ra, sh, cz, 0⟩ x.a x.b x.c = N at *
      generalize tgN ⟨k, i, t, c, s, sd, q, p, al, st, en, ra, sh, cz, 0⟩ (min (x.a + m0) 1099511627776) (x.b + m1) (min (x.c + m2) q) = M at *
      have n0 : ¬ N < 0 := by omega
      have n1 : ¬ q < N := by omega
      have n2 : N ≤ M := up
      have w1' : wrap64 (x.a + m0) = x.a + m0 := FL.wrap_in _ (by omega) (by omega)
      have w2' : wrap64 (x.b + m1) = x.b + m1 := FL.wrap_in _ (by omega) (by omega)
      have w3' : wrap64 (x.c + m2) = x.c + m2 := FL.wrap_in _ (by omega) (by omega)
      have IN : Hid (Inp w (wr) w.heap.size ⟨k, i, t, c, s, sd, q, p, al, st, en, ra, sh, cz, 0⟩ (.slice a cz.length cap) x m0 m1 m2) := L.out.inp
      clear L Gd hq1 ha ha2 hE bd bd2 up
      go_wp2_with fail
      refine T1.mono ?_
      rintro e w8 ⟨rfl, b8⟩
      have I8 : Hid (Inp w (w8) w.heap.size ⟨k, i, t, c, s, sd, q, p, al, st, en, ra, sh, cz, 0⟩ (.slice a cz.length cap) x m0 m1 m2) := IN.out.more b8
      have T3 := fun o => T2 w8 o b8
      have v6 : w8.cell? ⟨w.heap.size, 6, none⟩ = some (.int .i64 q) := I8.out.box.cell 6 (by omega)
      have v1 := I8.out.o1
      have v2 := I8.out.o2
      have v3 := I8.out.o3
      have y0 := I8.out.s0
      have y1 := I8.out.s1
      have y2 := I8.out.s2
      clear IN T1 T2 q1 q2 q3 b8
      go_wp2_with fail
      refine (T3 _).mono ?_
      rintro e w9 ⟨rfl, b9⟩
      have HB : Hid (Below w.heap.size w w9) := (I8.out.bel.alloc I8.out.bel.size _).trans (b9.mono (by have := I8.out.bel.size; simp only [World.size_alloc]; omega))
      have b9' : Below w8.heap.size w8 w9 := ((Below.refl _ w8).alloc (Nat.le_refl _) _).trans (b9.mono (by simp))
      have v6 : w9.cell? ⟨w.heap.size, 6, none⟩ = some (.int .i64 q) := (b9'.cell (p := ⟨w.heap.size, 6, none⟩) (World.block_lt_of_cell? _ _ v6)).trans v6
      clear T3 I8 b9 b9'
      go_wp2_with fail
      go_ret
      exact ⟨by simp, HB.out⟩
theorem slicerRises_walk (w : World) (k : Int) (i t c s : ByteArray) (sd q p al st en ra sh : Int) (a : Option Addr) (cap : Nat) (cz : List Int) (row : Row w (.slice a cz.length cap) cz.length fun i => .int .i64 (cz.getD i 0)) (x : Opc) (_ : x.fit) (m0 : Int) (_ : -9223372036854775808 ≤ m0 ∧ m0 ≤ 9223372036854775807) (m1 : Int) (_ : -9223372036854775808 ≤ m1 ∧ m1 ≤ 9223372036854775807) (m2 : Int) (_ : -9223372036854775808 ≤ m2 ∧ m2 ≤ 9223372036854775807) : Calls Try.prog 4 #[.agg #[.int .i64 k, .string i, .string t, .string c, .string s, .int .i64 sd, .int .i64 q, .int .i64 p, .int .i64 al, .int .i64 st, .int .i64 en, .int .i64 ra, .int .i64 sh, .slice a cz.length cap], .agg x.cells, .agg #[.int .i64 m0, .int .i64 m1, .int .i64 m2]] w fun e w' => e = .returned (.bool true) ∧ Below w.heap.size w w' := by
  cases hf : few27 i t c s cz.length
  · exact rises_few w k i t c s sd q p al st en ra sh a cap cz x m0 m1 m2 hf
  by_cases hi : m0 < 0 ∨ m1 < 0 ∨ m2 < 0 ∨ 1099511627776 < m0 ∨ 1099511627776 < m1 ∨ 1099511627776 < m2 ∨ x.a < 0 ∨ x.b < 0 ∨ x.c < 0 ∨ 1099511627776 < x.a ∨ 1152921504606846976 < x.b ∨ 1099511627776 < x.c
  · exact rises_idle w k i t c s sd q p al st en ra sh a cap cz x m0 m1 m2 hf hi
  · exact rises_main w k i t c s sd q p al st en ra sh a cap cz row x m0 m1 m2 hf (by omega) (by omega) (by omega) (by omega) (by omega) (by omega) (by omega) (by omega) (by omega) (by omega) (by omega) (by omega)
theorem slicerRises_own : ownKnob Try.prog.godebug = none := by kernel_rfl
theorem slicerRises_laidOut : laidOutB Try.prog = true := by kernel_rfl
set_option maxRecDepth 100000 in
theorem slicerRises_lifted (os : Os) (started : os.Started) (H : Type) (enc : TypeId × Value → H) :
    ReturnsInHanded {} Try.checked os 4 .any (Rows.slicerRisesSpec.pre6 enc Try.prog Try.f4 Rows.slicerRisesRow.domain false) (Rows.slicerRisesSpec.post enc Try.prog Try.f4 false true false false) := by
  refine returnsInHanded_of_change (C := Try.checked) slicerRises_own started (by kernel_rfl) Try.func4
    (ChangeSpec.witness6 (enc := enc) (C := Try.checked) false ⟨#[], #[.agg #[.int .i64 0, .string ⟨#[]⟩, .string ⟨#[]⟩, .string ⟨#[]⟩, .string ⟨#[]⟩, .int .i64 0, .int .i64 0, .int .i64 0, .int .i64 0, .int .i64 0, .int .i64 0, .int .i64 0, .int .i64 0, .slice none 0 0], .agg #[.int .i64 0, .int .i64 0, .int .i64 0, .int .i64 0, .int .i64 0], .agg #[.int .i64 0, .int .i64 0, .int .i64 0]], []⟩ 8 (by kernel_rfl) (by kernel_rfl) (by kernel_rfl) (by kernel_rfl)) ?_
  intro W base args ds gs before hval0 hW hcnd _
  have hval : ∀ (j : Nat) t v, Try.f4.params[j]? = some t → args[j]? = some v → Value.okWide Try.prog W .any base t v := hval0
  have hW' := hW
  obtain ⟨p, q, hA0, hV, rfl, hfz, hnd⟩ := hW
  have hA : DataW.TrodAll enc Try.prog W 0 (fun _ => true) true Try.f4.params.toList args.toList ds p := hA0
  rw [Try.params4] at hA hval
  obtain ⟨v0, vs0, d0, ds0, p0, q0, hargs, rfl, rfl, h0, r0⟩ := trodAll_cons hA
  obtain ⟨v1, vs1, d1, ds1, p1, q1, rfl, rfl, rfl, h1, r1⟩ := trodAll_cons r0
  obtain ⟨v2, vs2, d2, ds2, p2, q2, rfl, rfl, rfl, h2, r2⟩ := trodAll_cons r1
  obtain ⟨rfl, rfl, rfl⟩ := trodAll_nil r2
  obtain rfl : args = #[v0, v1, v2] := by cases args; simp_all
  obtain ⟨rfl, rfl⟩ := trodVars_none hV
  have k0 := h0
  have lt0 : ∀ x ∈ p0, x.block < W.heap.size := by obtain ⟨m, hm⟩ := k0; exact DataW.trod_lt m _ _ _ hm
  obtain ⟨k, i, t, c, s, sd, q, p, al, st, en, ra, sh, a, cap, cz, rfl, row⟩ := open_ask (hval 0 28 v0 rfl rfl) h0
  have k1 := h1
  have lt1 : ∀ x ∈ p1, x.block < W.heap.size := by obtain ⟨m, hm⟩ := k1; exact DataW.trod_lt m _ _ _ hm
  obtain ⟨x1, rfl, ft1⟩ := SL.open_op (hval 1 23 v1 rfl rfl) h1
  obtain ⟨f20, f21, f22, y20, y21, y22, m2, rfl, rfl, rfl, g20, g21, g22⟩ := Joins.open_agg3 Try.underlying44 (by kernel_rfl) (by kernel_rfl) (hval 2 44 v2 rfl rfl) h2
  obtain ⟨x2, ex2, rfl, wx2⟩ := DataW.trod_int Try.underlying3 g20
  obtain ⟨y2, ey2, rfl, wy2⟩ := DataW.trod_int Try.underlying3 g21
  obtain ⟨z2, ez2, rfl, wz2⟩ := DataW.trod_int Try.underlying3 g22
  simp only [List.cons.injEq, and_true] at ex2 ey2 ez2
  subst ex2 ey2 ez2
  have bx2 := bounds_i64 wx2
  have by2 := bounds_i64 wy2
  have bz2 := bounds_i64 wz2
  clear hA0 hval0
  simp only [List.append_nil] at hW'
  refine (slicerRises_walk W k i t c s sd q p al st en ra sh a cap cz row x1 ft1 x2 bx2 y2 by2 z2 bz2).mono fun e W' ⟨he, bel⟩ => ?_
  subst he
  exact ⟨_, rfl, _, _, _, [], _, [], hW', trodAll_mk1 (shut_bool Try.underlying4 _), (trodAll_cons_mk (Below.trod slicerRises_laidOut (by kernel_rfl) (of_decide_eq_true (by kernel_rfl)) k0 bel lt0) (trodAll_cons_mk (Below.trod slicerRises_laidOut (by kernel_rfl) (of_decide_eq_true (by kernel_rfl)) k1 bel lt1) (trodAll_cons_mk (Joins.shut_agg3 (P := Try.prog) (y0 := (.lit (.int .i64 x2), [])) (y1 := (.lit (.int .i64 y2), [])) (y2 := (.lit (.int .i64 z2), [])) Try.underlying44 (by kernel_rfl) (by kernel_rfl) ⟨1, by simp [DataW.trod, Try.underlying3, wx2]⟩ ⟨1, by simp [DataW.trod, Try.underlying3, wy2]⟩ ⟨1, by simp [DataW.trod, Try.underlying3, wz2]⟩) trodAll_mk0))), rfl, bel.frame _, fun h => by cases h⟩

/-- THE STATEMENT. -/
theorem slicerRises_proved : Rows.SlicerRisesSaid :=
  OpenClaim.holds_of_wide 4 Try.f4 rfl rfl rfl rfl rfl rfl rfl ⟨rfl, rfl, rfl, rfl, rfl⟩ rfl rfl rfl rfl rfl (by kernel_rfl) Try.func4 (by kernel_rfl)
    (of_decide_eq_true (by kernel_rfl)) (by unfold Func.isWrapper; first | (rw [if_pos (by decide +kernel)]; kernel_rfl) | (rw [if_neg (by decide +kernel)]; exact ⟨rfl, rfl⟩))
    (fun os started H enc _ => slicerRises_lifted os started H enc)
#print axioms slicerRises_proved
end Go.Proofs.Ytdacfnodihannaa
