/-
  For every number of symbols and list of steps the Go function FlowPlays, over the landed program, returns true and leaves all old memory as it was. No condition.
-/
import Derived.Test.YtkphchldoionjaaFlRef
import Derived.Test.YtkphchldoionjaaFrame25
namespace Go.Proofs.Ytkphchldoionjaa
open Go.ChangeShapes Go.WideShapes Go.ChangeAt Go.RowKit Go.Lib FL

/-- The tape at P (its totals in block g) and the document's list in block r hold the same, apart from each other; all is newer than w0. -/
structure Duo (w0 : World) (P g r n : Nat) (w : World) (T : Nat → Int) : Prop where
  tape : TapeAt w w0.heap.size P g n T
  list : IntG w r n T
  rP : r ≠ P
  rg : r ≠ g
  rB : w0.heap.size ≤ r
  bel : Below w0.heap.size w0 w
theorem Duo.below {w0 w w' : World} {P g r n : Nat} {T : Nat → Int} (D : Duo w0 P g r n w T) (k : Below w.heap.size w w') : Duo w0 P g r n w' T :=
  ⟨D.tape.below k, D.list.below k, D.rP, D.rg, D.rB, D.bel.trans (k.mono D.bel.size)⟩
theorem Duo.mid {w0 w w1 : World} {P g r n : Nat} {T : Nat → Int} (D : Duo w0 P g r n w T) {m : Nat} (k : But (fun i => i = g) (w.drewN m) w1) : IntG w1 r n T :=
  (D.list.below (below_drewN _ m w)).kept k (fun e => D.rg e)
theorem Duo.both {w0 w w5 w6 : World} {P g r n : Nat} {T T' : Nat → Int} (D : Duo w0 P g r n w T) {m : Nat} (K5 : TapeAt w5 w0.heap.size P g n T') (k5 : But (fun i => i = g) (w.drewN m) w5) (K6 : IntG w6 r n T') (k6 : But (fun i => i = r) w5 w6) : Duo w0 P g r n w6 T' := by
  have z5 : w.heap.size ≤ w5.heap.size := k5.size
  have z := D.bel.size
  refine ⟨K5.kept k6 (fun e => D.rP e.symm) (fun e => D.rg e.symm), K6, D.rP, D.rg, D.rB, ?_⟩
  exact ((below_more D.bel m).trans (k5.below z (fun i e => by have e' : i = g := e; have := D.tape.lg; omega))).trans (k6.below (Nat.le_trans z z5) (fun i e => by have e' : i = r := e; have := D.rB; omega))
set_option maxRecDepth 100000 in
set_option maxHeartbeats 1000000 in
theorem plays_many (w : World) (s : Int) (a : Option Addr) (n cap : Nat) (hn : 200 < n) :
    Calls Try.prog 3 #[.int .i64 s, .slice a n cap] w fun e w' => e = .returned (.bool true) ∧ Below w.heap.size w w' := by
  have F1 := awake25_any w
  have t : (200 : Int) < (n : Int) := by omega
  go_enter Try.func3, Try.ntmps3
  go_wp2_with fail
  refine F1.mono ?_
  rintro e w1 ⟨rfl, hb⟩
  go_wp2_with fail
  go_ret
  exact ⟨rfl, hb⟩
set_option maxRecDepth 100000 in
set_option maxHeartbeats 1000000 in
theorem plays_odd (w : World) (s : Int) (a : Option Addr) (n cap : Nat) (hn : ¬ 200 < n) (hs : s < 1 ∨ 16 < s) :
    Calls Try.prog 3 #[.int .i64 s, .slice a n cap] w fun e w' => e = .returned (.bool true) ∧ Below w.heap.size w w' := by
  have F1 := awake25_any w
  have F2 := fun w => new_out s w hs
  have t : ¬ (200 : Int) < (n : Int) := by omega
  by_cases h1 : s < 1
  · clear hs
    go_enter Try.func3, Try.ntmps3
    go_wp2_with fail
    refine F1.mono ?_
    rintro e w1 ⟨rfl, hb⟩
    go_wp2_with fail
    refine (F2 _).mono ?_
    rintro e w2 ⟨rfl, rfl⟩
    go_wp2_with fail
    go_ret
    exact ⟨by simp, hb⟩
  · have h2 : 16 < s := by omega
    clear hs
    go_enter Try.func3, Try.ntmps3
    go_wp2_with fail
    refine F1.mono ?_
    rintro e w1 ⟨rfl, hb⟩
    go_wp2_with fail
    refine (F2 _).mono ?_
    rintro e w2 ⟨rfl, rfl⟩
    go_wp2_with fail
    go_ret
    exact ⟨by simp, hb⟩
set_option maxRecDepth 100000 in
set_option maxHeartbeats 8000000 in
theorem plays_main (w : World) (n : Nat) (v : Value) (n0 : Nat) (K X : Nat → Int) (h : Pairs w v n0 K X) (hn : n0 ≤ 200) (h1 : 1 ≤ n) (h2 : n ≤ 16) :
    Calls Try.prog 3 #[.int .i64 (n : Int), v] w fun e w' => e = .returned (.bool true) ∧ Below w.heap.size w w' := by
  have F1 := awake25_any w
  have F2 := fun w' (hB : w.heap.size ≤ w'.heap.size) => new_in n w' h1 h2 w.heap.size hB
  obtain ⟨ad, cap, rfl, q1, q2, h3⟩ := h
  have H3 : Hid (∀ i, i < n0 → _) := h3
  clear h3
  have t : ¬ (200 : Int) < (n0 : Int) := by omega
  have t1 : ¬ (n : Int) < 1 := by omega
  have t2 : ¬ (16 : Int) < (n : Int) := by omega
  have hmk := run_make_ints n (by omega)
  obtain ⟨A, HA⟩ : ∃ A, Hid (madeCells #[.int .i64 0] n = A) := ⟨_, rfl⟩
  rw [HA.out] at hmk
  go_enter Try.func3, Try.ntmps3
  go_wp2_with fail
  refine F1.mono ?_
  rintro e w1 ⟨rfl, b1⟩
  go_wp2_with fail
  refine (F2 w1 b1.size).mono ?_
  rintro e w3 ⟨rfl, K3, b3, z3⟩
  have I0 : Hid (Duo w (w1.heap.size + 1) w1.heap.size w3.heap.size n (w3.alloc (.cells A 3)) (fun _ => 0)) := by
    rw [← HA.out]
    have b13 : Below w.heap.size w w3 := b1.trans (b3.mono b1.size)
    have b4 : Below w3.heap.size w3 (w3.alloc (.cells (madeCells #[.int .i64 0] n) 3)) := (Below.refl _ _).alloc (Nat.le_refl _) _
    have := b1.size
    exact ⟨K3.below b4, IntG.new _ _, by omega, by omega, by omega, b13.trans (b4.mono b13.size)⟩
  clear F1 F2 K3 b1 b3 z3
  go_upto_region 11 with fail
  generalize w3.alloc (.cells A 3) = w4 at *
  generalize w3.heap.size = r at *
  generalize w1.heap.size = g at *
  obtain ⟨P, hP⟩ : ∃ P, g + 1 = P := ⟨_, rfl⟩
  rw [hP] at I0
  rw [hP]
  clear hP HA hmk
  go_wp2_with fail
  go_loopw [44] (fun c wr => ∃ (i : Nat) (T : Nat → Int), c = .int .i64 (i : Int) ∧ i ≤ n0 ∧ Hid (Duo w P g r n wr T)) (fun c _ => n0 - (RowKit.intOf c).toNat)
  case atStart => exact ⟨0, _, rfl, Nat.zero_le _, I0.out⟩
  case round =>
    clear I0
    obtain ⟨i, T, rfl, hi, I⟩ := hrel
    by_cases hlt : i < n0
    · have t3 : (i : Int) < (n0 : Int) := by omega
      obtain ⟨⟨b1, o1, e1, y0, y1⟩, z0, z1⟩ := H3.out i hlt
      have l1 := World.block_lt_of_cell? _ _ y0
      subst e1
      replace y0 := (I.out.bel.cell (p := ⟨b1, o1 + i * 2, none⟩) l1).trans y0
      replace y1 := (I.out.bel.cell (p := ⟨b1, o1 + i * 2 + 1, none⟩) l1).trans y1
      obtain ⟨ys, hys⟩ : ∃ x1, K i = x1 := ⟨_, rfl⟩
      obtain ⟨yq, hyq⟩ : ∃ x1, X i = x1 := ⟨_, rfl⟩
      rw [hys] at y0
      rw [hyq] at y1
      clear hys hyq z0 z1
      go_upto_region 14 with fail
      have I2 : Hid (Duo w P g r n (wr.alloc (.cells #[.int .i64 ys, .int .i64 yq] 30)) T) := I.out.below ((Below.refl _ _).alloc (Nat.le_refl _) _)
      have d0 : (wr.alloc (.cells #[.int .i64 ys, .int .i64 yq] 30)).cell? ⟨wr.heap.size, 0, none⟩ = some (.int .i64 ys) := by go_simp
      have d1 : (wr.alloc (.cells #[.int .i64 ys, .int .i64 yq] 30)).cell? ⟨wr.heap.size, 1, none⟩ = some (.int .i64 yq) := by go_simp
      have nP : ¬ (wr.heap.size = g) := by have := I.out.tape.box.lt; omega
      have nQ : ¬ (wr.heap.size = r) := by have := I.out.list.lt; omega
      have lx : wr.heap.size < (wr.alloc (.cells #[.int .i64 ys, .int .i64 yq] 30)).heap.size := by simp
      generalize wr.alloc (.cells #[.int .i64 ys, .int .i64 yq] 30) = wB at *
      obtain ⟨gx, hgx⟩ : ∃ g, g = wr.heap.size := ⟨_, rfl⟩
      rw [← hgx] at d0 d1 nP nQ lx
      rw [← hgx]
      clear hgx l1 y0 y1 I
      obtain ⟨E, hE⟩ : ∃ E, prE n T ys yq = E := ⟨_, rfl⟩
      obtain ⟨T', hT'⟩ : ∃ T', prT n T ys yq = T' := ⟨_, rfl⟩
      have G1 := fun m => print_yes (I2.out.tape.below (below_drewN _ m wB)) ys yq
      have G2 := fun m w5 (k : But (fun i => i = g) (wB.drewN m) w5) => printR_any (I2.out.mid k) h2 I2.out.tape.good ys yq
      rw [hE, hT'] at G1 G2
      clear hE hT'
      go_wp2_with fail
      go_region_held3 (fun w' => w'.cell? ⟨gx, 0, none⟩ = some (.int .i64 ys) ∧ w'.cell? ⟨gx, 1, none⟩ = some (.int .i64 yq)) (go_keep) (first
        | (go_at_call 9; refine (G1 _).mono ?_; rintro e w5 ⟨rfl, K5, k5⟩; have f50 := (k5.cell (k := gx) (o := 0) lx nP).trans d0; have f51 := (k5.cell (k := gx) (o := 1) lx nP).trans d1)
        | (go_at_call 10; refine (G2 _ _ k5).mono ?_; rintro e w6 ⟨rfl, K6, k6⟩; have f60 := (k6.cell (k := gx) (o := 0) (Nat.lt_of_lt_of_le lx k5.size) nQ).trans f50; have f61 := (k6.cell (k := gx) (o := 1) (Nat.lt_of_lt_of_le lx k5.size) nQ).trans f51))
      have I6 : Hid (Duo w P g r n w6 T') := I2.out.both K5 k5 K6 k6
      clear G1 G2 K5 k5 K6 k6 I2 d0 d1 f50 f51 f60 f61 nP nQ lx
      go_wp2_with fail
      go_loopw [63] (fun c wr => ∃ j : Nat, c = .int .i64 (j : Int) ∧ j ≤ n ∧ Hid (Duo w P g r n wr T')) (fun c _ => n - (RowKit.intOf c).toNat)
      case atStart => exact ⟨0, rfl, Nat.zero_le _, I6.out⟩
      case round =>
        clear I6
        obtain ⟨j, rfl, hj, J⟩ := hrel
        by_cases hjn : j < n
        · have t4 : (j : Int) < (n : Int) := by omega
          have d := J.out.list.cell j hjn
          have G := total_yes J.out.tape (j : Int)
          rw [show toT n T' (j : Int) = T' j by unfold toT; rw [inB_yes (by omega) (by omega), if_pos rfl, Int.toNat_natCast]] at G
          obtain ⟨z, hz⟩ : ∃ z, T' j = z := ⟨_, rfl⟩
          rw [hz] at d G
          clear hz
          go_wp2_with fail
          refine G.mono ?_
          rintro e w7 ⟨rfl, rfl⟩
          go_wp2_with fail
          go_roundw
          case rel => exact ⟨j + 1, by simp, by omega, J.out⟩
          case measure => simp [RowKit.intOf]; omega
        · have t4 : ¬ (j : Int) < (n : Int) := by omega
          go_wp2_with fail
          go_roundw
          case rel => exact ⟨i + 1, T', by simp, by omega, J.out⟩
          case measure => simp [RowKit.intOf]; omega
    · have t3 : ¬ (i : Int) < (n0 : Int) := by omega
      have G1 := total_yes I.out.tape (-1)
      have G2 := total_yes I.out.tape (n : Int)
      rw [show toT n T (-1) = 0 by unfold toT; rw [inB_no (by omega)]; rfl] at G1
      rw [show toT n T (n : Int) = 0 by unfold toT; rw [inB_no (by omega)]; rfl] at G2
      have HB : Hid (Below w.heap.size w wr) := I.out.bel
      clear I
      go_wp2_with fail
      refine G1.mono ?_
      rintro e w7 ⟨rfl, rfl⟩
      go_wp2_with fail
      refine G2.mono ?_
      rintro e w7 ⟨rfl, rfl⟩
      go_wp2_with fail
      go_ret
      exact ⟨rfl, HB.out⟩
theorem flowPlays_walk (w : World) (s : Int) (_bs : -9223372036854775808 ≤ s ∧ s ≤ 9223372036854775807) (v : Value) (n0 : Nat) (K X : Nat → Int) (h : Pairs w v n0 K X) :
    Calls Try.prog 3 #[.int .i64 s, v] w fun e w' => e = .returned (.bool true) ∧ Below w.heap.size w w' := by
  obtain ⟨a, cap, rfl, q1, q2, h3⟩ := id h
  by_cases hn : 200 < n0
  · exact plays_many w s a n0 cap hn
  by_cases hs : s < 1 ∨ 16 < s
  · exact plays_odd w s a n0 cap hn hs
  obtain ⟨n, rfl⟩ : ∃ n : Nat, s = (n : Int) := ⟨s.toNat, by omega⟩
  exact plays_main w n _ n0 K X h (by omega) (by omega) (by omega)
theorem flowPlays_own : ownKnob Try.prog.godebug = none := by kernel_rfl
theorem flowPlays_laidOut : laidOutB Try.prog = true := by kernel_rfl
set_option maxRecDepth 100000 in
theorem flowPlays_lifted (os : Os) (started : os.Started) (H : Type) (enc : TypeId × Value → H) :
    ReturnsInHanded {} Try.checked os 3 .any (Rows.flowPlaysSpec.pre6 enc Try.prog Try.f3 Rows.flowPlaysRow.domain false) (Rows.flowPlaysSpec.post enc Try.prog Try.f3 false true false false) := by
  refine returnsInHanded_of_change (C := Try.checked) flowPlays_own started (by kernel_rfl) Try.func3
    (ChangeSpec.witness6 (enc := enc) (C := Try.checked) false ⟨#[], #[.int .i64 0, .slice none 0 0], []⟩ 8 (by kernel_rfl) (by kernel_rfl) (by kernel_rfl) (by kernel_rfl)) ?_
  intro W base args ds gs before hval0 hW hcnd _
  have hval : ∀ (j : Nat) t v, Try.f3.params[j]? = some t → args[j]? = some v → Value.okWide Try.prog W .any base t v := hval0
  have hW' := hW
  obtain ⟨p, q, hA0, hV, rfl, hfz, hnd⟩ := hW
  have hA : DataW.TrodAll enc Try.prog W 0 (fun _ => true) true Try.f3.params.toList args.toList ds p := hA0
  rw [Try.params3] at hA hval
  obtain ⟨v0, vs0, d0, ds0, p0, q0, hargs, rfl, rfl, h0, r0⟩ := trodAll_cons hA
  obtain ⟨v1, vs1, d1, ds1, p1, q1, rfl, rfl, rfl, h1, r1⟩ := trodAll_cons r0
  obtain ⟨rfl, rfl, rfl⟩ := trodAll_nil r1
  obtain rfl : args = #[v0, v1] := by cases args; simp_all
  obtain ⟨rfl, rfl⟩ := trodVars_none hV
  obtain ⟨a0, rfl, rfl, rfl, w0⟩ := open_int Try.underlying3 (hval 0 3 v0 rfl rfl) h0
  have bd0 := bounds_i64 w0
  obtain ⟨ad1, n1, cap1, rfl⟩ := okWide_slice Try.underlying22 (hval 1 22 v1 rfl rfl)
  have k1 := h1
  have lt1 : ∀ x ∈ p1, x.block < W.heap.size := by obtain ⟨m, hm⟩ := k1; exact DataW.trod_lt m _ _ _ hm
  obtain ⟨K1, X1, ops1⟩ : ∃ K X, Pairs W (.slice ad1 n1 cap1) n1 K X := by obtain ⟨fuel, hf⟩ := h1; exact open_pairs hf
  clear hA0 hval0
  simp only [List.append_nil, List.nil_append] at hW'
  refine (flowPlays_walk W a0 bd0 _ n1 K1 X1 ops1).mono fun e W' ⟨he, bel⟩ => ?_
  subst he
  exact ⟨_, rfl, _, _, _, [], _, [], hW', trodAll_mk1 (shut_bool Try.underlying4 _), (trodAll_cons_mk (shut_int Try.underlying3 w0) (trodAll_cons_mk (Below.trod flowPlays_laidOut (by kernel_rfl) (of_decide_eq_true (by kernel_rfl)) k1 bel lt1) trodAll_mk0)), rfl, bel.frame _, fun h => by cases h⟩

/-- THE STATEMENT. -/
theorem flowPlays_proved : Rows.FlowPlaysSaid :=
  OpenClaim.holds_of_wide 3 Try.f3 rfl rfl rfl rfl rfl rfl rfl ⟨rfl, rfl, rfl, rfl, rfl⟩ rfl rfl rfl rfl rfl (by kernel_rfl) Try.func3 (by kernel_rfl)
    (of_decide_eq_true (by kernel_rfl)) (by unfold Func.isWrapper; first | (rw [if_pos (by decide +kernel)]; kernel_rfl) | (rw [if_neg (by decide +kernel)]; exact ⟨rfl, rfl⟩))
    (fun os started H enc _ => flowPlays_lifted os started H enc)
#print axioms flowPlays_proved
end Go.Proofs.Ytkphchldoionjaa
