/-
  PositionPlays: every play of executions, and of those that are taken back, is the document's. For all numbers of accounts and symbols and every list of executions, no condition.
-/
import Derived.Test.YtbmmokdccfajmaaPoLawTold
import Derived.Test.YtbmmokdccfajmaaPoTwo
namespace Go.Proofs.Ytbmmokdccfajmaa
open Go.ChangeShapes Go.WideShapes Go.ChangeAt Go.RowKit Go.Deep Go.WideElems Go.Lib PO

/-- Positions at block n1 beside the document's list, newer than they are. -/
structure Du (w wr : World) (n1 base : Nat) (b : Pk) (al : Option Addr) (m lc : Nat) (X : Nat → Ex) (nA nS : Nat) : Prop where
  bel : Below w.heap.size w wr
  kp : PosAt wr n1 b
  own : OwnE wr base (.slice al m lc) m X
  nil : m = 0 → Value.slice al m lc = .slice none 0 0
  rel : Rel b X m
  hA : b.nA = nA
  hS : b.nS = nS
  o1 : w.heap.size ≤ n1
  o2 : n1 + 2 + nA ≤ base
  o3 : base ≤ wr.heap.size
theorem Du.below {w wr wx : World} {n1 base : Nat} {b : Pk} {al : Option Addr} {m lc : Nat} {X : Nat → Ex} {nA nS : Nat} (h : Du w wr n1 base b al m lc X nA nS) (x : Below wr.heap.size wr wx) : Du w wx n1 base b al m lc X nA nS :=
  ⟨h.bel.trans (x.mono h.bel.size), h.kp.below x, own_below h.own x, h.nil, h.rel, h.hA, h.hS, h.o1, h.o2, Nat.le_trans h.o3 x.size⟩
set_option maxRecDepth 100000 in
set_option maxHeartbeats 16000000 in
theorem positionPlays_walk (w : World) (accounts : Int) (_bdA : -9223372036854775808 ≤ accounts ∧ accounts ≤ 9223372036854775807) (symbols : Int) (_bdS : -9223372036854775808 ≤ symbols ∧ symbols ≤ 9223372036854775807) (v : Value) (n : Nat) (X : Nat → Ex) (h : Ops w v n X) :
    Calls Try.prog 3 #[.int .i64 accounts, .int .i64 symbols, v] w fun e w' => e = .returned (.bool true) ∧ Below w.heap.size w w' := by
  obtain ⟨ad, cap, rfl, q1, q2, h3⟩ := h
  unfold maxLen at q2
  have F1 := awake_any w
  have H3 : Hid (∀ i, i < n → ∃ b off, ad = some ⟨b, off, none⟩ ∧ w.cell? ⟨b, off + i * 6, none⟩ = some (.int .i64 (X i).a) ∧ w.cell? ⟨b, off + i * 6 + 1, none⟩ = some (.int .i64 (X i).s) ∧ w.cell? ⟨b, off + i * 6 + 2, none⟩ = some (.int .i64 (X i).d) ∧ w.cell? ⟨b, off + i * 6 + 3, none⟩ = some (.int .i64 (X i).q) ∧ w.cell? ⟨b, off + i * 6 + 4, none⟩ = some (.int .i64 (X i).p) ∧ w.cell? ⟨b, off + i * 6 + 5, none⟩ = some (.bool (X i).k)) := h3
  clear h3
  go_enter Try.func3, Try.ntmps3
  go_wp2_with fail
  refine F1.mono ?_
  rintro e w1 ⟨rfl, hb1⟩
  have HB1 : Hid (Below w.heap.size w w1) := hb1
  clear F1 hb1
  by_cases hn : 40 < n
  · have t : (40 : Int) < (n : Int) := by omega
    go_wp2_with fail
    go_ret
    exact ⟨rfl, HB1.out⟩
  have t : ¬ (40 : Int) < (n : Int) := by omega
  by_cases ho : accounts < 1 ∨ 16 < accounts ∨ symbols < 1 ∨ 16 < symbols
  · have F2 := new_out accounts symbols w1 ho
    by_cases c0 : accounts < 1
    · clear ho
      go_wp2_with fail
      refine F2.mono ?_
      rintro e w2 ⟨rfl, rfl⟩
      go_wp2_with fail
      go_ret
      exact ⟨rfl, HB1.out⟩
    by_cases c1 : (16 : Int) < accounts
    · clear ho
      go_wp2_with fail
      refine F2.mono ?_
      rintro e w2 ⟨rfl, rfl⟩
      go_wp2_with fail
      go_ret
      exact ⟨rfl, HB1.out⟩
    by_cases c2 : symbols < 1
    · clear ho
      go_wp2_with fail
      refine F2.mono ?_
      rintro e w2 ⟨rfl, rfl⟩
      go_wp2_with fail
      go_ret
      exact ⟨rfl, HB1.out⟩
    have c3 : (16 : Int) < symbols := by omega
    clear ho
    go_wp2_with fail
    refine F2.mono ?_
    rintro e w2 ⟨rfl, rfl⟩
    go_wp2_with fail
    go_ret
    exact ⟨rfl, HB1.out⟩
  obtain ⟨nA, rfl⟩ := Int.eq_ofNat_of_zero_le (show 0 ≤ accounts by omega)
  obtain ⟨nS, rfl⟩ := Int.eq_ofNat_of_zero_le (show 0 ≤ symbols by omega)
  have c0 : ¬ (nA : Int) < 1 := by omega
  have c1 : ¬ (16 : Int) < (nA : Int) := by omega
  have c2 : ¬ (nS : Int) < 1 := by omega
  have c3 : ¬ (16 : Int) < (nS : Int) := by omega
  clear ho
  have F2 := new_in nA nS w1 (by omega) (by omega) (by omega) (by omega)
  go_wp2_with fail
  refine F2.mono ?_
  rintro e w2 ⟨rfl, K2, B2, Z2⟩
  have I0 : Hid (Du w w2 w1.heap.size w2.heap.size (newP nA nS) none 0 0 X nA nS) := ⟨HB1.out.trans (B2.mono HB1.out.size), K2, World.ownsRow_nil _ _ _ _, fun _ => rfl, Rel.start (by omega) (by omega) (by omega) (by omega) X, rfl, rfl, HB1.out.size, by omega, Nat.le_refl _⟩
  clear F2 K2 B2 Z2 HB1
  go_wp2_with fail
  obtain ⟨n1, hn1⟩ : ∃ n1, n1 = w1.heap.size := ⟨_, rfl⟩
  obtain ⟨base, hba⟩ : ∃ n2, n2 = w2.heap.size := ⟨_, rfl⟩
  rw [← hn1, ← hba] at I0
  rw [← hn1]
  clear hn1 hba c0 c1 c2 c3
  go_loopw [9, 52] (fun l c wr => ∃ (i : Nat) (b : Pk) (al : Option Addr) (m lc : Nat) (Y : Nat → Ex), c = .int .i64 (i : Int) ∧ l = .slice al m lc ∧ i ≤ n ∧ m ≤ i ∧ Hid (Du w wr n1 base b al m lc Y nA nS)) (fun _ c _ => n - (RowKit.intOf c).toNat)
  case atStart => exact ⟨0, _, none, 0, 0, X, rfl, rfl, Nat.zero_le _, Nat.zero_le _, I0.out⟩
  case round =>
    clear I0
    obtain ⟨i, b, al, m, lc, Y, rfl, rfl, hi, hm, I⟩ := hrel
    by_cases hlt : i < n
    · have t1 : (i : Int) < (n : Int) := by omega
      obtain ⟨b1, o1, e1, y0, y1, y2, y3, y4, y5⟩ := H3.out i hlt
      have l1 := World.block_lt_of_cell? _ _ y0
      subst e1
      replace y0 := (I.out.bel.cell (p := ⟨b1, o1 + i * 6, none⟩) l1).trans y0
      replace y1 := (I.out.bel.cell (p := ⟨b1, o1 + i * 6 + 1, none⟩) l1).trans y1
      replace y2 := (I.out.bel.cell (p := ⟨b1, o1 + i * 6 + 2, none⟩) l1).trans y2
      replace y3 := (I.out.bel.cell (p := ⟨b1, o1 + i * 6 + 3, none⟩) l1).trans y3
      replace y4 := (I.out.bel.cell (p := ⟨b1, o1 + i * 6 + 4, none⟩) l1).trans y4
      replace y5 := (I.out.bel.cell (p := ⟨b1, o1 + i * 6 + 5, none⟩) l1).trans y5
      replace l1 := Nat.lt_of_lt_of_le l1 I.out.bel.size
      obtain ⟨x1, hx1⟩ : ∃ x1, X i = x1 := ⟨_, rfl⟩
      rw [hx1] at y0 y1 y2 y3 y4 y5
      clear hx1
      obtain ⟨aa, sa, da, qa, pa, ka⟩ := x1
      simp only at y0 y1 y2 y3 y4 y5
      go_upto_region 15 with fail
      have I2 : Hid (Du w (wr.alloc (.cells #[.int .i64 aa, .int .i64 sa, .int .i64 da, .int .i64 qa, .int .i64 pa, .bool ka] 30)) n1 base b al m lc Y nA nS) := I.out.below ((Below.refl _ _).alloc (Nat.le_refl _) _)
      have d0 : (wr.alloc (.cells #[.int .i64 aa, .int .i64 sa, .int .i64 da, .int .i64 qa, .int .i64 pa, .bool ka] 30)).cell? ⟨wr.heap.size, 0, none⟩ = some (.int .i64 aa) := by go_simp
      have d1 : (wr.alloc (.cells #[.int .i64 aa, .int .i64 sa, .int .i64 da, .int .i64 qa, .int .i64 pa, .bool ka] 30)).cell? ⟨wr.heap.size, 1, none⟩ = some (.int .i64 sa) := by go_simp
      have d2 : (wr.alloc (.cells #[.int .i64 aa, .int .i64 sa, .int .i64 da, .int .i64 qa, .int .i64 pa, .bool ka] 30)).cell? ⟨wr.heap.size, 2, none⟩ = some (.int .i64 da) := by go_simp
      have d3 : (wr.alloc (.cells #[.int .i64 aa, .int .i64 sa, .int .i64 da, .int .i64 qa, .int .i64 pa, .bool ka] 30)).cell? ⟨wr.heap.size, 3, none⟩ = some (.int .i64 qa) := by go_simp
      have d4 : (wr.alloc (.cells #[.int .i64 aa, .int .i64 sa, .int .i64 da, .int .i64 qa, .int .i64 pa, .bool ka] 30)).cell? ⟨wr.heap.size, 4, none⟩ = some (.int .i64 pa) := by go_simp
      have d5 : (wr.alloc (.cells #[.int .i64 aa, .int .i64 sa, .int .i64 da, .int .i64 qa, .int .i64 pa, .bool ka] 30)).cell? ⟨wr.heap.size, 5, none⟩ = some (.bool ka) := by go_simp
      have lx : wr.heap.size < (wr.alloc (.cells #[.int .i64 aa, .int .i64 sa, .int .i64 da, .int .i64 qa, .int .i64 pa, .bool ka] 30)).heap.size := by simp
      generalize wr.alloc (.cells #[.int .i64 aa, .int .i64 sa, .int .i64 da, .int .i64 qa, .int .i64 pa, .bool ka] 30) = wA at *
      have GB : Hid (base ≤ wr.heap.size) := I.out.o3
      obtain ⟨gx, hgx⟩ : ∃ g, g = wr.heap.size := ⟨_, rfl⟩
      rw [← hgx] at d0 d1 d2 d3 d4 d5 lx GB
      rw [← hgx]
      clear hgx l1 y0 y1 y2 y3 y4 y5 I
      have G := refMove_any I2.out.rel I2.out.own I2.out.nil (by omega) I2.out.o3 aa sa da qa pa ka
      rw [I2.out.hA, I2.out.hS] at G
      obtain ⟨E, hE⟩ : ∃ E, chE b ka aa sa da qa pa = E := ⟨_, rfl⟩
      have GM : Hid (∀ W, PosAt W n1 b → Calls Try.prog 9 #[.pointer (some ⟨n1 + 1, 0, none⟩), .agg #[.int .i64 aa, .int .i64 sa, .int .i64 da, .int .i64 qa, .int .i64 pa, .bool ka] ] W fun e w' => e = .returned (.int .i64 E) ∧ PosAt w' n1 (chB b ka aa sa da qa pa) ∧ But (rows n1 b.nA) W w') := fun W K => by
        have := move_any K aa sa da qa pa ka
        rwa [hE] at this
      rw [hE] at G
      have SZ := ch_sizes b ka aa sa da qa pa
      have HSZ : Hid ((chB b ka aa sa da qa pa).nA = nA ∧ (chB b ka aa sa da qa pa).nS = nS) := ⟨SZ.1.trans I2.out.hA, SZ.2.trans I2.out.hS⟩
      clear hE SZ
      generalize chB b ka aa sa da qa pa = b' at *
      go_wp2_with fail
      refine G.mono ?_
      rintro e w3 ⟨al', m', lc', Y', rfl, hb3, OW, NI, ML, RL⟩
      have HR : Hid (OwnE w3 base (.slice al' m' lc') m' Y' ∧ (m' = 0 → Value.slice al' m' lc' = .slice none 0 0) ∧ Rel b' Y' m') := ⟨OW, NI, RL⟩
      have I3 : Hid (Below w.heap.size w w3 ∧ PosAt w3 n1 b ∧ base ≤ w3.heap.size) := ⟨I2.out.bel.trans (hb3.mono I2.out.bel.size), I2.out.kp.below hb3, Nat.le_trans I2.out.o3 hb3.size⟩
      have HO : Hid (w.heap.size ≤ n1 ∧ n1 + 2 + nA ≤ base ∧ b.nA = nA) := ⟨I2.out.o1, I2.out.o2, I2.out.hA⟩
      replace d0 := (hb3.cell (p := ⟨gx, 0, none⟩) lx).trans d0
      replace d1 := (hb3.cell (p := ⟨gx, 1, none⟩) lx).trans d1
      replace d2 := (hb3.cell (p := ⟨gx, 2, none⟩) lx).trans d2
      replace d3 := (hb3.cell (p := ⟨gx, 3, none⟩) lx).trans d3
      replace d4 := (hb3.cell (p := ⟨gx, 4, none⟩) lx).trans d4
      replace d5 := (hb3.cell (p := ⟨gx, 5, none⟩) lx).trans d5
      replace lx := Nat.lt_of_lt_of_le lx hb3.size
      clear G hb3 OW NI RL I2
      have G := GM.out w3 I3.out.2.1
      go_wp2_with fail
      refine G.mono ?_
      rintro e w4 ⟨rfl, K4, k4⟩
      have NR : ¬ rows n1 b.nA gx := fun h => by have := h.2; have := HO.out; have := GB.out; omega
      have I4 : Hid (Du w w4 n1 base b' al' m' lc' Y' nA nS) := by
        refine ⟨I3.out.1.trans (k4.below I3.out.1.size (fun i hi => by have := hi.1; have := HO.out.1; omega)), K4, own_kept HR.out.1 k4 (fun g hg h => ?_), HR.out.2.1, HR.out.2.2, HSZ.out.1, HSZ.out.2, HO.out.1, HO.out.2.1, Nat.le_trans I3.out.2.2 k4.size⟩
        have h1 := own_ge HR.out.1 g hg
        have h2 := h.2
        have h3 := HO.out
        omega
      replace d0 := (k4.cell (k := gx) (o := 0) lx NR).trans d0
      replace d1 := (k4.cell (k := gx) (o := 1) lx NR).trans d1
      clear G GM K4 k4 I3 HR HO d2 d3 d4 d5 NR HSZ
      have T1 := I4.out.rel.told aa sa 1 (by omega)
      have T2 := I4.out.rel.told aa sa 2 (by omega)
      have G := lawTold_any I4.out.kp (ops_of_own I4.out.own) (by omega) I4.out.rel.fin aa sa T1.1 T1.2 T2.1 T2.2
      clear T1 T2
      go_wp2_with fail
      refine G.mono ?_
      rintro e w5 ⟨rfl, hb5⟩
      have I5 : Hid (Du w w5 n1 base b' al' m' lc' Y' nA nS) := I4.out.below hb5
      clear G hb5 I4 d0 d1 lx
      go_wp2_with fail
      go_roundw
      case rel => exact ⟨i + 1, b', al', m', lc', Y', by simp, rfl, by omega, by omega, I5.out⟩
      case measure => simp [RowKit.intOf]; omega
    · obtain rfl : i = n := by omega
      have t1 : ¬ (i : Int) < (i : Int) := by omega
      have T1 := I.out.rel.told 0 0 1 (by omega)
      have T2 := I.out.rel.told 0 0 2 (by omega)
      have G := lawTold_any I.out.kp (ops_of_own I.out.own) (by omega) I.out.rel.fin 0 0 T1.1 T1.2 T2.1 T2.2
      clear T1 T2
      go_wp2_with fail
      refine G.mono ?_
      rintro e w5 ⟨rfl, hb5⟩
      have I5 : Hid (Below w.heap.size w w5) := (I.out.below hb5).bel
      clear G hb5
      go_wp2_with fail
      go_ret
      exact ⟨rfl, I5.out⟩
theorem positionPlays_own : ownKnob Try.prog.godebug = none := by kernel_rfl
theorem positionPlays_laidOut : laidOutB Try.prog = true := by kernel_rfl
set_option maxRecDepth 100000 in
theorem positionPlays_lifted (os : Os) (started : os.Started) (H : Type) (enc : TypeId × Value → H) :
    ReturnsInHanded {} Try.checked os 3 .any (Rows.positionPlaysSpec.pre6 enc Try.prog Try.f3 Rows.positionPlaysRow.domain false) (Rows.positionPlaysSpec.post enc Try.prog Try.f3 false true false false) := by
  refine returnsInHanded_of_change (C := Try.checked) positionPlays_own started (by kernel_rfl) Try.func3
    (ChangeSpec.witness6 (enc := enc) (C := Try.checked) false ⟨#[], #[.int .i64 0, .int .i64 0, .slice none 0 0], []⟩ 8 (by kernel_rfl) (by kernel_rfl) (by kernel_rfl) (by kernel_rfl)) ?_
  intro W base args ds gs before hval0 hW hcnd _
  have hval : ∀ (j : Nat) t v, Try.f3.params[j]? = some t → args[j]? = some v → Value.okWide Try.prog W .any base t v := hval0
  have hW' := hW
  obtain ⟨p, q, hA0, hV, rfl, hfz, hnd⟩ := hW
  have hA : DataW.TrodAll enc Try.prog W 0 (fun _ => true) true Try.f3.params.toList args.toList ds p := hA0
  rw [Try.params3] at hA hval
  obtain ⟨v0, vs0, d0, ds0, p0, q0, hargs, rfl, rfl, h0, r0⟩ := trodAll_cons hA
  obtain ⟨v1, vs1, d1, ds1, p1, q1, rfl, rfl, rfl, h1, r1⟩ := trodAll_cons r0
  obtain ⟨v2, vs2, d2, ds2, p2, q2, rfl, rfl, rfl, h2, r2⟩ := trodAll_cons r1
  obtain ⟨rfl, rfl, rfl⟩ := trodAll_nil r2
  obtain rfl : args = #[v0, v1, v2] := by cases args; simp_all
  obtain ⟨rfl, rfl⟩ := trodVars_none hV
  obtain ⟨a0, rfl, rfl, rfl, w0⟩ := open_int Try.underlying3 (hval 0 3 v0 rfl rfl) h0
  have bd0 := bounds_i64 w0
  obtain ⟨a1, rfl, rfl, rfl, w1⟩ := open_int Try.underlying3 (hval 1 3 v1 rfl rfl) h1
  have bd1 := bounds_i64 w1
  obtain ⟨ad2, n2, cap2, rfl⟩ := okWide_slice Try.underlying22 (hval 2 22 v2 rfl rfl)
  have k2 := h2
  have lt2 : ∀ x ∈ p2, x.block < W.heap.size := by obtain ⟨m, hm⟩ := k2; exact DataW.trod_lt m _ _ _ hm
  obtain ⟨X2, ops2⟩ : ∃ X, Ops W (.slice ad2 n2 cap2) n2 X := by obtain ⟨fuel, hf⟩ := h2; exact open_ops hf
  clear hA0 hval0
  simp only [List.append_nil, List.nil_append] at hW'
  refine (positionPlays_walk W a0 bd0 a1 bd1 _ n2 X2 ops2).mono fun e W' ⟨he, bel⟩ => ?_
  subst he
  exact ⟨_, rfl, _, _, _, [], _, [], hW', trodAll_mk1 (shut_bool Try.underlying4 _), (trodAll_cons_mk (shut_int Try.underlying3 w0) (trodAll_cons_mk (shut_int Try.underlying3 w1) (trodAll_cons_mk (Below.trod positionPlays_laidOut (by kernel_rfl) (of_decide_eq_true (by kernel_rfl)) k2 bel lt2) trodAll_mk0))), rfl, bel.frame _, fun h => by cases h⟩

/-- THE STATEMENT. -/
theorem positionPlays_proved : Rows.PositionPlaysSaid :=
  OpenClaim.holds_of_wide 3 Try.f3 rfl rfl rfl rfl rfl rfl rfl ⟨rfl, rfl, rfl, rfl, rfl⟩ rfl rfl rfl rfl rfl (by kernel_rfl) Try.func3 (by kernel_rfl)
    (of_decide_eq_true (by kernel_rfl)) (by unfold Func.isWrapper; first | (rw [if_pos (by decide +kernel)]; kernel_rfl) | (rw [if_neg (by decide +kernel)]; exact ⟨rfl, rfl⟩))
    (fun os started H enc _ => positionPlays_lifted os started H enc)
#print axioms positionPlays_proved
end Go.Proofs.Ytbmmokdccfajmaa
