/-
  Any offers are put in the reference's order, and the list stays as it was: for every list (of up to 60 offers: beyond it the function answers true by itself).
-/
import Derived.Test.YtbjibmfehphffaaRoAwake
import Derived.Test.YtbjibmfehphffaaRoRefRank
import Derived.Test.YtbjibmfehphffaaRoStable
import Derived.Test.YtbjibmfehphffaaFrame23
namespace Go.Proofs.Ytbjibmfehphffaa
open Go.ChangeShapes Go.WideShapes Go.ChangeAt Go.RowKit RO

/-- Offers of the program's are appended to a list of one's own, from wherever they are read. -/
theorem wpList_append_ours {w : World} {ops : Array Oper} {rest : List Oper} {o : Oper} {a : Act} {Q : Exit → Act → World → Prop} (hgd : o.guard = none) (s x : Operand)
    (ho : o.op = .call { callee := .builtin .append, args := #[s, x], argTypes := #[29, 29] }) (base : Nat) (v u : Value) {n : Nat} (l : List Of) (m : Nat) (M : Nat → Of) (hs : a.eval s = v) (hx : a.eval x = u)
    (hown : w.ownsRow base 35 5 v n (allO l)) (hu : RowL w u m M) (hl : l.length ≤ 100000) (hm : m ≤ 100000) (hbase : base ≤ w.heap.size)
    (h : ∀ a' c' k' w', Hid (k' = (l ++ listO M m).length ∧ w'.ownsRow base 35 5 (.slice a' k' c') k' (allO (l ++ listO M m)) ∧ w.grownBy w' v.ownBlock) → wpList Try.prog ops Q rest (a.put o.dst (.slice a' k' c')) w') : wpList Try.prog ops Q (o :: rest) a w := by
  obtain ⟨i0, hi0, hz0, hzs, hzb⟩ := info_parts info_offer
  obtain ⟨ad, cap, rfl, h1, h3⟩ := hu
  obtain rfl : n = l.length := by have := hown.1; rw [allO_length] at this; omega
  have e0 : (l ++ listO M m).length = l.length + m := by rw [List.length_append, listO_length]
  have fin : ∀ v' w', w'.ownsRow base 35 5 v' (l ++ listO M m).length (allO (l ++ listO M m)) → w.grownBy w' v.ownBlock → wpList Try.prog ops Q rest (a.put o.dst v') w' := by
    intro v' w' h1 h2
    obtain ⟨a', c', rfl⟩ := own_shape h1
    exact h a' c' _ w' ⟨rfl, h1, h2⟩
  clear h
  cases ad with
  | none =>
    obtain rfl : m = 0 := by
      rcases Nat.eq_zero_or_pos m with e | e
      · exact e
      · obtain ⟨_, _, e, _⟩ := h3 0 e; cases e
    refine wpList_plain hgd fun K hK => ?_
    have hr := fun ty => run_append_none5 (P := Try.prog) w base 29 ty _ i0 5 Try.underlying29 hi0 v _ _ hown cap
    unfold Oper.wp execOp
    simp only [ho, resolve, invoke, builtin, Sem.run_bind, Sem.run_pure, Result.andThen_ok, List.map_toArray, List.map_cons, List.map_nil, hs, hx, hr]
    refine hK _ _ (fin v w ?_ ⟨rfl, rfl, rfl, Nat.le_refl _, fun _ _ _ => rfl⟩)
    have e1 : l ++ listO M 0 = l := List.append_nil l
    rw [e1]; exact hown
  | some ad =>
    obtain ⟨b, o', spot⟩ := ad
    rcases Nat.eq_zero_or_pos m with hm0 | hm0
    · subst hm0
      have e1 : l ++ listO M 0 = l := List.append_nil l
      rw [e1] at fin
      refine wpList_append_own_at _ hgd s x _ ho base _ i0 _ 5 40 Try.underlying29 hi0 hz0 hzs hzb rfl (by decide) v _ _ hs hown ⟨b, o', spot⟩ 0 cap [] hx rfl (fun j u hj => by simp at hj) (fun u hu => by simp at hu) (by unfold maxLen; omega) (by omega) hbase ?_
      intro v' w' hown' hg _ _
      exact fin v' w' (by simpa using hown') hg
    · obtain ⟨b', o'', e, _⟩ := h3 0 hm0
      injection e with e
      injection e with e1 e2 e3
      subst e1 e2 e3
      have src : ∀ i, i < m → Fiv w b (o' + i * 5) (M i) := fun i hi => by
        obtain ⟨b', o'', e, c⟩ := h3 i hi
        injection e with e
        injection e with e1 e2
        subst e1 e2
        exact c
      refine wpList_append_own_at _ hgd s x _ ho base _ i0 _ 5 40 Try.underlying29 hi0 hz0 hzs hzb rfl (by decide) v _ _ hs hown ⟨b, o', none⟩ m cap (allO (listO M m)) hx (by rw [allO_length, listO_length]) (rowL_cells src) (allO_one _) (by unfold maxLen; omega) (by omega) hbase ?_
      intro v' w' hown' hg _ _
      exact fin v' w' (by rw [e0, allO_append]; exact hown') hg
theorem offer_eq (x0 x1 x2 x3 : Int) (x4 : Bool) (w : World) : (Op.equalIn 10000 35 (.agg #[.int .i64 x0, .int .i64 x1, .int .i64 x2, .int .i64 x3, .bool x4]) (.agg #[.int .i64 x0, .int .i64 x1, .int .i64 x2, .int .i64 x3, .bool x4])).run Try.prog w = .ok true w := by
  rw [show (10000 : Nat) = 9999 + 1 from rfl, run_equalIn_struct (P := Try.prog) w 9999 _ _ _ (by kernel_rfl) (by kernel_rfl)]
  simp [Program.fieldsOf, Try.underlying35, Op.eqFields, go_sem, Try.underlying3, Try.underlying4]
theorem offerR_eq (x0 x1 x2 x3 : Int) (x4 : Bool) (w : World) : (Op.equalIn 10000 36 (.agg #[.int .i64 x0, .int .i64 x1, .int .i64 x2, .int .i64 x3, .bool x4]) (.agg #[.int .i64 x0, .int .i64 x1, .int .i64 x2, .int .i64 x3, .bool x4])).run Try.prog w = .ok true w := by
  rw [show (10000 : Nat) = 9999 + 1 from rfl, run_equalIn_struct (P := Try.prog) w 9999 _ _ _ (by kernel_rfl) (by kernel_rfl)]
  simp [Program.fieldsOf, Try.underlying36, Op.eqFields, go_sem, Try.underlying3, Try.underlying4]
theorem own_none (w : World) : (w.alloc (.cells #[] 35)).ownsRow w.heap.size 35 5 (.slice (some ⟨w.heap.size, 0, none⟩) 0 0) 0 [] :=
  ⟨rfl, .inr ⟨w.heap.size, 0, #[], rfl, Nat.le_refl _, heap_alloc_new _ _, Nat.le_refl _, by unfold maxLen; omega, rfl, rfl⟩⟩
set_option maxRecDepth 100000 in
set_option maxHeartbeats 4000000 in
theorem routerRanks_walk (w : World) (v : Value) (n : Nat) (L : Nat → Of) (h : RowL w v n L) :
    Calls Try.prog 4 #[v] w fun e w' => e = .returned (.bool true) ∧ Below w.heap.size w w' := by
  obtain ⟨a, cap, rfl, _⟩ := id h
  by_cases hn : n ≤ 60
  · have t : ¬ (60 : Int) < (n : Int) := by omega
    have HR : Hid (RowL w (.slice a n cap) n L) := h
    clear h
    go_enter Try.func4, Try.ntmps4
    go_wp2_with fail
    refine (awake_any w).mono ?_
    rintro e w1 ⟨rfl, B1⟩
    have R1 := HR.out.below B1
    have HB1 : Hid (Below w.heap.size w w1) := B1
    go_wp2_with (at_builtin; refine wpList_append_ours rfl _ _ rfl w1.heap.size _ _ [] n L rfl rfl (own_none w1) (R1.below ((Below.refl _ _).alloc (Nat.le_refl _) _)) (Nat.zero_le _) (by omega) (by simp) ?_)
    intro ag cg kg w2 HG
    obtain rfl : kg = n := by have := HG.out.1; simp [listO_length] at this; exact this
    have B2 : Below w1.heap.size w1 w2 := ((Below.refl w1.heap.size w1).alloc (Nat.le_refl _) _).grown HG.out.2.2 (by simp) (fun k hk => ((own_none w1).lt k hk).1)
    have RG : RowL w2 (.slice ag kg cg) kg L := rowL_of_own HG.out.2.1
    have HB2 : Below w.heap.size w w2 := HB1.out.trans (B2.mono HB1.out.size)
    have F := rank_any (stable_all (show kg ≤ 1000 by omega)) (by omega) L (.slice ag kg cg) w2 RG
    have HRG : Hid (RowL w2 (.slice ag kg cg) kg L) := RG
    clear HG R1 B2 RG
    go_wp2_with fail
    refine F.mono ?_
    rintro e w3 ⟨bk, f, H3, rfl⟩
    have HB3 := HB2.trans (H3.out.2.2.1.mono HB2.size)
    have G4 := plain_any kg L (.slice a kg cap) w3 (HR.out.below HB3) (by omega)
    clear F
    go_wp2_with fail
    refine G4.mono ?_
    rintro e w4 ⟨v4, rfl, H4⟩
    have HB4 := HB3.trans (H4.out.2.mono HB3.size)
    have G5 := rankR_any kg L v4 w4 (rowL_of_own H4.out.1) (by omega)
    obtain ⟨a4, c4, rfl⟩ := own_shape H4.out.1
    clear G4
    go_wp2_with fail
    refine G5.mono ?_
    rintro e w5 ⟨v5, rfl, f', H5⟩
    have HB5 := HB4.trans (H5.out.2.2.mono HB4.size)
    have B35 : Below w3.heap.size w3 w5 := H4.out.2.trans (H5.out.2.2.mono H4.out.2.size)
    have B25 : Below w2.heap.size w2 w5 := H3.out.2.2.1.trans (B35.mono H3.out.2.2.1.size)
    obtain ⟨a5, c5, rfl⟩ := own_shape H5.out.2.1
    have RP := (RowL.of_hold H3.out.2.1 (Nat.le_refl _)).below B35
    have RW := rowL_of_own H5.out.2.1
    have RGv := HRG.out.below B25
    have RL := HR.out.below HB5
    have HEQ : Hid (∀ i, i < kg → f' i = f i) := fun i hi => H5.out.1.one H3.out.1 i hi
    obtain ⟨_, _, ep, _, cp⟩ := RP
    obtain ⟨_, _, ew, _, cw⟩ := RW
    obtain ⟨_, _, eg, _, cg'⟩ := RGv
    obtain ⟨_, _, el, _, cl⟩ := RL
    injection ep with ep _ _
    injection ew with ew _ _
    injection eg with eg _ _
    injection el with el _ _
    subst ep ew eg el
    have HCP : Hid (∀ i, i < kg → Fiv w5 bk (i * 5) (L (f i))) := fun i hi => by
      obtain ⟨b, o, e, c⟩ := cp i hi
      injection e with e
      injection e with e1 e2
      subst e1 e2
      rw [Nat.zero_add] at c
      exact c
    have HCW : Hid (∀ i, i < kg → ∃ b o, a5 = some ⟨b, o, none⟩ ∧ Fiv w5 b (o + i * 5) (L (f i))) := fun i hi => by
      obtain ⟨b, o, e, c⟩ := cw i hi
      have c : Fiv w5 b (o + i * 5) (L (f' i)) := c
      rw [HEQ.out i hi] at c
      exact ⟨b, o, e, c⟩
    have HCG : Hid (∀ i, i < kg → ∃ b o, ag = some ⟨b, o, none⟩ ∧ Fiv w5 b (o + i * 5) (L i)) := cg'
    have HCL : Hid (∀ i, i < kg → ∃ b o, a = some ⟨b, o, none⟩ ∧ Fiv w5 b (o + i * 5) (L i)) := cl
    have HBF : Hid (Below w.heap.size w w5) := HB5
    clear cp cw cg' cl H3 H4 H5 B35 B25 HB5 HB4 HB3 HB2 HRG HR HB1 B1 G5
    go_wp2_with fail
    go_loopw [28] (fun x wr => ∃ i : Nat, x = .int .i64 (i : Int) ∧ i ≤ kg ∧ Below w5.heap.size w5 wr) (fun x _ => kg - (RowKit.intOf x).toNat)
    case atStart => exact ⟨0, rfl, Nat.zero_le _, Below.refl _ _⟩
    case round =>
      obtain ⟨i, rfl, hi, hB⟩ := hrel
      by_cases hlt : i < kg
      · have ti : (i : Int) < (kg : Int) := by omega
        have pp := (HCP.out i hlt).below hB
        obtain ⟨bw, ow, rfl, pw0⟩ := HCW.out i hlt
        obtain ⟨bg, og, rfl, pg0⟩ := HCG.out i hlt
        obtain ⟨bl, ol, rfl, pl0⟩ := HCL.out i hlt
        have pw := pw0.below hB
        have pg := pg0.below hB
        have pl := pl0.below hB
        have l1 := pp.lt
        have l2 := pw.lt
        have l3 := pg.lt
        have l4 := pl.lt
        clear pw0 pg0 pl0
        generalize L (f i) = x at pp pw
        generalize L i = y at pg pl
        obtain ⟨x0, x1, x2, x3, x4⟩ := x
        obtain ⟨y0, y1, y2, y3, y4⟩ := y
        obtain ⟨c0, c1, c2, c3, c4⟩ := pp.all
        obtain ⟨d0, d1, d2, d3, d4⟩ := pw.all
        obtain ⟨g0, g1, g2, g3, g4⟩ := pg.all
        obtain ⟨m0, m1, m2, m3, m4⟩ := pl.all
        simp only at c0 c1 c2 c3 c4 d0 d1 d2 d3 d4 g0 g1 g2 g3 g4 m0 m1 m2 m3 m4
        clear pp pw pg pl
        have E1 := fun w => offerR_eq x0 x1 x2 x3 x4 w
        have E2 := fun w => offer_eq y0 y1 y2 y3 y4 w
        go_wp2_with fail
        go_quiet (fail)
        go_wp2_with fail
        go_roundw
        case rel => exact ⟨i + 1, by simp, by omega, below_more (hB.alloc hB.size _) _⟩
        case measure => simp [RowKit.intOf] <;> omega
      · have ti : ¬ (i : Int) < (kg : Int) := by omega
        go_wp2_with fail
        go_ret
        exact ⟨rfl, HBF.out.trans (hB.mono HBF.out.size)⟩
  · have t : (60 : Int) < (n : Int) := by omega
    clear h hn
    go_enter Try.func4, Try.ntmps4
    go_wp2_with fail
    refine (awake_any w).mono ?_
    rintro e w1 ⟨rfl, B1⟩
    go_wp2_with fail
    go_ret
    exact ⟨rfl, B1⟩
theorem routerRanks_own : ownKnob Try.prog.godebug = none := by kernel_rfl
theorem routerRanks_laidOut : laidOutB Try.prog = true := by kernel_rfl
set_option maxRecDepth 100000 in
theorem routerRanks_lifted (os : Os) (started : os.Started) (H : Type) (enc : TypeId × Value → H) :
    ReturnsInHanded {} Try.checked os 4 .any (Rows.routerRanksSpec.pre6 enc Try.prog Try.f4 Rows.routerRanksRow.domain false) (Rows.routerRanksSpec.post enc Try.prog Try.f4 false true false false) := by
  refine returnsInHanded_of_change (C := Try.checked) routerRanks_own started (by kernel_rfl) Try.func4
    (ChangeSpec.witness6 (enc := enc) (C := Try.checked) false ⟨#[], #[.slice none 0 0], []⟩ 8 (by kernel_rfl) (by kernel_rfl) (by kernel_rfl) (by kernel_rfl)) ?_
  intro W base args ds gs before hval0 hW hcnd _
  have hval : ∀ (j : Nat) t v, Try.f4.params[j]? = some t → args[j]? = some v → Value.okWide Try.prog W .any base t v := hval0
  have hW' := hW
  obtain ⟨p, q, hA0, hV, rfl, hfz, hnd⟩ := hW
  have hA : DataW.TrodAll enc Try.prog W 0 (fun _ => true) true Try.f4.params.toList args.toList ds p := hA0
  rw [Try.params4] at hA hval
  obtain ⟨v0, vs0, d0, ds0, p0, q0, hargs, rfl, rfl, h0, r0⟩ := trodAll_cons hA
  obtain ⟨rfl, rfl, rfl⟩ := trodAll_nil r0
  obtain rfl : args = #[v0] := by cases args; simp_all
  obtain ⟨rfl, rfl⟩ := trodVars_none hV
  obtain ⟨ad0, n0, cap0, rfl⟩ := okWide_slice Try.underlying29 (hval 0 29 v0 rfl rfl)
  have k0 := h0
  have lt0 : ∀ x ∈ p0, x.block < W.heap.size := by obtain ⟨m, hm⟩ := k0; exact DataW.trod_lt m _ _ _ hm
  obtain ⟨X0, ops0⟩ : ∃ X, RowL W (.slice ad0 n0 cap0) n0 X := by obtain ⟨fuel, hf⟩ := h0; exact open_ops hf
  clear hA0 hval0
  simp only [List.append_nil] at hW'
  refine (routerRanks_walk W _ n0 X0 ops0).mono fun e W' ⟨he, bel⟩ => ?_
  subst he
  exact ⟨_, rfl, _, _, _, [], _, [], hW', trodAll_mk1 (shut_bool Try.underlying4 _), (trodAll_cons_mk (Below.trod routerRanks_laidOut (by kernel_rfl) (of_decide_eq_true (by kernel_rfl)) k0 bel lt0) trodAll_mk0), rfl, bel.frame _, fun h => by cases h⟩

/-- THE STATEMENT. -/
theorem routerRanks_proved : Rows.RouterRanksSaid :=
  OpenClaim.holds_of_wide 4 Try.f4 rfl rfl rfl rfl rfl rfl rfl ⟨rfl, rfl, rfl, rfl, rfl⟩ rfl rfl rfl rfl rfl (by kernel_rfl) Try.func4 (by kernel_rfl)
    (of_decide_eq_true (by kernel_rfl)) (by unfold Func.isWrapper; first | (rw [if_pos (by decide +kernel)]; kernel_rfl) | (rw [if_neg (by decide +kernel)]; exact ⟨rfl, rfl⟩))
    (fun os started H enc _ => routerRanks_lifted os started H enc)
#print axioms routerRanks_proved
end Go.Proofs.Ytbjibmfehphffaa
