/-
  Contracts of the fifteenth reference's in, symbol and names.
-/
import Derived.Deep.QuietTactic
import Derived.Test.YtfphjhmhiaepiaaGreatKG
import Derived.Test.YtfphjhmhiaepiaaGreatKD
import Derived.Test.YtfphjhmhiaepiaaGreatKF
import Derived.Test.YtfphjhmhiaepiaaGreatKI
namespace Go.Proofs.YtfphjhmhiaepiaaGreat.RU
open Go.ChangeShapes Go.WideShapes Go.ChangeAt Go.RowKit Go.Lib

theorem in_any (n l h : Int) (w : World) :
    Calls Tryz.prog 22 #[.int .i64 n, .int .i64 l, .int .i64 h] w fun e w' => e = .returned (.bool (withB n l h)) ∧ w' = w := by
  unfold withB
  by_cases k : l ≤ n
  · have e : decide (l ≤ n ∧ n ≤ h) = decide (n ≤ h) := decide_eq_decide.2 (by omega)
    rw [e]
    clear e
    go_enter Tryz.func22, Tryz.ntmps22
    go_wp2
    go_ret
    exact ⟨rfl, rfl⟩
  · have e : decide (l ≤ n ∧ n ≤ h) = false := decide_eq_false (by omega)
    rw [e]
    clear e
    go_enter Tryz.func22, Tryz.ntmps22
    go_wp2
    go_ret
    exact ⟨rfl, rfl⟩
theorem in_is (n l h : Int) (w : World) (b : Bool) (hb : withB n l h = b) :
    Calls Tryz.prog 22 #[.int .i64 n, .int .i64 l, .int .i64 h] w fun e w' => e = .returned (.bool b) ∧ w' = w := by
  rw [← hb]; exact in_any n l h w
set_option maxHeartbeats 8000000 in
theorem symbolR_any (x : It) (w : World) :
    Calls Tryz.prog 23 #[.agg #[.string x.1, .int .i64 (x.2.1 1), .int .i64 (x.2.1 2), .int .i64 (x.2.1 3), .int .i64 (x.2.1 4), .int .i64 (x.2.1 5), .int .i64 (x.2.1 6)]] w fun e w' => e = .returned (.bool (symB x.2.1)) ∧ Below w.heap.size w w' := by
  obtain ⟨s, z, m⟩ := x
  cases h1 : withB (z 1) 1 1099511627776
  · rw [show symB z = false by unfold symB; simp [h1]]
    go_enter Tryz.func23, Tryz.ntmps23
    go_wp2_with fail
    refine (in_is (z 1) 1 1099511627776 _ _ h1).mono ?_
    rintro e w' ⟨rfl, rfl⟩
    go_wp2_with fail
    go_ret
    exact ⟨rfl, (Below.refl _ _).alloc (Nat.le_refl _) _⟩
  · cases h2 : withB (z 5) 1 1099511627776
    · rw [show symB z = false by unfold symB; simp [h1, h2]]
      go_enter Tryz.func23, Tryz.ntmps23
      go_wp2_with fail
      refine (in_is (z 1) 1 1099511627776 _ _ h1).mono ?_
      rintro e w' ⟨rfl, rfl⟩
      go_wp2_with fail
      refine (in_is (z 5) 1 1099511627776 _ _ h2).mono ?_
      rintro e w' ⟨rfl, rfl⟩
      go_wp2_with fail
      go_ret
      exact ⟨rfl, (Below.refl _ _).alloc (Nat.le_refl _) _⟩
    · cases h3 : withB (z 2) 1 1099511627776
      · rw [show symB z = false by unfold symB; simp [h1, h2, h3]]
        go_enter Tryz.func23, Tryz.ntmps23
        go_wp2_with fail
        refine (in_is (z 1) 1 1099511627776 _ _ h1).mono ?_
        rintro e w' ⟨rfl, rfl⟩
        go_wp2_with fail
        refine (in_is (z 5) 1 1099511627776 _ _ h2).mono ?_
        rintro e w' ⟨rfl, rfl⟩
        go_wp2_with fail
        refine (in_is (z 2) 1 1099511627776 _ _ h3).mono ?_
        rintro e w' ⟨rfl, rfl⟩
        go_wp2_with fail
        go_ret
        exact ⟨rfl, (Below.refl _ _).alloc (Nat.le_refl _) _⟩
      · cases h4 : withB (z 3) 1 1099511627776
        · rw [show symB z = false by unfold symB; simp [h1, h2, h3, h4]]
          go_enter Tryz.func23, Tryz.ntmps23
          go_wp2_with fail
          refine (in_is (z 1) 1 1099511627776 _ _ h1).mono ?_
          rintro e w' ⟨rfl, rfl⟩
          go_wp2_with fail
          refine (in_is (z 5) 1 1099511627776 _ _ h2).mono ?_
          rintro e w' ⟨rfl, rfl⟩
          go_wp2_with fail
          refine (in_is (z 2) 1 1099511627776 _ _ h3).mono ?_
          rintro e w' ⟨rfl, rfl⟩
          go_wp2_with fail
          refine (in_is (z 3) 1 1099511627776 _ _ h4).mono ?_
          rintro e w' ⟨rfl, rfl⟩
          go_wp2_with fail
          go_ret
          exact ⟨rfl, (Below.refl _ _).alloc (Nat.le_refl _) _⟩
        · cases h5 : withB (z 4) 0 10000
          · rw [show symB z = false by unfold symB; simp [h1, h2, h3, h4, h5]]
            go_enter Tryz.func23, Tryz.ntmps23
            go_wp2_with fail
            refine (in_is (z 1) 1 1099511627776 _ _ h1).mono ?_
            rintro e w' ⟨rfl, rfl⟩
            go_wp2_with fail
            refine (in_is (z 5) 1 1099511627776 _ _ h2).mono ?_
            rintro e w' ⟨rfl, rfl⟩
            go_wp2_with fail
            refine (in_is (z 2) 1 1099511627776 _ _ h3).mono ?_
            rintro e w' ⟨rfl, rfl⟩
            go_wp2_with fail
            refine (in_is (z 3) 1 1099511627776 _ _ h4).mono ?_
            rintro e w' ⟨rfl, rfl⟩
            go_wp2_with fail
            refine (in_is (z 4) 0 10000 _ _ h5).mono ?_
            rintro e w' ⟨rfl, rfl⟩
            go_wp2_with fail
            go_ret
            exact ⟨rfl, (Below.refl _ _).alloc (Nat.le_refl _) _⟩
          · cases h6 : withB (z 6) 1 4611686018427387904
            · rw [show symB z = false by unfold symB; simp [h1, h2, h3, h4, h5, h6]]
              go_enter Tryz.func23, Tryz.ntmps23
              go_wp2_with fail
              refine (in_is (z 1) 1 1099511627776 _ _ h1).mono ?_
              rintro e w' ⟨rfl, rfl⟩
              go_wp2_with fail
              refine (in_is (z 5) 1 1099511627776 _ _ h2).mono ?_
              rintro e w' ⟨rfl, rfl⟩
              go_wp2_with fail
              refine (in_is (z 2) 1 1099511627776 _ _ h3).mono ?_
              rintro e w' ⟨rfl, rfl⟩
              go_wp2_with fail
              refine (in_is (z 3) 1 1099511627776 _ _ h4).mono ?_
              rintro e w' ⟨rfl, rfl⟩
              go_wp2_with fail
              refine (in_is (z 4) 0 10000 _ _ h5).mono ?_
              rintro e w' ⟨rfl, rfl⟩
              go_wp2_with fail
              refine (in_is (z 6) 1 4611686018427387904 _ _ h6).mono ?_
              rintro e w' ⟨rfl, rfl⟩
              go_wp2_with fail
              go_ret
              exact ⟨rfl, (Below.refl _ _).alloc (Nat.le_refl _) _⟩
            · rw [show symB z = bandB z by unfold symB; simp [h1, h2, h3, h4, h5, h6]]
              have F := fun w => band2_any (z 3) (z 4) (z 2) w (by have := withB_get h3; omega)
              unfold bandB
              generalize baL (z 3) (z 4) (z 2) = l at *
              generalize baH (z 3) (z 4) (z 2) = hh at *
              generalize baE (z 3) (z 4) (z 2) = r at *
              by_cases k : r = 0
              · rw [decide_eq_true k, Bool.true_and]
                have HK : Hid (r = 0) := k
                have k' : (r == 0) = true := by simp [k]
                clear k
                go_enter Tryz.func23, Tryz.ntmps23
                go_wp2_with fail
                refine (in_is (z 1) 1 1099511627776 _ _ h1).mono ?_
                rintro e w' ⟨rfl, rfl⟩
                go_wp2_with fail
                refine (in_is (z 5) 1 1099511627776 _ _ h2).mono ?_
                rintro e w' ⟨rfl, rfl⟩
                go_wp2_with fail
                refine (in_is (z 2) 1 1099511627776 _ _ h3).mono ?_
                rintro e w' ⟨rfl, rfl⟩
                go_wp2_with fail
                refine (in_is (z 3) 1 1099511627776 _ _ h4).mono ?_
                rintro e w' ⟨rfl, rfl⟩
                go_wp2_with fail
                refine (in_is (z 4) 0 10000 _ _ h5).mono ?_
                rintro e w' ⟨rfl, rfl⟩
                go_wp2_with fail
                refine (in_is (z 6) 1 4611686018427387904 _ _ h6).mono ?_
                rintro e w' ⟨rfl, rfl⟩
                go_wp2_with fail
                refine (F _).mono ?_
                rintro e w2 ⟨rfl, hb⟩
                go_wp2_with fail
                go_ret
                exact ⟨rfl, ((Below.refl _ _).alloc (Nat.le_refl _) _).trans (hb.mono (by simp))⟩
              · rw [decide_eq_false k, Bool.false_and]
                have k' : (r == 0) = false := by simp [k]
                go_enter Tryz.func23, Tryz.ntmps23
                go_wp2_with fail
                refine (in_is (z 1) 1 1099511627776 _ _ h1).mono ?_
                rintro e w' ⟨rfl, rfl⟩
                go_wp2_with fail
                refine (in_is (z 5) 1 1099511627776 _ _ h2).mono ?_
                rintro e w' ⟨rfl, rfl⟩
                go_wp2_with fail
                refine (in_is (z 2) 1 1099511627776 _ _ h3).mono ?_
                rintro e w' ⟨rfl, rfl⟩
                go_wp2_with fail
                refine (in_is (z 3) 1 1099511627776 _ _ h4).mono ?_
                rintro e w' ⟨rfl, rfl⟩
                go_wp2_with fail
                refine (in_is (z 4) 0 10000 _ _ h5).mono ?_
                rintro e w' ⟨rfl, rfl⟩
                go_wp2_with fail
                refine (in_is (z 6) 1 4611686018427387904 _ _ h6).mono ?_
                rintro e w' ⟨rfl, rfl⟩
                go_wp2_with fail
                refine (F _).mono ?_
                rintro e w2 ⟨rfl, hb⟩
                go_wp2_with fail
                go_ret
                exact ⟨rfl, ((Below.refl _ _).alloc (Nat.le_refl _) _).trans (hb.mono (by simp))⟩
theorem namesB_turned (N : Nat → ByteArray) (n most : Nat) (h : allB n (freshB N) = true) : namesB N n most = withB n 1 most := by unfold namesB; rw [h, Bool.and_true]
set_option maxRecDepth 100000 in
set_option maxHeartbeats 4000000 in
theorem namesR_any {w : World} {v : Value} {n : Nat} {N : Nat → ByteArray} (h : Row w v n fun i => .string (N i)) (hz : ∀ i, i < n → (N i).size ≤ 300) (most : Nat) :
    Calls Tryz.prog 21 #[v, .int .i64 (most : Int)] w fun e w' => e = .returned (.bool (namesB N n most)) ∧ Below w.heap.size w w' := by
  obtain ⟨a, cap, rfl, h1, h2, h3⟩ := id h
  unfold maxLen at h2
  obtain ⟨Z, hZ⟩ : ∃ Z, Hid (namesB N n most = Z) := ⟨_, rfl⟩
  rw [show namesB N n most = Z from hZ.out]
  have F0 := fun w => in_any (n : Int) 1 (most : Int) w
  have H3 : Hid (∀ i, i < n → ∃ b off, a = some ⟨b, off, none⟩ ∧ w.cell? ⟨b, off + i, none⟩ = some (.string (N i))) := h3
  clear h h3
  go_enter Tryz.func21, Tryz.ntmps21
  go_wp2_with fail
  go_loopw [5] (fun c wr => ∃ k : Nat, c = .int .i64 (k : Int) ∧ k ≤ n ∧ Hid (∀ i, i < k → freshB N i = true) ∧ Hid (Below w.heap.size w wr)) (fun c _ => n - (RowKit.intOf c).toNat)
  case atStart => exact ⟨0, rfl, Nat.zero_le _, fun i hi => absurd hi (by omega), Below.refl _ _⟩
  case round =>
    obtain ⟨k, rfl, hk, hf, hB⟩ := hrel
    by_cases hlt : k < n
    · have t : (k : Int) < (n : Int) := by omega
      obtain ⟨b, off, rfl, c0⟩ := H3.out k hlt
      have d0 := (hB.out.cell (World.block_lt_of_cell? _ _ c0)).trans c0
      have hsz := hz k hlt
      have G := fun w => refValid_any (N k) w hsz
      cases hv : vldB (N k)
      · have hzz : Hid (Z = false) := hZ.out.symm.trans (names_bad hlt (by unfold freshB; rw [hv]; rfl))
        rw [hv] at G
        clear hf hv c0
        generalize N k = x at *
        go_wp2_with fail
        refine (G _).mono ?_
        rintro e w3 ⟨rfl, hb3⟩
        go_wp2_with fail
        go_ret
        exact ⟨by rw [hzz.out]; rfl, hB.out.trans (hb3.mono hB.out.size)⟩
      · have HV : Hid (vldB (N k) = true) := hv
        rw [hv] at G
        clear hv c0
        obtain ⟨x, HX'⟩ : ∃ x, N k = x := ⟨_, rfl⟩
        have HX : Hid (N k = x) := HX'
        rw [HX'] at d0 G hsz
        clear HX'
        go_wp2_with fail
        refine (G _).mono ?_
        rintro e w3 ⟨rfl, hb3⟩
        have HB3 : Hid (Below w.heap.size w w3) := hB.out.trans (hb3.mono hB.out.size)
        have e0 : w3.cell? ⟨b, off + k, none⟩ = some (.string x) := (hb3.cell (World.block_lt_of_cell? _ _ d0)).trans d0
        clear hb3 G d0 hB
        go_wp2_with fail
        go_loopw [6] (fun c wr => ∃ j : Nat, c = .int .i64 (j : Int) ∧ j ≤ k ∧ Hid (∀ i, i < j → N i ≠ N k) ∧ Hid (Below w3.heap.size w3 wr)) (fun c _ => k - (RowKit.intOf c).toNat)
        case atStart => exact ⟨0, rfl, Nat.zero_le _, fun i hi => absurd hi (by omega), Below.refl _ _⟩
        case round =>
          obtain ⟨j, rfl, hj, hg, hC⟩ := hrel
          by_cases hjk : j < k
          · have t2 : (j : Int) < (k : Int) := by omega
            have t3 : (j : Int) < (n : Int) := by omega
            obtain ⟨b', off', e', c1⟩ := H3.out j (by omega)
            injection e' with e'
            injection e' with e1 e2
            subst e1 e2
            have f0 := (hC.out.cell (World.block_lt_of_cell? _ _ e0)).trans e0
            have f1 := ((HB3.out.trans (hC.out.mono HB3.out.size)).cell (World.block_lt_of_cell? _ _ c1)).trans c1
            obtain ⟨y, HY'⟩ : ∃ y, N j = y := ⟨_, rfl⟩
            have HY : Hid (N j = y) := HY'
            rw [HY'] at f1
            clear HY' c1
            have hb := beq_bytes y x
            by_cases e : y = x
            · rw [decide_eq_true e] at hb
              have hzz : Hid (Z = false) := by
                refine hZ.out.symm.trans (names_bad (i := k) hlt ?_)
                unfold freshB
                rw [HV.out, Bool.true_and]
                exact allB_false hjk (by rw [HY.out, HX.out, e]; simp)
              have HE : Hid (y = x) := e
              clear e hg hf
              go_wp2_with fail
              go_quiet (fail)
              go_wp2_with fail
              go_ret
              have BB := HB3.out.trans (hC.out.mono HB3.out.size)
              exact ⟨by rw [hzz.out]; rfl, ⟨BB.os, BB.tape, BB.output, BB.size, BB.block⟩⟩
            · rw [decide_eq_false e] at hb
              have HG : Hid (∀ i, i < j + 1 → N i ≠ N k) := fun i hi => if q : i = j then by subst q; rw [HY.out, HX.out]; exact e else hg.out i (by omega)
              have HE : Hid (y ≠ x) := e
              clear e hg hf
              go_wp2_with fail
              go_quiet (fail)
              go_wp2_with fail
              go_roundw
              case rel => exact ⟨j + 1, by simp, by omega, HG, ⟨hC.out.os, hC.out.tape, hC.out.output, hC.out.size, hC.out.block⟩⟩
              case measure => simp [RowKit.intOf]; omega
          · have hjk' : j = k := by omega
            subst hjk'
            have t2 : ¬ (j : Int) < (j : Int) := by omega
            have HF : Hid (∀ i, i < j + 1 → freshB N i = true) := fun i hi => if q : i = j then by
                subst q
                unfold freshB
                rw [HV.out, Bool.true_and]
                exact allB_true (fun m hm => decide_eq_true (hg.out m hm)) else hf.out i (by omega)
            have HC : Hid (Below w.heap.size w wr) := HB3.out.trans (hC.out.mono HB3.out.size)
            clear hg hf
            go_wp2_with fail
            go_roundw
            case rel => exact ⟨j + 1, by simp, by omega, HF, HC⟩
            case measure => simp [RowKit.intOf]; omega
    · have hkn : k = n := by omega
      subst hkn
      have hzz : Hid (Z = withB k 1 most) := hZ.out.symm.trans (namesB_turned N k most (allB_true hf.out))
      have t : ¬ (k : Int) < (k : Int) := by omega
      clear hf hz
      go_wp2_with fail
      refine (F0 _).mono ?_
      rintro e w3 ⟨rfl, rfl⟩
      go_wp2_with fail
      go_ret
      exact ⟨by rw [hzz.out]; rfl, hB.out⟩
end Go.Proofs.YtfphjhmhiaepiaaGreat.RU
/-
  A list of names in memory that grows by append.
-/
namespace Go.Proofs.YtfphjhmhiaepiaaGreat.RU
open Go.ChangeShapes Go.WideShapes Go.ChangeAt Go.RowKit Go.Lib

theorem infoStrN : (Tryz.prog.info? 9).map (fun i => (i.zero, i.size, i.bytes)) = some (some (.string ⟨#[]⟩), 1, 16) := by kernel_rfl
/-- A list of k names that grows in memory newer than w0. -/
structure GrowsN (w0 w : World) (v : Value) (k : Nat) (N : Nat → ByteArray) : Prop where
  own : w.ownsRow w0.heap.size 9 1 v k (vals (fun i => .string (N i)) k)
  below : Below w0.heap.size w0 w
theorem GrowsN.none (w0 : World) (N : Nat → ByteArray) : GrowsN w0 w0 (.slice none 0 0) 0 N := ⟨World.ownsRow_nil _ _ _ _, Below.refl _ _⟩
theorem GrowsN.still {w0 w w' : World} {v : Value} {k : Nat} {N : Nat → ByteArray} (h : GrowsN w0 w v k N) (b : Below w.heap.size w w') : GrowsN w0 w' v k N :=
  ⟨own_below h.own b, h.below.trans (b.mono h.below.size)⟩
theorem GrowsN.more {w0 w w' : World} {v v' : Value} {k : Nat} {N : Nat → ByteArray} (h : GrowsN w0 w v k N) (hg : w.grownBy w' v.ownBlock) (hown : w'.ownsRow w0.heap.size 9 1 v' (k + 1) (vals (fun i => .string (N i)) k ++ [.string (N k)])) : GrowsN w0 w' v' (k + 1) N := by
  have BG := But.of_grown hg
  exact ⟨by rw [vals_succ]; exact hown, h.below.trans (BG.below h.below.size (fun k hk => (h.own.lt k hk).1))⟩
theorem GrowsN.shape {w0 w : World} {v : Value} {k : Nat} {N : Nat → ByteArray} (h : GrowsN w0 w v k N) : ∃ a cap, v = .slice a k cap := own_shape h.own
theorem GrowsN.row {w0 w : World} {v : Value} {k : Nat} {N : Nat → ByteArray} (h : GrowsN w0 w v k N) : Row w v k fun i => .string (N i) := row_of_own h.own _ (fun _ hi => vals_at _ hi)
theorem cell_one_newN (w : World) (x : Value) (t : TypeId) : ∀ j u, ([x] : List Value)[j]? = some u → (w.alloc (.cells #[x] t)).cell? ((⟨w.heap.size, 0, none⟩ : Addr).add j) = some u := by
  intro j u hj
  rw [Addr.add_lit, Nat.zero_add]
  match j, hj with
  | 0, hj => simp at hj; subst hj; simp
  | j + 1, hj => simp at hj
end Go.Proofs.YtfphjhmhiaepiaaGreat.RU
/-
  Contract of the fifteenth reference's AccountNames.
-/
namespace Go.Proofs.YtfphjhmhiaepiaaGreat.RU
open Go.ChangeShapes Go.WideShapes Go.ChangeAt Go.RowKit Go.Lib

set_option maxRecDepth 100000 in
set_option maxHeartbeats 4000000 in
theorem namesA_any {w : World} {a1 a2 a3 : Option Addr} {c1 c2 c3 : Nat} {s : Stp} (h : SetIn w a1 a2 a3 c1 c2 c3 s) (hn : s.nA ≤ 1000) :
    Calls Tryz.prog 16 #[.agg #[.slice a1 s.nA c1, .slice a2 s.nS c2, .slice a3 s.nV c3, .int .i64 (s.P 3), .int .i64 (s.P 4), .int .i64 (s.P 5), .int .i64 (s.P 6), .int .i64 (s.P 7), .int .i64 (s.P 8)]] w fun e w' => ∃ v, e = .returned v ∧ Row w' v s.nA (fun i => .string (s.A i).1) ∧ Below w.heap.size w w' := by
  obtain ⟨i0, hi0, hz0, hzs, hzb⟩ := info_parts infoStrN
  obtain ⟨W0, hW0⟩ : ∃ W, W = w.alloc (.cells #[.slice a1 s.nA c1, .slice a2 s.nS c2, .slice a3 s.nV c3, .int .i64 (s.P 3), .int .i64 (s.P 4), .int .i64 (s.P 5), .int .i64 (s.P 6), .int .i64 (s.P 7), .int .i64 (s.P 8)] 33) := ⟨_, rfl⟩
  have HB0 : Hid (Below w.heap.size w W0) := by show Below _ _ _; rw [hW0]; exact (Below.refl _ _).alloc (Nat.le_refl _) _
  have A0 : Hid (SetAt W0 w.heap.size a1 a2 a3 c1 c2 c3 s) := by show SetAt _ _ _ _ _ _ _ _ _; rw [hW0]; exact SetAt.box w a1 a2 a3 c1 c2 c3 s _
  obtain ⟨a, cap, e, h1, h2, h3⟩ := (h.ra).below HB0.out (Nat.le_refl _)
  injection e with e1 _ e2
  subst e1 e2
  have H3 : Hid (∀ i, i < s.nA → ∃ b off, a1 = some ⟨b, off, none⟩ ∧ W0.cell? ⟨b, off + i * 2, none⟩ = some (.string (s.A i).1) ∧ W0.cell? ⟨b, off + i * 2 + 1, none⟩ = some (.int .i64 ((s.A i).2.1 1))) := h3
  clear h h3
  have d0 := A0.out.d0
  rw [hW0] at d0
  go_enter Tryz.func16, Tryz.ntmps16
  go_wp2_with fail
  rw [← hW0] at d0 ⊢
  go_loopw [3, 4] (fun v c wr => ∃ k : Nat, c = .int .i64 (k : Int) ∧ k ≤ s.nA ∧ Hid (GrowsN W0 wr v k (fun i => (s.A i).1))) (fun _ c _ => s.nA - (RowKit.intOf c).toNat)
  case atStart => exact ⟨0, rfl, Nat.zero_le _, GrowsN.none W0 _⟩
  case round =>
    obtain ⟨k, rfl, hk, hG⟩ := hrel
    obtain ⟨q1, q2, rfl⟩ := hG.out.shape
    have e0 := (hG.out.below.cell (World.block_lt_of_cell? _ _ d0)).trans d0
    clear d0 hW0
    by_cases hlt : k < s.nA
    · have t : (k : Int) < (s.nA : Int) := by omega
      obtain ⟨b, off, rfl, c0, c1⟩ := H3.out k hlt
      have f0 := (hG.out.below.cell (World.block_lt_of_cell? _ _ c0)).trans c0
      have G2 : Hid (GrowsN W0 (wr.alloc (.cells #[.string (s.A k).1] 9)) (.slice q1 k q2) k (fun i => (s.A i).1)) := hG.out.still ((Below.refl _ _).alloc (Nat.le_refl _) _)
      have hown := G2.out.own
      have hcn := cell_one_newN wr (.string (s.A k).1) 9
      have hge := hG.out.below.size
      have hk2 : k ≤ 1000 := by omega
      obtain ⟨nm, HN'⟩ : ∃ nm, (s.A k).1 = nm := ⟨_, rfl⟩
      have HN : Hid ((s.A k).1 = nm) := HN'
      rw [HN'] at f0 G2 hown hcn
      clear hG c0 c1 HN'
      go_wp2_with (at_builtin; refine wpList_append_own_at _ rfl _ _ 49 rfl W0.heap.size 9 i0 (.string ⟨#[]⟩) 1 16 Tryz.underlying49 hi0 hz0 hzs hzb rfl (by decide) _ _ _ rfl hown ⟨wr.heap.size, 0, none⟩ 1 1 [.string nm] rfl rfl ?hnews ?hone ?h63 ?hbytes ?hbase ?_)
      case hnews => exact hcn
      case hone => simp [Value.oneCell']
      case h63 => unfold maxLen; omega
      case hbytes => omega
      case hbase => first | omega | (simp; omega)
      intro v5 w5 hown5 hg5 _ _
      have Q5 : Hid (GrowsN W0 w5 v5 (k + 1) (fun i => (s.A i).1)) := G2.out.more hg5 (by rw [HN.out]; exact hown5)
      clear hown5 hg5 hown hcn G2
      go_wp2_with fail
      go_roundw
      case rel => exact ⟨k + 1, by simp, by omega, Q5⟩
      case measure => simp [RowKit.intOf]; omega
    · have hkn : k = s.nA := by omega
      have t : ¬ (k : Int) < (s.nA : Int) := by omega
      go_wp2_with fail
      go_ret
      refine ⟨_, rfl, ?_, HB0.out.trans (hG.out.below.mono HB0.out.size)⟩
      have := hG.out.row
      rwa [hkn] at this
end Go.Proofs.YtfphjhmhiaepiaaGreat.RU
/-
  Contract of the fifteenth reference's SymbolNames.
-/
namespace Go.Proofs.YtfphjhmhiaepiaaGreat.RU
open Go.ChangeShapes Go.WideShapes Go.ChangeAt Go.RowKit Go.Lib

set_option maxRecDepth 100000 in
set_option maxHeartbeats 4000000 in
theorem namesS_any {w : World} {a1 a2 a3 : Option Addr} {c1 c2 c3 : Nat} {s : Stp} (h : SetIn w a1 a2 a3 c1 c2 c3 s) (hn : s.nS ≤ 1000) :
    Calls Tryz.prog 17 #[.agg #[.slice a1 s.nA c1, .slice a2 s.nS c2, .slice a3 s.nV c3, .int .i64 (s.P 3), .int .i64 (s.P 4), .int .i64 (s.P 5), .int .i64 (s.P 6), .int .i64 (s.P 7), .int .i64 (s.P 8)]] w fun e w' => ∃ v, e = .returned v ∧ Row w' v s.nS (fun i => .string (s.S i).1) ∧ Below w.heap.size w w' := by
  obtain ⟨i0, hi0, hz0, hzs, hzb⟩ := info_parts infoStrN
  obtain ⟨W0, hW0⟩ : ∃ W, W = w.alloc (.cells #[.slice a1 s.nA c1, .slice a2 s.nS c2, .slice a3 s.nV c3, .int .i64 (s.P 3), .int .i64 (s.P 4), .int .i64 (s.P 5), .int .i64 (s.P 6), .int .i64 (s.P 7), .int .i64 (s.P 8)] 33) := ⟨_, rfl⟩
  have HB0 : Hid (Below w.heap.size w W0) := by show Below _ _ _; rw [hW0]; exact (Below.refl _ _).alloc (Nat.le_refl _) _
  have A0 : Hid (SetAt W0 w.heap.size a1 a2 a3 c1 c2 c3 s) := by show SetAt _ _ _ _ _ _ _ _ _; rw [hW0]; exact SetAt.box w a1 a2 a3 c1 c2 c3 s _
  obtain ⟨a, cap, e, h1, h2, h3⟩ := (h.rs).below HB0.out (Nat.le_refl _)
  injection e with e1 _ e2
  subst e1 e2
  have H3 : Hid (∀ i, i < s.nS → ∃ b off, a2 = some ⟨b, off, none⟩ ∧ W0.cell? ⟨b, off + i * 7, none⟩ = some (.string (s.S i).1) ∧ W0.cell? ⟨b, off + i * 7 + 1, none⟩ = some (.int .i64 ((s.S i).2.1 1)) ∧ W0.cell? ⟨b, off + i * 7 + 1 + 1, none⟩ = some (.int .i64 ((s.S i).2.1 2)) ∧ W0.cell? ⟨b, off + i * 7 + 1 + 1 + 1, none⟩ = some (.int .i64 ((s.S i).2.1 3)) ∧ W0.cell? ⟨b, off + i * 7 + 1 + 1 + 1 + 1, none⟩ = some (.int .i64 ((s.S i).2.1 4)) ∧ W0.cell? ⟨b, off + i * 7 + 1 + 1 + 1 + 1 + 1, none⟩ = some (.int .i64 ((s.S i).2.1 5)) ∧ W0.cell? ⟨b, off + i * 7 + 1 + 1 + 1 + 1 + 1 + 1, none⟩ = some (.int .i64 ((s.S i).2.1 6))) := h3
  clear h h3
  have d1 := A0.out.d1
  rw [hW0] at d1
  go_enter Tryz.func17, Tryz.ntmps17
  go_wp2_with fail
  rw [← hW0] at d1 ⊢
  go_loopw [3, 4] (fun v c wr => ∃ k : Nat, c = .int .i64 (k : Int) ∧ k ≤ s.nS ∧ Hid (GrowsN W0 wr v k (fun i => (s.S i).1))) (fun _ c _ => s.nS - (RowKit.intOf c).toNat)
  case atStart => exact ⟨0, rfl, Nat.zero_le _, GrowsN.none W0 _⟩
  case round =>
    obtain ⟨k, rfl, hk, hG⟩ := hrel
    obtain ⟨q1, q2, rfl⟩ := hG.out.shape
    have e0 := (hG.out.below.cell (World.block_lt_of_cell? _ _ d1)).trans d1
    clear d1 hW0
    by_cases hlt : k < s.nS
    · have t : (k : Int) < (s.nS : Int) := by omega
      obtain ⟨b, off, rfl, c0, c1, c2, c3, c4, c5, c6⟩ := H3.out k hlt
      have f0 := (hG.out.below.cell (World.block_lt_of_cell? _ _ c0)).trans c0
      have G2 : Hid (GrowsN W0 (wr.alloc (.cells #[.string (s.S k).1] 9)) (.slice q1 k q2) k (fun i => (s.S i).1)) := hG.out.still ((Below.refl _ _).alloc (Nat.le_refl _) _)
      have hown := G2.out.own
      have hcn := cell_one_newN wr (.string (s.S k).1) 9
      have hge := hG.out.below.size
      have hk2 : k ≤ 1000 := by omega
      obtain ⟨nm, HN'⟩ : ∃ nm, (s.S k).1 = nm := ⟨_, rfl⟩
      have HN : Hid ((s.S k).1 = nm) := HN'
      rw [HN'] at f0 G2 hown hcn
      clear hG c0 c1 c2 c3 c4 c5 c6 HN'
      go_wp2_with (at_builtin; refine wpList_append_own_at _ rfl _ _ 49 rfl W0.heap.size 9 i0 (.string ⟨#[]⟩) 1 16 Tryz.underlying49 hi0 hz0 hzs hzb rfl (by decide) _ _ _ rfl hown ⟨wr.heap.size, 0, none⟩ 1 1 [.string nm] rfl rfl ?hnews ?hone ?h63 ?hbytes ?hbase ?_)
      case hnews => exact hcn
      case hone => simp [Value.oneCell']
      case h63 => unfold maxLen; omega
      case hbytes => omega
      case hbase => first | omega | (simp; omega)
      intro v5 w5 hown5 hg5 _ _
      have Q5 : Hid (GrowsN W0 w5 v5 (k + 1) (fun i => (s.S i).1)) := G2.out.more hg5 (by rw [HN.out]; exact hown5)
      clear hown5 hg5 hown hcn G2
      go_wp2_with fail
      go_roundw
      case rel => exact ⟨k + 1, by simp, by omega, Q5⟩
      case measure => simp [RowKit.intOf]; omega
    · have hkn : k = s.nS := by omega
      have t : ¬ (k : Int) < (s.nS : Int) := by omega
      go_wp2_with fail
      go_ret
      refine ⟨_, rfl, ?_, HB0.out.trans (hG.out.below.mono HB0.out.size)⟩
      have := hG.out.row
      rwa [hkn] at this
end Go.Proofs.YtfphjhmhiaepiaaGreat.RU
/-
  Contract of the fifteenth reference's VenueNames.
-/
namespace Go.Proofs.YtfphjhmhiaepiaaGreat.RU
open Go.ChangeShapes Go.WideShapes Go.ChangeAt Go.RowKit Go.Lib

set_option maxRecDepth 100000 in
set_option maxHeartbeats 4000000 in
theorem namesV_any {w : World} {a1 a2 a3 : Option Addr} {c1 c2 c3 : Nat} {s : Stp} (h : SetIn w a1 a2 a3 c1 c2 c3 s) (hn : s.nV ≤ 1000) :
    Calls Tryz.prog 18 #[.agg #[.slice a1 s.nA c1, .slice a2 s.nS c2, .slice a3 s.nV c3, .int .i64 (s.P 3), .int .i64 (s.P 4), .int .i64 (s.P 5), .int .i64 (s.P 6), .int .i64 (s.P 7), .int .i64 (s.P 8)]] w fun e w' => ∃ v, e = .returned v ∧ Row w' v s.nV (fun i => .string (s.V i).1) ∧ Below w.heap.size w w' := by
  obtain ⟨i0, hi0, hz0, hzs, hzb⟩ := info_parts infoStrN
  obtain ⟨W0, hW0⟩ : ∃ W, W = w.alloc (.cells #[.slice a1 s.nA c1, .slice a2 s.nS c2, .slice a3 s.nV c3, .int .i64 (s.P 3), .int .i64 (s.P 4), .int .i64 (s.P 5), .int .i64 (s.P 6), .int .i64 (s.P 7), .int .i64 (s.P 8)] 33) := ⟨_, rfl⟩
  have HB0 : Hid (Below w.heap.size w W0) := by show Below _ _ _; rw [hW0]; exact (Below.refl _ _).alloc (Nat.le_refl _) _
  have A0 : Hid (SetAt W0 w.heap.size a1 a2 a3 c1 c2 c3 s) := by show SetAt _ _ _ _ _ _ _ _ _; rw [hW0]; exact SetAt.box w a1 a2 a3 c1 c2 c3 s _
  obtain ⟨a, cap, e, h1, h2, h3⟩ := (h.rv).below HB0.out (Nat.le_refl _)
  injection e with e1 _ e2
  subst e1 e2
  have H3 : Hid (∀ i, i < s.nV → ∃ b off, a3 = some ⟨b, off, none⟩ ∧ W0.cell? ⟨b, off + i * 5, none⟩ = some (.string (s.V i).1) ∧ W0.cell? ⟨b, off + i * 5 + 1, none⟩ = some (.int .i64 ((s.V i).2.1 1)) ∧ W0.cell? ⟨b, off + i * 5 + 1 + 1, none⟩ = some (.int .i64 ((s.V i).2.1 2)) ∧ W0.cell? ⟨b, off + i * 5 + 1 + 1 + 1, none⟩ = some (.int .i64 ((s.V i).2.1 3)) ∧ W0.cell? ⟨b, off + i * 5 + 1 + 1 + 1 + 1, none⟩ = some (.bool (s.V i).2.2)) := h3
  clear h h3
  have d2 := A0.out.d2
  rw [hW0] at d2
  go_enter Tryz.func18, Tryz.ntmps18
  go_wp2_with fail
  rw [← hW0] at d2 ⊢
  go_loopw [3, 4] (fun v c wr => ∃ k : Nat, c = .int .i64 (k : Int) ∧ k ≤ s.nV ∧ Hid (GrowsN W0 wr v k (fun i => (s.V i).1))) (fun _ c _ => s.nV - (RowKit.intOf c).toNat)
  case atStart => exact ⟨0, rfl, Nat.zero_le _, GrowsN.none W0 _⟩
  case round =>
    obtain ⟨k, rfl, hk, hG⟩ := hrel
    obtain ⟨q1, q2, rfl⟩ := hG.out.shape
    have e0 := (hG.out.below.cell (World.block_lt_of_cell? _ _ d2)).trans d2
    clear d2 hW0
    by_cases hlt : k < s.nV
    · have t : (k : Int) < (s.nV : Int) := by omega
      obtain ⟨b, off, rfl, c0, c1, c2, c3, c4⟩ := H3.out k hlt
      have f0 := (hG.out.below.cell (World.block_lt_of_cell? _ _ c0)).trans c0
      have G2 : Hid (GrowsN W0 (wr.alloc (.cells #[.string (s.V k).1] 9)) (.slice q1 k q2) k (fun i => (s.V i).1)) := hG.out.still ((Below.refl _ _).alloc (Nat.le_refl _) _)
      have hown := G2.out.own
      have hcn := cell_one_newN wr (.string (s.V k).1) 9
      have hge := hG.out.below.size
      have hk2 : k ≤ 1000 := by omega
      obtain ⟨nm, HN'⟩ : ∃ nm, (s.V k).1 = nm := ⟨_, rfl⟩
      have HN : Hid ((s.V k).1 = nm) := HN'
      rw [HN'] at f0 G2 hown hcn
      clear hG c0 c1 c2 c3 c4 HN'
      go_wp2_with (at_builtin; refine wpList_append_own_at _ rfl _ _ 49 rfl W0.heap.size 9 i0 (.string ⟨#[]⟩) 1 16 Tryz.underlying49 hi0 hz0 hzs hzb rfl (by decide) _ _ _ rfl hown ⟨wr.heap.size, 0, none⟩ 1 1 [.string nm] rfl rfl ?hnews ?hone ?h63 ?hbytes ?hbase ?_)
      case hnews => exact hcn
      case hone => simp [Value.oneCell']
      case h63 => unfold maxLen; omega
      case hbytes => omega
      case hbase => first | omega | (simp; omega)
      intro v5 w5 hown5 hg5 _ _
      have Q5 : Hid (GrowsN W0 w5 v5 (k + 1) (fun i => (s.V i).1)) := G2.out.more hg5 (by rw [HN.out]; exact hown5)
      clear hown5 hg5 hown hcn G2
      go_wp2_with fail
      go_roundw
      case rel => exact ⟨k + 1, by simp, by omega, Q5⟩
      case measure => simp [RowKit.intOf]; omega
    · have hkn : k = s.nV := by omega
      have t : ¬ (k : Int) < (s.nV : Int) := by omega
      go_wp2_with fail
      go_ret
      refine ⟨_, rfl, ?_, HB0.out.trans (hG.out.below.mono HB0.out.size)⟩
      have := hG.out.row
      rwa [hkn] at this
end Go.Proofs.YtfphjhmhiaepiaaGreat.RU
