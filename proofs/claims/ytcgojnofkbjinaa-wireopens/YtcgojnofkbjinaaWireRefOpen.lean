/-
  The contract of the reference's Open.
-/
import Derived.Test.YtcgojnofkbjinaaWireRefSeal
namespace Go.Proofs.Ytcgojnofkbjinaa
open Go.ChangeShapes Go.WideShapes Go.ChangeAt Go.RowKit Go.Lib

theorem open_as {l : List UInt8} {x B : List UInt8} {y z M E : Nat} (h : openE l = (x, y, z)) (k : openE l = (B, M, E)) : x = B ∧ y = M ∧ z = E := by
  rw [h] at k
  simpa using k
theorem open_begin {l : List UInt8} {E : Nat} (hE : E = begR beginL l) (h : E ≠ 0) : openE l = ([], 0, E) := by
  subst hE
  unfold openE
  rw [if_neg h]
theorem open_len {l : List UInt8} (hb : begR beginL l = 0) {N P E : Nat} (h : lenR (l.drop 12) 0 0 = (N, P, E)) (h0 : E ≠ 0) : openE l = ([], 0, E) := by
  unfold openE
  rw [if_pos hb, h, if_neg h0]
theorem open_rest {l : List UInt8} (hb : begR beginL l = 0) {N P : Nat} (h : lenR (l.drop 12) 0 0 = (N, P, 0)) : openE l = restE l N (12 + P) := by
  unfold openE
  rw [if_pos hb, h, if_pos rfl]
theorem beg_byte (s : ByteArray) {k : Nat} (h : k < s.size) (h12 : k < beginS.size) : begR (beginL.drop k) (s.data.toList.drop k) = if (s[k]'h).toNat = (beginS[k]'h12).toNat then begR (beginL.drop (k + 1)) (s.data.toList.drop (k + 1)) else 101 := by
  have e1 : beginL.drop k = (beginS[k]'h12) :: beginL.drop (k + 1) := drop_byte beginS h12
  rw [e1, drop_byte s h, begR]
  by_cases e : s[k]'h = beginS[k]'h12
  · rw [if_pos e, if_pos (by rw [e])]
  · rw [if_neg e, if_neg (fun c => e (UInt8.toNat_inj.1 c))]
theorem begin_byte (k : Nat) (h : k < beginS.size) (c : Nat) (hc : (beginS[k]'h).toNat = c) : ∀ w, (Instr.index 9 (.string beginS) (.int .i64 (k : Int))).run Try.prog w = .ok (.int .u8 (c : Int)) w := by
  intro w
  rw [run_index_string w 9 beginS .i64 (k : Int) Try.underlying9, dif_pos (by omega)]
  rw [← hc]
  rfl
set_option maxRecDepth 1000000 in
set_option maxHeartbeats 8000000 in
theorem refOpen_any (s : ByteArray) (w : World) (hs : s.size ≤ 100000) :
    Calls Try.prog 11 #[.string s] w fun e w' => e = .returned (.tuple #[.string (mk (openE s.data.toList).1), .int .i64 ((openE s.data.toList).2.1 : Int), .int .i64 ((openE s.data.toList).2.2 : Int)]) ∧ Below w.heap.size w w' := by
  obtain ⟨B, M, E, hO⟩ : ∃ B M E, openE s.data.toList = (B, M, E) := ⟨_, _, _, rfl⟩
  rw [hO]
  dsimp only
  have HO : Hid (openE s.data.toList = (B, M, E)) := hO
  clear hO
  go_enter Try.func11, Try.ntmps11
  go_wp2_with fail
  go_loopw [5] (fun i wr => ∃ k : Nat, i = .int .i64 (k : Int) ∧ k ≤ 12 ∧ k ≤ s.size ∧ begR (beginL.drop k) (s.data.toList.drop k) = begR beginL s.data.toList ∧ Below w.heap.size w wr) (fun i _ => 12 - (RowKit.intOf i).toNat)
  case atStart => exact ⟨0, rfl, by omega, by omega, by rw [List.drop_zero, List.drop_zero], Below.refl _ _⟩
  case round =>
    obtain ⟨k, rfl, hk, hks, hg, hB⟩ := hrel
    by_cases hp : k < 12
    · have t0 : (k : Int) < 12 := by omega
      by_cases hz : k < s.size
      · have t1 : ¬ (s.size : Int) ≤ (k : Int) := by omega
        have t2 : (k : Int) < (s.size : Int) := by omega
        have h12 : k < beginS.size := hp
        rw [beg_byte s hz h12] at hg
        obtain ⟨c, hc⟩ : ∃ c, (s[k]'hz).toNat = c := ⟨_, rfl⟩
        obtain ⟨c2, hc2⟩ : ∃ c2, (beginS[k]'h12).toNat = c2 := ⟨_, rfl⟩
        have hi := begin_byte k h12 c2 hc2
        rw [hc, hc2] at hg
        by_cases he : c = c2
        · rw [if_pos he] at hg
          have t3 : ((c : Int) != (c2 : Int)) = false := by simp [he]
          have HG : Hid (begR (beginL.drop (k + 1)) (s.data.toList.drop (k + 1)) = begR beginL s.data.toList) := hg
          clear hg he h12 hc2
          go_wp2_with fail
          go_quiet (fail)
          go_wp2_with fail
          go_roundw
          case rel => exact ⟨k + 1, by simp, by omega, by omega, HG.out, below_more hB _⟩
          case measure => simp [RowKit.intOf]; omega
        · rw [if_neg he] at hg
          have t3 : ((c : Int) != (c2 : Int)) = true := by simp; omega
          have HG : Hid ([] = B ∧ 0 = M ∧ 101 = E) := open_as (open_begin hg (by decide)) HO.out
          clear hg he h12 hc2 HO
          go_wp2_with fail
          go_quiet (fail)
          go_wp2_with fail
          go_ret3
          obtain ⟨rfl, rfl, rfl⟩ := HG.out
          exact ⟨rfl, below_more hB _⟩
      · have t1 : (s.size : Int) ≤ (k : Int) := by omega
        rw [beg_short s (by omega) hp] at hg
        have HG : Hid ([] = B ∧ 0 = M ∧ 100 = E) := open_as (open_begin hg (by decide)) HO.out
        clear hg HO
        go_wp2_with fail
        go_ret3
        obtain ⟨rfl, rfl, rfl⟩ := HG.out
        exact ⟨rfl, hB⟩
    · have hk12 : k = 12 := by omega
      have hb : begR beginL s.data.toList = 0 := by
        rw [← hg, hk12, show beginL.drop 12 = [] from rfl]
        rfl
      have HBG : Hid (begR beginL s.data.toList = 0) := hb
      have h12 : 12 ≤ s.size := by omega
      have tk : ¬ (k : Int) < 12 := by omega
      clear hg hb hk12 hk hks
      obtain ⟨N, P, E0, hR⟩ : ∃ N P E0, lenR (s.data.toList.drop 12) 0 0 = (N, P, E0) := ⟨_, _, _, rfl⟩
      have HBAD : Hid (E0 ≠ 0 → [] = B ∧ 0 = M ∧ E0 = E) := fun h => open_as (open_len HBG.out hR h) HO.out
      have HR : Hid (lenR (s.data.toList.drop 12) 0 0 = (N, P, E0)) := hR
      go_wp2_with fail
      go_loopw [7, 8] (fun i u w' => ∃ (a k num : Nat), w' = wr ∧ i = .int .i64 (a : Int) ∧ u = .int .i64 (num : Int) ∧ a = 12 + k ∧ a ≤ s.size ∧ num ≤ 4096 ∧ (k = 0 → num = 0) ∧ lenR (s.data.toList.drop a) k num = (N, P, E0)) (fun i _ _ => s.size - (RowKit.intOf i).toNat)
      case atStart => exact ⟨12, 0, 0, rfl, rfl, rfl, rfl, h12, by omega, fun _ => rfl, hR⟩
      case round =>
        clear hR
        obtain ⟨a, k, num, rfl, rfl, rfl, ha, has, hn, hk0, hg⟩ := hrel
        by_cases hp : a < s.size
        · have t0 : ¬ (s.size : Int) ≤ (a : Int) := by omega
          have t1 : (a : Int) < (s.size : Int) := by omega
          rw [drop_byte s hp, lenR] at hg
          obtain ⟨c, hc⟩ : ∃ c, (s[a]'hp).toNat = c := ⟨_, rfl⟩
          have hc8 : c < 256 := by rw [← hc]; exact UInt8.toNat_lt _
          rw [hc] at hg
          by_cases k0 : k = 0
          · obtain rfl : num = 0 := hk0 k0
            subst k0
            obtain rfl : a = 12 := ha
            by_cases c0 : c = 1
            · subst c0
              have HG : Hid ([] = B ∧ 0 = M ∧ 102 = E) := by
                rw [if_neg (by omega), if_pos (by omega)] at hg
                simp only [Prod.mk.injEq] at hg
                obtain ⟨rfl, rfl, rfl⟩ := hg
                exact HBAD.out (by decide)
              clear hg HBAD HR HO HBG
              go_wp2_with fail
              go_ret3
              obtain ⟨rfl, rfl, rfl⟩ := HG.out
              exact ⟨rfl, hB⟩
            have u1 : ((c : Int) != 1) = true := by simp; omega
            by_cases c1 : (c : Int) < 48
            · skip
              have HG : Hid ([] = B ∧ 0 = M ∧ 102 = E) := by
                rw [if_neg (by omega), if_pos (by omega)] at hg
                simp only [Prod.mk.injEq] at hg
                obtain ⟨rfl, rfl, rfl⟩ := hg
                exact HBAD.out (by decide)
              clear hg HBAD HR HO HBG
              go_wp2_with fail
              go_ret3
              obtain ⟨rfl, rfl, rfl⟩ := HG.out
              exact ⟨rfl, hB⟩
            by_cases c2 : (57 : Int) < (c : Int)
            · skip
              have HG : Hid ([] = B ∧ 0 = M ∧ 102 = E) := by
                rw [if_neg (by omega), if_pos (by omega)] at hg
                simp only [Prod.mk.injEq] at hg
                obtain ⟨rfl, rfl, rfl⟩ := hg
                exact HBAD.out (by decide)
              clear hg HBAD HR HO HBG
              go_wp2_with fail
              go_ret3
              obtain ⟨rfl, rfl, rfl⟩ := HG.out
              exact ⟨rfl, hB⟩
            by_cases c3 : c = 48
            · subst c3
              have HG : Hid ([] = B ∧ 0 = M ∧ 102 = E) := by
                rw [if_neg (by omega), if_pos (by omega)] at hg
                simp only [Prod.mk.injEq] at hg
                obtain ⟨rfl, rfl, rfl⟩ := hg
                exact HBAD.out (by decide)
              clear hg HBAD HR HO HBG
              go_wp2_with fail
              go_ret3
              obtain ⟨rfl, rfl, rfl⟩ := HG.out
              exact ⟨rfl, hB⟩
            have t4 : ((c : Int) == 48) = false := beq_false_of_ne (by omega)
            have t5 : ¬ (4096 : Int) < ((c : Int) - 48) := by omega
            rw [if_neg (by omega), if_neg (by omega), if_neg (by omega)] at hg
            have HG : Hid (lenR (s.data.toList.drop (12 + 1)) (0 + 1) (10 * 0 + (c - 48)) = (N, P, E0)) := hg
            clear hg
            go_wp2_with fail
            go_roundw
            case rel => exact ⟨12 + 1, 0 + 1, 10 * 0 + (c - 48), trivial, by simp, by congr 1; omega, by omega, by omega, by omega, by omega, HG.out⟩
            case measure => simp [RowKit.intOf]; omega
          · have k1 : ((a : Int) == 12) = false := beq_false_of_ne (by omega)
            have HA : Hid (a = 12 + k) := ha
            clear ha hk0
            by_cases c0 : c = 1
            · rw [if_pos (by omega)] at hg
              simp only [Prod.mk.injEq] at hg
              obtain ⟨rfl, rfl, rfl⟩ := hg
              have u1 : ((c : Int) != 1) = false := by simp [c0]
              have hN := HR.out
              have HRE := open_rest HBG.out hN
              obtain ⟨_, _, _, n1, n2⟩ := len_head hN
              obtain ⟨p, hp1⟩ : ∃ p, a + 1 = p := ⟨_, rfl⟩
              have hpe : 12 + (k + 1) = p := by have := HA.out; omega
              rw [hpe] at HRE
              unfold restE at HRE
              rw [← size_eq] at HRE
              have HP : Hid (a + 1 = p) := hp1
              clear hp1
              by_cases hl : s.size < p + num + 7
              · have v0 : (s.size : Int) < (a : Int) + 1 + (num : Int) + 7 := by have := HP.out; omega
                rw [if_pos hl] at HRE
                have HG : Hid ([] = B ∧ 0 = M ∧ 100 = E) := open_as HRE HO.out
                clear HRE HBAD HR HO HBG c0 hN
                go_wp2_with fail
                go_ret3
                obtain ⟨rfl, rfl, rfl⟩ := HG.out
                exact ⟨rfl, hB⟩
              · have v0 : ¬ (s.size : Int) < (a : Int) + 1 + (num : Int) + 7 := by have := HP.out; omega
                rw [if_neg hl] at HRE
                have hpI : (p : Int) = (a : Int) + 1 := by have := HP.out; omega
                have hsz : (s.extract p (p + num)).size = num := by rw [size_eq, ext_list, mk_list, List.length_take, List.length_drop, ← size_eq]; omega
                have F := fun w => refForm10_any (s.extract p (p + num)) w (by omega)
                have eB : (s.extract p (p + num)).data.toList = (s.data.toList.drop p).take num := by rw [ext_list, mk_list]; congr 1; omega
                rw [eB] at F
                have hop := open_whole HBG.out hN (by rw [hpe, ← size_eq]; exact hl)
                rw [hpe] at hop
                have hsl : ∀ w, (Instr.slice 9 (.string s) none (some (.int .i64 ((a : Int) + 1 + (num : Int) + 7))) none).run Try.prog w = .ok (.string (s.extract 0 (p + num + 7))) w := by
                  intro w
                  rw [run_slice_string_to_if w 9 s .i64 _ Try.underlying9, if_pos (by omega)]
                  congr 3
                  omega
                have hw1 : IntKind.i64.wrap ((a : Int) + 1 + (num : Int)) = (a : Int) + 1 + (num : Int) := by rw [IntKind.wrap_i64]; omega
                have hw2 : IntKind.i64.wrap ((a : Int) + 1 + (num : Int) + 7) = (a : Int) + 1 + (num : Int) + 7 := by rw [IntKind.wrap_i64]; omega
                have hx : s.extract (a + 1) (a + 1 + num) = s.extract p (p + num) := by rw [HP.out]
                clear hN hpI
                by_cases h3 : (s.data.toList.drop (p + num)).take 7 = trailL (s.data.toList.take (p + num))
                · have t9 : ((s.extract 0 (p + num + 7)).toList == (mk (formL ((s.data.toList.drop p).take num))).toList) = true := by
                    rw [beq_bytes]
                    refine decide_eq_true ?_
                    rw [ext_head, hop.1 h3]
                  rw [if_pos h3] at HRE
                  generalize mk (formL ((s.data.toList.drop p).take num)) = X at *
                  have G := fun w => refFields_any (s.extract p (p + num)) w (by omega)
                  rw [eB] at G
                  generalize s.extract 0 (p + num + 7) = Z at *
                  by_cases h4 : (fieldsL ((s.data.toList.drop p).take num)).2.2 = 0
                  · rw [if_pos h4] at HRE
                    have HG := open_as HRE HO.out
                    have eY : s.extract p (p + num) = mk ((s.data.toList.drop p).take num) := by rw [← eB, list_mk]
                    rw [h4] at G
                    generalize (fieldsL ((s.data.toList.drop p).take num)).2.1 = A1 at G
                    generalize (fieldsL ((s.data.toList.drop p).take num)).1 = L1 at G
                    have HG2 : Hid (s.extract p (p + num) = mk B ∧ (a : Int) + 1 + (num : Int) + 7 = (M : Int) ∧ 0 = E) := by
                      refine ⟨by rw [eY, HG.1], ?_, HG.2.2⟩
                      have := HG.2.1
                      have := HP.out
                      omega
                    generalize s.extract p (p + num) = Y at *
                    clear HRE HBAD HR HO HBG c0 hop h3 h4 eB hpe n1 n2 hsz HG eY
                    go_wp2_with fail
                    go_region_held3 (fun _ => True) (trivial) ((go_at_call 20; refine (F _).mono ?_; rintro e w5 ⟨rfl, hb5⟩))
                    have B5 := hB.drew.trans (hb5.mono hB.size)
                    clear hw1 hw2 hsl hx hb5 F
                    go_wp2_with fail
                    refine (G _).mono ?_
                    rintro e w6 ⟨v, rfl, hg6⟩
                    have B6 := B5.trans (hg6.below.mono B5.size)
                    clear hg6 G B5
                    go_wp2_with fail
                    go_ret3
                    obtain ⟨e1, e2, e3⟩ := HG2.out
                    subst e3
                    exact ⟨by rw [e1, e2]; rfl, B6⟩
                  · rw [if_neg h4] at HRE
                    have HG : Hid ([] = B ∧ 0 = M ∧ (fieldsL ((s.data.toList.drop p).take num)).2.2 = E) := open_as HRE HO.out
                    generalize (fieldsL ((s.data.toList.drop p).take num)).2.1 = A1 at *
                    generalize (fieldsL ((s.data.toList.drop p).take num)).1 = L1 at *
                    generalize (fieldsL ((s.data.toList.drop p).take num)).2.2 = E1 at *
                    have u9 : ((E1 : Int) == 0) = false := beq_false_of_ne (by omega)
                    generalize s.extract p (p + num) = Y at *
                    clear HRE HBAD HR HO HBG c0 hop h3 h4 eB hpe n1 n2 hsz
                    go_wp2_with fail
                    go_region_held3 (fun _ => True) (trivial) ((go_at_call 20; refine (F _).mono ?_; rintro e w5 ⟨rfl, hb5⟩))
                    have B5 := hB.drew.trans (hb5.mono hB.size)
                    clear hw1 hw2 hsl hx hb5 F
                    go_wp2_with fail
                    refine (G _).mono ?_
                    rintro e w6 ⟨v, rfl, hg6⟩
                    have B6 := B5.trans (hg6.below.mono B5.size)
                    clear hg6 G B5
                    go_wp2_with fail
                    go_ret3
                    obtain ⟨rfl, rfl, rfl⟩ := HG.out
                    exact ⟨rfl, B6⟩
                · rw [if_neg h3] at HRE
                  have HG : Hid ([] = B ∧ 0 = M ∧ 103 = E) := open_as HRE HO.out
                  have t9 : ((s.extract 0 (p + num + 7)).toList == (mk (formL ((s.data.toList.drop p).take num))).toList) = false := by
                    rw [beq_bytes]
                    refine decide_eq_false (fun e => h3 (hop.2 ?_))
                    have := congrArg (fun x : ByteArray => x.data.toList) e
                    rw [ext_head] at this
                    simpa [mk] using this
                  generalize mk (formL ((s.data.toList.drop p).take num)) = X at *
                  generalize s.extract p (p + num) = Y at *
                  generalize s.extract 0 (p + num + 7) = Z at *
                  clear HRE HBAD HR HO HBG c0 hop h3 eB hpe n1 n2 hsz
                  go_wp2_with fail
                  go_region_held3 (fun _ => True) (trivial) ((go_at_call 20; refine (F _).mono ?_; rintro e w5 ⟨rfl, hb5⟩))
                  have B5 := hB.drew.trans (hb5.mono hB.size)
                  clear hw1 hw2 hsl hx hb5 F
                  go_wp2_with fail
                  go_ret3
                  obtain ⟨rfl, rfl, rfl⟩ := HG.out
                  exact ⟨rfl, B5⟩
            have u1 : ((c : Int) != 1) = true := by simp; omega
            by_cases c1 : (c : Int) < 48
            · skip
              have HG : Hid ([] = B ∧ 0 = M ∧ 102 = E) := by
                rw [if_neg (by omega), if_pos (by omega)] at hg
                simp only [Prod.mk.injEq] at hg
                obtain ⟨rfl, rfl, rfl⟩ := hg
                exact HBAD.out (by decide)
              clear hg HBAD HR HO HBG
              go_wp2_with fail
              go_ret3
              obtain ⟨rfl, rfl, rfl⟩ := HG.out
              exact ⟨rfl, hB⟩
            by_cases c2 : (57 : Int) < (c : Int)
            · skip
              have HG : Hid ([] = B ∧ 0 = M ∧ 102 = E) := by
                rw [if_neg (by omega), if_pos (by omega)] at hg
                simp only [Prod.mk.injEq] at hg
                obtain ⟨rfl, rfl, rfl⟩ := hg
                exact HBAD.out (by decide)
              clear hg HBAD HR HO HBG
              go_wp2_with fail
              go_ret3
              obtain ⟨rfl, rfl, rfl⟩ := HG.out
              exact ⟨rfl, hB⟩
            by_cases hov : 4096 < 10 * num + (c - 48)
            · have t5 : (4096 : Int) < 10 * (num : Int) + ((c : Int) - 48) := by omega
              have HG : Hid ([] = B ∧ 0 = M ∧ 102 = E) := by
                rw [if_neg (by omega), if_neg (by omega), if_pos hov] at hg
                simp only [Prod.mk.injEq] at hg
                obtain ⟨rfl, rfl, rfl⟩ := hg
                exact HBAD.out (by decide)
              clear hg HBAD HR HO HBG
              go_wp2_with fail
              go_ret3
              obtain ⟨rfl, rfl, rfl⟩ := HG.out
              exact ⟨rfl, hB⟩
            have t5 : ¬ (4096 : Int) < 10 * (num : Int) + ((c : Int) - 48) := by omega
            rw [if_neg (by omega), if_neg (by omega), if_neg hov] at hg
            have HG : Hid (lenR (s.data.toList.drop (a + 1)) (k + 1) (10 * num + (c - 48)) = (N, P, E0)) := hg
            clear hg
            go_wp2_with fail
            go_roundw
            case rel => exact ⟨a + 1, k + 1, 10 * num + (c - 48), trivial, by simp, by congr 1; omega, by have := HA.out; omega, by omega, by omega, by omega, HG.out⟩
            case measure => simp [RowKit.intOf]; omega
        · have t0 : (s.size : Int) ≤ (a : Int) := by omega
          have e0 : s.data.toList.drop a = [] := List.drop_eq_nil_of_le (by rw [← size_eq]; omega)
          rw [e0, lenR] at hg
          have HG : Hid ([] = B ∧ 0 = M ∧ 100 = E) := by
            simp only [Prod.mk.injEq] at hg
            obtain ⟨rfl, rfl, rfl⟩ := hg
            exact HBAD.out (by decide)
          clear hg HBAD HR HO HBG e0
          go_wp2_with fail
          go_ret3
          obtain ⟨rfl, rfl, rfl⟩ := HG.out
          exact ⟨rfl, hB⟩
end Go.Proofs.Ytcgojnofkbjinaa
