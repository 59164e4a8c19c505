/-
  The reference's Next and Fields: the same as the program's.
-/
import Derived.Test.YtcgojnofkbjinaaTagRef
import Derived.Test.YtcgojnofkbjinaaTagFields
namespace Go.Proofs.Ytcgojnofkbjinaa
open Go.ChangeShapes Go.WideShapes Go.ChangeAt Go.RowKit Go.Lib

/-- Where the value ends by its sign. -/
theorem next_end {l : List UInt8} {N b q : Nat} (hR : tagR l 0 0 = (N, b, 0)) (hM : q + runM (512 - q) ((l.drop b).drop q) = runM 512 (l.drop b)) (hq : q < (l.drop b).length) (h1 : (l.drop b).getD q 0 = 1) (h0 : 0 < q) :
    nextL l = (((N : Int), mk ((l.drop b).take q)), b + q + 1, 0) := by
  have hd : decodeL ((l.drop b).drop q) = (1, 1) := by
    have hne := drop_ne hq
    cases hx : (l.drop b).drop q with
    | nil => exact absurd hx hne
    | cons c r =>
      have : c = 1 := by
        have e := getD_dropU (l.drop b) q 0
        rw [hx, Nat.add_zero, h1] at e
        exact e
      subst this
      exact decode_one 1 r (by decide)
  have he : runM 512 (l.drop b) = q := by
    rw [← hM, runM_step _ (drop_ne hq), hd, if_neg (fun e => absurd e.1 (by decide))]
    rfl
  have hv : valL (l.drop b) = ((l.drop b).take q, 0) := by
    unfold valL
    rw [he, if_neg (by omega), if_neg (by
      rintro (e | e)
      · omega
      · exact e h1)]
  rw [next_good hR, hv]
  dsimp only
  rw [if_pos rfl, List.length_take, Nat.min_eq_left (Nat.le_of_lt hq)]
/-- Where a rune may not be, or is too much. -/
theorem next_stop {l : List UInt8} {N b q : Nat} (hR : tagR l 0 0 = (N, b, 0)) (hM : q + runM (512 - q) ((l.drop b).drop q) = runM 512 (l.drop b)) (hq : q < (l.drop b).length) (h5 : q ≤ 512) (h1 : ¬ ((l.drop b).getD q 0 = 1 ∧ 0 < q)) (hw : widL ((l.drop b).drop q) = 0 ∨ 512 < q + widL ((l.drop b).drop q)) :
    nextL l = (none8, 0, 81) := by
  have he : runM 512 (l.drop b) = q := by
    rw [← hM, run_end h5]
    · rfl
    · intro hm
      unfold widL at hw
      rw [if_pos hm] at hw
      have := decodeL_width ((l.drop b).drop q)
      omega
  have hv : valL (l.drop b) = ([], 81) := by
    unfold valL
    rw [he, if_neg (by omega), if_pos (by
      by_cases e : q = 0
      · exact .inl e
      · exact .inr (fun k => h1 ⟨k, by omega⟩))]
  rw [next_good hR, hv]
  dsimp only
  rw [if_neg (by decide)]
/-- Where the text ends. -/
theorem next_out {l : List UInt8} {N b q : Nat} (hR : tagR l 0 0 = (N, b, 0)) (hM : q + runM (512 - q) ((l.drop b).drop q) = runM 512 (l.drop b)) (hq : q = (l.drop b).length) : nextL l = (none8, 0, 82) := by
  have he : runM 512 (l.drop b) = q := by
    rw [← hM, List.drop_eq_nil_of_le (by omega), runM_nil]
    rfl
  have hv : valL (l.drop b) = ([], 82) := by
    unfold valL
    rw [he, if_pos hq]
  rw [next_good hR, hv]
  dsimp only
  rw [if_neg (by decide)]
/-- Where it goes on. -/
theorem next_on {l : List UInt8} {b q : Nat} (hM : q + runM (512 - q) ((l.drop b).drop q) = runM 512 (l.drop b)) (hq : q < (l.drop b).length) (hw : ¬ widL ((l.drop b).drop q) = 0) (h5 : ¬ 512 < q + widL ((l.drop b).drop q)) :
    q + widL ((l.drop b).drop q) + runM (512 - (q + widL ((l.drop b).drop q))) ((l.drop b).drop (q + widL ((l.drop b).drop q))) = runM 512 (l.drop b) ∧ q + widL ((l.drop b).drop q) ≤ (l.drop b).length := by
  have hm : mayB (decodeL ((l.drop b).drop q)).1 = true := by
    cases e : mayB (decodeL ((l.drop b).drop q)).1
    · exfalso
      apply hw
      unfold widL
      rw [e]
      rfl
    · rfl
  have e : widL ((l.drop b).drop q) = (decodeL ((l.drop b).drop q)).2 := by
    unfold widL
    rw [if_pos hm]
  rw [e] at h5 ⊢
  have := run_on (l := l.drop b) hq hm (by omega)
  have hle := decodeL_le _ (drop_ne hq)
  rw [List.length_drop] at hle
  exact ⟨by rw [← this]; exact hM, by omega⟩
theorem widL_four (s : ByteArray) (a : Nat) : widL (s.data.toList.drop a) ≤ 4 := by
  unfold widL
  split
  · rw [decodeL_drop]
    exact width_four s a
  · omega
set_option maxRecDepth 1000000 in
set_option maxHeartbeats 8000000 in
theorem refNext_any (s : ByteArray) (w : World) (hs : s.size ≤ 1000000) :
    Calls Try.prog 28 #[.string s] w fun e w' => e = .returned (.tuple #[.agg #[.int .i64 (nextL s.data.toList).1.1, .string (nextL s.data.toList).1.2], .int .i64 ((nextL s.data.toList).2.1 : Int), .int .i64 ((nextL s.data.toList).2.2 : Int)]) ∧ Below w.heap.size w w' := by
  obtain ⟨N, b, e0, hR⟩ : ∃ N b e0, tagR s.data.toList 0 0 = (N, b, e0) := ⟨_, _, _, rfl⟩
  have HBAD : Hid (e0 ≠ 0 → nextL s.data.toList = (none8, 0, e0)) := fun h => by have := next_bad (l := s.data.toList) (by rw [hR]; exact h); rw [hR] at this; exact this
  have HR : Hid (tagR s.data.toList 0 0 = (N, b, e0)) := hR
  have B0 := (Below.refl _ w).alloc (Nat.le_refl _) (.cells #[.int .i64 0, .string ⟨#[]⟩] 62)
  go_enter Try.func28, Try.ntmps28
  go_wp2_with fail
  go_loopw [5, 6] (fun u i w' => ∃ (k num : Nat), w' = w.alloc (.cells #[.int .i64 0, .string ⟨#[]⟩] 62) ∧ u = .int .i64 (num : Int) ∧ i = .int .i64 (k : Int) ∧ k ≤ s.size ∧ num ≤ 99999 ∧ tagR (s.data.toList.drop k) k num = (N, b, e0)) (fun _ i _ => s.size - (RowKit.intOf i).toNat)
  case atStart => exact ⟨0, 0, rfl, rfl, rfl, by omega, by omega, by rw [List.drop_zero]; exact hR⟩
  case round =>
    clear hR
    obtain ⟨k, num, rfl, rfl, rfl, hk, hn, hg⟩ := hrel
    by_cases hp : k < s.size
    · have t0 : (k : Int) < (s.size : Int) := by omega
      rw [drop_byte s hp, tagR] at hg
      obtain ⟨c, hc⟩ : ∃ c, (s[k]'hp).toNat = c := ⟨_, rfl⟩
      have hc8 : c < 256 := by rw [← hc]; exact UInt8.toNat_lt _
      rw [hc] at hg
      by_cases k0 : k = 0
      · subst k0
        by_cases c1 : (c : Int) < 48
        · have u1 : ((c : Int) != 61) = true := by simp; omega
          have HG : Hid (nextL s.data.toList = (none8, 0, 80)) := by
            rw [if_neg (by omega), if_pos (by omega)] at hg
            simp only [Prod.mk.injEq] at hg
            obtain ⟨rfl, rfl, rfl⟩ := hg
            exact HBAD.out (by decide)
          clear hg HBAD HR
          go_wp2_with fail
          refine bodyPost_ret (v := .tuple #[.agg #[.int .i64 0, .string ⟨#[]⟩], .int .i64 0, .int .i64 80]) (by simp [results, Try.results28, go_sem]) rfl ⟨by rw [HG.out]; rfl, B0⟩
        by_cases c4 : c = 61
        · subst c4
          have HG : Hid (nextL s.data.toList = (none8, 0, 80)) := by
            rw [if_neg (by omega), if_pos (by omega)] at hg
            simp only [Prod.mk.injEq] at hg
            obtain ⟨rfl, rfl, rfl⟩ := hg
            exact HBAD.out (by decide)
          clear hg HBAD HR
          go_wp2_with fail
          refine bodyPost_ret (v := .tuple #[.agg #[.int .i64 0, .string ⟨#[]⟩], .int .i64 0, .int .i64 80]) (by simp [results, Try.results28, go_sem]) rfl ⟨by rw [HG.out]; rfl, B0⟩
        have u1 : ((c : Int) != 61) = true := by simp; omega
        by_cases c2 : (57 : Int) < (c : Int)
        · have HG : Hid (nextL s.data.toList = (none8, 0, 80)) := by
            rw [if_neg (by omega), if_pos (by omega)] at hg
            simp only [Prod.mk.injEq] at hg
            obtain ⟨rfl, rfl, rfl⟩ := hg
            exact HBAD.out (by decide)
          clear hg HBAD HR
          go_wp2_with fail
          refine bodyPost_ret (v := .tuple #[.agg #[.int .i64 0, .string ⟨#[]⟩], .int .i64 0, .int .i64 80]) (by simp [results, Try.results28, go_sem]) rfl ⟨by rw [HG.out]; rfl, B0⟩
        by_cases c3 : c = 48
        · have HG : Hid (nextL s.data.toList = (none8, 0, 80)) := by
            rw [if_neg (by omega), if_pos (by omega)] at hg
            simp only [Prod.mk.injEq] at hg
            obtain ⟨rfl, rfl, rfl⟩ := hg
            exact HBAD.out (by decide)
          clear hg HBAD HR
          subst c3
          go_wp2_with fail
          refine bodyPost_ret (v := .tuple #[.agg #[.int .i64 0, .string ⟨#[]⟩], .int .i64 0, .int .i64 80]) (by simp [results, Try.results28, go_sem]) rfl ⟨by rw [HG.out]; rfl, B0⟩
        have t4 : ((c : Int) == 48) = false := beq_false_of_ne (by omega)
        by_cases hov : 99999 < 10 * num + (c - 48)
        · have t5 : (99999 : Int) < 10 * (num : Int) + ((c : Int) - 48) := by omega
          have HG : Hid (nextL s.data.toList = (none8, 0, 80)) := by
            rw [if_neg (by omega), if_neg (by omega), if_pos hov] at hg
            simp only [Prod.mk.injEq] at hg
            obtain ⟨rfl, rfl, rfl⟩ := hg
            exact HBAD.out (by decide)
          clear hg HBAD HR
          go_wp2_with fail
          refine bodyPost_ret (v := .tuple #[.agg #[.int .i64 0, .string ⟨#[]⟩], .int .i64 0, .int .i64 80]) (by simp [results, Try.results28, go_sem]) rfl ⟨by rw [HG.out]; rfl, B0⟩
        · have t5 : ¬ (99999 : Int) < 10 * (num : Int) + ((c : Int) - 48) := by omega
          rw [if_neg (by omega), if_neg (by omega), if_neg hov] at hg
          have HG : Hid (tagR (List.drop (0 + 1) s.data.toList) (0 + 1) (10 * num + (c - 48)) = (N, b, e0)) := hg
          clear hg
          go_wp2_with fail
          go_roundw
          case rel => exact ⟨0 + 1, 10 * num + (c - 48), trivial, by congr 1; omega, by simp, by omega, by omega, HG.out⟩
          case measure => simp [RowKit.intOf]; omega
      · have t1 : ((k : Int) == 0) = false := beq_false_of_ne (by omega)
        have t2 : (0 : Int) < (k : Int) := by omega
        by_cases c0 : c = 61
        · rw [if_pos (by omega)] at hg
          simp only [Prod.mk.injEq] at hg
          obtain ⟨rfl, rfl, rfl⟩ := hg
          have u1 : ((c : Int) != 61) = false := by simp [c0]
          have u2 : ((k : Int) == (s.size : Int)) = false := beq_false_of_ne (by omega)
          clear c0 HBAD
          go_wp2_with fail
          go_loopw [8] (fun i wr => ∃ (a q : Nat), i = .int .i64 (a : Int) ∧ a = k + 1 + q ∧ a ≤ s.size ∧ q ≤ 512 ∧ q + runM (512 - q) ((s.data.toList.drop (k + 1)).drop q) = runM 512 (s.data.toList.drop (k + 1)) ∧ Below (w.alloc (.cells #[.int .i64 0, .string ⟨#[]⟩] 62)).heap.size (w.alloc (.cells #[.int .i64 0, .string ⟨#[]⟩] 62)) wr) (fun i _ => s.size - (RowKit.intOf i).toNat)
          case atStart => exact ⟨k + 1, 0, by simp, by omega, by omega, by omega, by simp, Below.refl _ _⟩
          case round =>
            obtain ⟨a, q, rfl, ha, has, hq5, hM, hB⟩ := hrel
            have HA : Hid (a = k + 1 + q) := ha
            have HM : Hid (q + runM (512 - q) ((s.data.toList.drop (k + 1)).drop q) = runM 512 (s.data.toList.drop (k + 1))) := hM
            have hlen : (s.data.toList.drop (k + 1)).length = s.size - (k + 1) := by rw [List.length_drop, ← size_eq]
            have hdd : (s.data.toList.drop (k + 1)).drop q = s.data.toList.drop a := by rw [List.drop_drop, ha]
            have hla : k + 1 ≤ a := by omega
            have haI : (a : Int) ≤ 1000000 := by omega
            have hkI : (k : Int) ≤ 1000000 := by omega
            clear hM hc hc8 u1 u2
            by_cases hp2 : a < s.size
            · have v0 : (a : Int) < (s.size : Int) := by omega
              obtain ⟨c2, hc2⟩ : ∃ c2, (s[a]'hp2).toNat = c2 := ⟨_, rfl⟩
              have hg2 : (s.data.toList.drop (k + 1)).getD q 0 = 1 ↔ c2 = 1 := by
                have e : (s.data.toList.drop a).getD 0 0 = (s.data.toList.drop (k + 1)).getD q 0 := (congrArg (fun x => x.getD 0 0) hdd).symm.trans (getD_dropU (s.data.toList.drop (k + 1)) q 0)
                rw [drop_byte s hp2, List.getD_cons_zero] at e
                rw [← e, ← hc2]
                exact ⟨fun e => by rw [e]; rfl, fun e => UInt8.toNat_inj.1 e⟩
              by_cases g1 : c2 = 1 ∧ k + 1 < a
              · obtain ⟨g1, g2⟩ := g1
                have HG : Hid (nextL s.data.toList = (((num : Int), s.extract (k + 1) a), a + 1, 0)) := by
                  have := next_end HR.out HM.out (by rw [hlen]; omega) (hg2.2 g1) (by omega)
                  show _ = _
                  rw [this, ext_list, show a - (k + 1) = q by omega, show k + 1 + q + 1 = a + 1 by omega]
                have v1 : ((c2 : Int) == 1) = true := by simp [g1]
                have v2 : (k : Int) + 1 < (a : Int) := by omega
                have q0 : wr.cell? ⟨w.heap.size, 0, none⟩ = some (.int .i64 0) := (hB.cell (p := ⟨w.heap.size, 0, none⟩) (by simp)).trans (by simp)
                have q1 : wr.cell? ⟨w.heap.size, 1, none⟩ = some (.string ⟨#[]⟩) := (hB.cell (p := ⟨w.heap.size, 1, none⟩) (by simp)).trans (by simp)
                have z0 : wr.frozen? ⟨w.heap.size, 0, none⟩ = false := (hB.frozen (p := ⟨w.heap.size, 0, none⟩) (by simp)).trans (by simp)
                have z1 : wr.frozen? ⟨w.heap.size, 1, none⟩ = false := (hB.frozen (p := ⟨w.heap.size, 1, none⟩) (by simp)).trans (by simp)
                clear HA HM HR hg2 hdd hlen ha g1
                go_wp2_with fail
                refine bodyPost_ret (v := .tuple #[.agg #[.int .i64 (num : Int), .string (s.extract (k + 1) a)], .int .i64 ((a : Int) + 1), .int .i64 0]) (by simp [results, Try.results28, go_sem, q0, q1]) rfl ⟨by rw [HG.out]; rfl, ?_⟩
                exact ((((B0).trans (hB.mono (by simp))).setCell (by simp) _).setCell (by simp) _)
              · have G := fun w => width_any (s.extract a s.size) w (by rw [ext_tail, mk_size, List.length_drop, ← size_eq]; omega) (by rw [ext_tail, mk_size, List.length_drop, ← size_eq]; omega)
                have el : (s.extract a s.size).data.toList = s.data.toList.drop a := by rw [ext_tail, mk_list]
                have h4 := widL_four s a
                have HS := next_stop HR.out HM.out (by rw [hlen]; omega) hq5 (fun e => g1 ⟨hg2.1 e.1, by omega⟩)
                have HO := next_on HM.out (by rw [hlen]; omega)
                rw [el] at G
                rw [hdd, hlen] at HO
                rw [hdd] at HS
                obtain ⟨wd, hwd⟩ : ∃ wd, widL (s.data.toList.drop a) = wd := ⟨_, rfl⟩
                rw [hwd] at G h4 HS HO
                by_cases g2 : c2 = 1
                · have v1 : ((c2 : Int) == 1) = true := by simp [g2]
                  have v2 : ¬ (k : Int) + 1 < (a : Int) := by omega
                  have hw0 : wd = 0 := by
                    rw [← hwd]
                    unfold widL
                    rw [drop_byte s hp2, decode_one _ _ (by rw [hc2, g2]; decide), hc2, g2]
                    rfl
                  have HG : Hid (nextL s.data.toList = (none8, 0, 81)) := HS (.inl hw0)
                  subst hw0
                  clear HA HM HR hg2 hdd hlen ha g1 g2 HS HO hwd el
                  go_wp2_with fail
                  refine (G _).mono ?_
                  rintro e w2 ⟨rfl, hb2⟩
                  have hB2 := hB.trans (hb2.mono hB.size)
                  have q0 : w2.cell? ⟨w.heap.size, 0, none⟩ = some (.int .i64 0) := (hB2.cell (p := ⟨w.heap.size, 0, none⟩) (by simp)).trans (by simp)
                  have q1 : w2.cell? ⟨w.heap.size, 1, none⟩ = some (.string ⟨#[]⟩) := (hB2.cell (p := ⟨w.heap.size, 1, none⟩) (by simp)).trans (by simp)
                  have z0 : w2.frozen? ⟨w.heap.size, 0, none⟩ = false := (hB2.frozen (p := ⟨w.heap.size, 0, none⟩) (by simp)).trans (by simp)
                  have z1 : w2.frozen? ⟨w.heap.size, 1, none⟩ = false := (hB2.frozen (p := ⟨w.heap.size, 1, none⟩) (by simp)).trans (by simp)
                  go_wp2_with fail
                  refine bodyPost_ret (v := .tuple #[.agg #[.int .i64 0, .string ⟨#[]⟩], .int .i64 0, .int .i64 81]) (by simp [results, Try.results28, go_sem, q0, q1]) rfl ⟨by rw [HG.out]; rfl, ?_⟩
                  exact ((((B0).trans (hB2.mono (by simp))).setCell (by simp) _).setCell (by simp) _)
                · have v1 : ((c2 : Int) == 1) = false := beq_false_of_ne (by omega)
                  by_cases w0 : wd = 0
                  · have HG : Hid (nextL s.data.toList = (none8, 0, 81)) := HS (.inl w0)
                    subst w0
                    clear HA HM HR hg2 hdd hlen ha g1 g2 HS HO hwd el
                    go_wp2_with fail
                    refine (G _).mono ?_
                    rintro e w2 ⟨rfl, hb2⟩
                    have hB2 := hB.trans (hb2.mono hB.size)
                    have q0 : w2.cell? ⟨w.heap.size, 0, none⟩ = some (.int .i64 0) := (hB2.cell (p := ⟨w.heap.size, 0, none⟩) (by simp)).trans (by simp)
                    have q1 : w2.cell? ⟨w.heap.size, 1, none⟩ = some (.string ⟨#[]⟩) := (hB2.cell (p := ⟨w.heap.size, 1, none⟩) (by simp)).trans (by simp)
                    have z0 : w2.frozen? ⟨w.heap.size, 0, none⟩ = false := (hB2.frozen (p := ⟨w.heap.size, 0, none⟩) (by simp)).trans (by simp)
                    have z1 : w2.frozen? ⟨w.heap.size, 1, none⟩ = false := (hB2.frozen (p := ⟨w.heap.size, 1, none⟩) (by simp)).trans (by simp)
                    go_wp2_with fail
                    refine bodyPost_ret (v := .tuple #[.agg #[.int .i64 0, .string ⟨#[]⟩], .int .i64 0, .int .i64 81]) (by simp [results, Try.results28, go_sem, q0, q1]) rfl ⟨by rw [HG.out]; rfl, ?_⟩
                    exact ((((B0).trans (hB2.mono (by simp))).setCell (by simp) _).setCell (by simp) _)
                  · have y0 : ((wd : Int) == 0) = false := beq_false_of_ne (by omega)
                    by_cases w5 : 512 < q + wd
                    · have HG : Hid (nextL s.data.toList = (none8, 0, 81)) := HS (.inr w5)
                      have y1 : (512 : Int) < (a : Int) + (wd : Int) - ((k : Int) + 1) := by omega
                      clear HA HM HR hg2 hdd hlen ha g1 g2 HS HO hwd el w0
                      go_wp2_with fail
                      refine (G _).mono ?_
                      rintro e w2 ⟨rfl, hb2⟩
                      have hB2 := hB.trans (hb2.mono hB.size)
                      have q0 : w2.cell? ⟨w.heap.size, 0, none⟩ = some (.int .i64 0) := (hB2.cell (p := ⟨w.heap.size, 0, none⟩) (by simp)).trans (by simp)
                      have q1 : w2.cell? ⟨w.heap.size, 1, none⟩ = some (.string ⟨#[]⟩) := (hB2.cell (p := ⟨w.heap.size, 1, none⟩) (by simp)).trans (by simp)
                      have z0 : w2.frozen? ⟨w.heap.size, 0, none⟩ = false := (hB2.frozen (p := ⟨w.heap.size, 0, none⟩) (by simp)).trans (by simp)
                      have z1 : w2.frozen? ⟨w.heap.size, 1, none⟩ = false := (hB2.frozen (p := ⟨w.heap.size, 1, none⟩) (by simp)).trans (by simp)
                      go_wp2_with fail
                      refine bodyPost_ret (v := .tuple #[.agg #[.int .i64 0, .string ⟨#[]⟩], .int .i64 0, .int .i64 81]) (by simp [results, Try.results28, go_sem, q0, q1]) rfl ⟨by rw [HG.out]; rfl, ?_⟩
                      exact ((((B0).trans (hB2.mono (by simp))).setCell (by simp) _).setCell (by simp) _)
                    · have y1 : ¬ (512 : Int) < (a : Int) + (wd : Int) - ((k : Int) + 1) := by omega
                      have HN : Hid (q + wd + runM (512 - (q + wd)) ((s.data.toList.drop (k + 1)).drop (q + wd)) = runM 512 (s.data.toList.drop (k + 1)) ∧ q + wd ≤ s.size - (k + 1)) := HO w0 w5
                      clear HM hg2 hdd hlen ha g1 g2 HS HO hwd el
                      go_wp2_with fail
                      refine (G _).mono ?_
                      rintro e w2 ⟨rfl, hb2⟩
                      have hB2 := hB.trans (hb2.mono hB.size)
                      go_wp2_with fail
                      go_roundw
                      case rel => exact ⟨a + wd, q + wd, by simp, by have := HA.out; omega, by have := HN.out.2; have := HA.out; omega, by omega, HN.out.1, hB2⟩
                      case measure => simp [RowKit.intOf]; omega
            · obtain rfl : a = s.size := by omega
              have v0 : ¬ (s.size : Int) < (s.size : Int) := by omega
              have HG : Hid (nextL s.data.toList = (none8, 0, 82)) := next_out HR.out HM.out (by rw [hlen]; omega)
              have q0 : wr.cell? ⟨w.heap.size, 0, none⟩ = some (.int .i64 0) := (hB.cell (p := ⟨w.heap.size, 0, none⟩) (by simp)).trans (by simp)
              have q1 : wr.cell? ⟨w.heap.size, 1, none⟩ = some (.string ⟨#[]⟩) := (hB.cell (p := ⟨w.heap.size, 1, none⟩) (by simp)).trans (by simp)
              have z0 : wr.frozen? ⟨w.heap.size, 0, none⟩ = false := (hB.frozen (p := ⟨w.heap.size, 0, none⟩) (by simp)).trans (by simp)
              have z1 : wr.frozen? ⟨w.heap.size, 1, none⟩ = false := (hB.frozen (p := ⟨w.heap.size, 1, none⟩) (by simp)).trans (by simp)
              clear HA HM HR hdd hlen ha
              go_wp2_with fail
              refine bodyPost_ret (v := .tuple #[.agg #[.int .i64 0, .string ⟨#[]⟩], .int .i64 0, .int .i64 82]) (by simp [results, Try.results28, go_sem, q0, q1]) rfl ⟨by rw [HG.out]; rfl, ?_⟩
              exact ((((B0).trans (hB.mono (by simp))).setCell (by simp) _).setCell (by simp) _)
        have u1 : ((c : Int) != 61) = true := by simp; omega
        by_cases c1 : (c : Int) < 48
        · have HG : Hid (nextL s.data.toList = (none8, 0, 80)) := by
            rw [if_neg (by omega), if_pos (by omega)] at hg
            simp only [Prod.mk.injEq] at hg
            obtain ⟨rfl, rfl, rfl⟩ := hg
            exact HBAD.out (by decide)
          clear hg HBAD HR
          go_wp2_with fail
          refine bodyPost_ret (v := .tuple #[.agg #[.int .i64 0, .string ⟨#[]⟩], .int .i64 0, .int .i64 80]) (by simp [results, Try.results28, go_sem]) rfl ⟨by rw [HG.out]; rfl, B0⟩
        by_cases c2 : (57 : Int) < (c : Int)
        · have HG : Hid (nextL s.data.toList = (none8, 0, 80)) := by
            rw [if_neg (by omega), if_pos (by omega)] at hg
            simp only [Prod.mk.injEq] at hg
            obtain ⟨rfl, rfl, rfl⟩ := hg
            exact HBAD.out (by decide)
          clear hg HBAD HR
          go_wp2_with fail
          refine bodyPost_ret (v := .tuple #[.agg #[.int .i64 0, .string ⟨#[]⟩], .int .i64 0, .int .i64 80]) (by simp [results, Try.results28, go_sem]) rfl ⟨by rw [HG.out]; rfl, B0⟩
        by_cases hov : 99999 < 10 * num + (c - 48)
        · have t5 : (99999 : Int) < 10 * (num : Int) + ((c : Int) - 48) := by omega
          have HG : Hid (nextL s.data.toList = (none8, 0, 80)) := by
            rw [if_neg (by omega), if_neg (by omega), if_pos hov] at hg
            simp only [Prod.mk.injEq] at hg
            obtain ⟨rfl, rfl, rfl⟩ := hg
            exact HBAD.out (by decide)
          clear hg HBAD HR
          go_wp2_with fail
          refine bodyPost_ret (v := .tuple #[.agg #[.int .i64 0, .string ⟨#[]⟩], .int .i64 0, .int .i64 80]) (by simp [results, Try.results28, go_sem]) rfl ⟨by rw [HG.out]; rfl, B0⟩
        · have t5 : ¬ (99999 : Int) < 10 * (num : Int) + ((c : Int) - 48) := by omega
          rw [if_neg (by omega), if_neg (by omega), if_neg hov] at hg
          have HG : Hid (tagR (List.drop (k + 1) s.data.toList) (k + 1) (10 * num + (c - 48)) = (N, b, e0)) := hg
          clear hg
          go_wp2_with fail
          go_roundw
          case rel => exact ⟨k + 1, 10 * num + (c - 48), trivial, by congr 1; omega, by simp, by omega, by omega, HG.out⟩
          case measure => simp [RowKit.intOf]; omega
    · obtain rfl : k = s.size := by omega
      have t0 : ¬ (s.size : Int) < (s.size : Int) := by omega
      have t1 : decide ((s.size : Int) < (s.size : Int)) = false := by simp
      have he : s.data.toList.drop s.size = [] := List.drop_eq_nil_of_le (by rw [← size_eq]; omega)
      rw [he, tagR] at hg
      have HG : Hid (nextL s.data.toList = (none8, 0, 82)) := by
        simp only [Prod.mk.injEq] at hg
        obtain ⟨rfl, rfl, rfl⟩ := hg
        exact HBAD.out (by decide)
      clear hg he HBAD HR
      go_wp2_with fail
      refine bodyPost_ret (v := .tuple #[.agg #[.int .i64 0, .string ⟨#[]⟩], .int .i64 0, .int .i64 82]) (by simp [results, Try.results28, go_sem]) rfl ⟨by rw [HG.out]; rfl, B0⟩
end Go.Proofs.Ytcgojnofkbjinaa
