/-
  The contract of body's Read in all cases.
-/
import Derived.Test.YtdacmhnniecmhaaDoorBodyRead
import Derived.Test.YtdacmhnniecmhaaDoorTagLaws
namespace Go.Proofs.YtdacmhnniecmhaaDoor
open Go.ChangeShapes Go.WideShapes Go.ChangeAt Go.RowKit Go.Lib

theorem lookF_some {l : List Fd} {t : Int} (h : t ∈ l.map Prod.fst) : (lookF l t).isSome = true := by
  unfold lookF
  cases hf : l.find? (fun f => f.1 == t) with
  | some f => rfl
  | none =>
    rw [List.find?_eq_none] at hf
    obtain ⟨p, hp, rfl⟩ := List.mem_map.1 h
    exact absurd (by simp) (hf p hp)
set_option maxRecDepth 1000000 in
set_option maxHeartbeats 4000000 in
theorem read_err (s : ByteArray) (w : World) (hs : s.size ≤ 1000000) (list : List Fd) (A E : Nat) (hF : fieldsL s.data.toList = (list, A, E)) (hE : E ≠ 0) :
    Calls Tryd.prog 29 #[.string s] w fun e w' => e = .returned (.tuple #[.pointer none, .int .i64 (E : Int)]) ∧ Below w.heap.size w w' := by
  have G := fields_any s w hs
  rw [hF] at G
  dsimp only at G
  have t0 : ((E : Int) == 0) = false := beq_false_of_ne (by omega)
  clear hF
  go_enter Tryd.func29, Tryd.ntmps29
  go_wp2_with fail
  refine G.mono ?_
  rintro e w1 ⟨v, rfl, Q⟩
  obtain ⟨a, c, rfl⟩ := Q.shape
  have HB : Hid (Below w.heap.size w w1) := Q.below
  clear G Q
  go_wp2_with fail
  go_ret2
  exact ⟨rfl, HB.out⟩
set_option maxRecDepth 1000000 in
set_option maxHeartbeats 4000000 in
theorem read_missing (s : ByteArray) (w : World) (hs : s.size ≤ 1000000) (list : List Fd) (A : Nat) (hF : fieldsL s.data.toList = (list, A, 0)) (h35 : list = [] ∨ ∃ T V r, list = (T, V) :: r ∧ T ≠ 35) :
    Calls Tryd.prog 29 #[.string s] w fun e w' => e = .returned (.tuple #[.pointer none, .int .i64 110]) ∧ Below w.heap.size w w' := by
  have G := fields_any s w hs
  rw [hF] at G
  dsimp only at G
  clear hF
  go_enter Tryd.func29, Tryd.ntmps29
  go_wp2_with fail
  refine G.mono ?_
  rintro e w1 ⟨v, rfl, Q⟩
  clear G
  have HB : Hid (Below w.heap.size w w1) := Q.below
  have hFl := flds_of_own Q.own
  clear Q
  obtain ⟨a, cap, rfl, r1, r2, r3⟩ := id hFl
  unfold maxLen at r2
  clear hFl
  rcases h35 with rfl | ⟨T, V, r, rfl, hT⟩
  · clear r3
    go_wp2_with fail
    go_ret2
    exact ⟨rfl, HB.out⟩
  · obtain ⟨b0, o0, rfl, k0, k00⟩ := r3 0 (by simp)
    clear k00 r3
    have q0 : w1.cell? ⟨b0, o0, none⟩ = some (.int .i64 T) := k0
    clear k0
    have t1 : (T == 35) = false := beq_false_of_ne hT
    have t2 : (((r.length : Int) + 1) == 0) = false := beq_false_of_ne (by omega)
    have t3 : (0 : Int) < (r.length : Int) + 1 := by omega
    go_wp2_with fail
    go_ret2
    exact ⟨rfl, HB.out⟩
set_option maxRecDepth 1000000 in
set_option maxHeartbeats 8000000 in
theorem read_repeat (s : ByteArray) (w : World) (hs : s.size ≤ 1000000) (list : List Fd) (A : Nat) (hF : fieldsL s.data.toList = (list, A, 0)) (V0 : ByteArray) (rest : List Fd) (h35 : list = (35, V0) :: rest) (hnd : ¬ (list.map Prod.fst).Nodup) (hb : ∀ f ∈ list, -9223372036854775808 ≤ f.1 ∧ f.1 ≤ 9223372036854775807) (hlen : list.length ≤ 64) :
    Calls Tryd.prog 29 #[.string s] w fun e w' => e = .returned (.tuple #[.pointer none, .int .i64 111]) ∧ Below w.heap.size w w' := by
  obtain ⟨i0, hi0, hz0, hzs, hzb⟩ := info_parts infoI
  have G := fields_any s w hs
  rw [hF] at G
  dsimp only at G
  clear hF
  go_enter Tryd.func29, Tryd.ntmps29
  go_wp2_with fail
  refine G.mono ?_
  rintro e w1 ⟨v, rfl, Q⟩
  clear G
  have hB1 := Q.below
  have hFl := flds_of_own Q.own
  clear Q
  obtain ⟨a, cap, rfl, r1, r2, r3⟩ := id hFl
  unfold maxLen at r2
  have hl0 : ((list.length : Int) == 0) = false := by
    rw [h35]
    exact beq_false_of_ne (by simp; omega)
  have hp0 : 0 < list.length := by rw [h35]; simp
  obtain ⟨b0, o0, rfl, k0, k00⟩ := r3 0 hp0
  clear k00
  have e35 : (list[0]).1 = 35 := by subst h35; rfl
  rw [e35] at k0
  have t0 : (0 : Int) < (list.length : Int) := by omega
  have hmk := mkMap list.length
  have HF : Hid (Flds w1 (.slice (some ⟨b0, o0, none⟩) list.length cap) list) := hFl
  have HB1 : Hid (Below w.heap.size w w1) := hB1
  have FR := Frm.fresh w1
  have HFR : Hid (Frm w1.heap.size ((w1.alloc (.map #[] 0)).alloc (.cells #[.map (some w1.heap.size), .slice none 0 0, .int .i64 0, .int .i64 0] 98)) (w1.heap.size + 1) w1.heap.size 0 (.slice none 0 0) [] (lookF []) 0 0) := FR
  simp only [Nat.zero_mul, Nat.add_zero] at k0
  clear hFl hB1 r3 e35 FR h35
  go_wp2_with fail
  go_loopw [36] (fun i wr => ∃ (k : Nat) (tv : Value), i = .int .i64 (k : Int) ∧ k ≤ list.length ∧ Frm w1.heap.size wr (w1.heap.size + 1) w1.heap.size k tv ((list.take k).map Prod.fst) (lookF (list.take k)) 0 0 ∧ Below w1.heap.size w1 wr ∧ ((list.take k).map Prod.fst).Nodup) (fun i _ => list.length - (RowKit.intOf i).toNat)
  case atStart => exact ⟨0, .slice none 0 0, rfl, Nat.zero_le _, HFR.out, ((Below.refl _ w1).alloc (Nat.le_refl _) _).alloc (by simp) _, by simp⟩
  case round =>
    clear HFR hmk hl0 t0 k0 hp0
    obtain ⟨k, tv, rfl, hk, FM, hB, hND⟩ := hrel
    by_cases hp : k < list.length
    · have t0 : (k : Int) < (list.length : Int) := by omega
      obtain ⟨a', cap', e0, r1', r2', r3⟩ := HF.out.below hB (Nat.le_refl _)
      obtain ⟨b, off, e1, k0, k1⟩ := r3 k hp
      simp only [Value.slice.injEq] at e0
      obtain ⟨rfl, _, rfl⟩ := e0
      simp only [Option.some.injEq, Addr.mk.injEq] at e1
      obtain ⟨rfl, rfl, _⟩ := e1
      have hbk := hb list[k] (List.getElem_mem hp)
      by_cases hdup : (list[k]).1 ∈ (list.take k).map Prod.fst
      · have hsome := lookF_some hdup
        obtain ⟨T, V, hTV⟩ : ∃ T V, list[k] = (T, V) := ⟨_, _, rfl⟩
        rw [hTV] at k0 k1 hbk hsome
        dsimp only at k0 k1 hbk hsome
        have Ba : Below wr.heap.size wr (wr.alloc (.cells #[.int .i64 T, .string V] 42)) := (Below.refl _ _).alloc (Nat.le_refl _) _
        have F1 := has_yes (FM.still Ba) T hbk.1 hbk.2
        rw [hsome] at F1
        have HBW : Hid (Below w.heap.size w (wr.alloc (.cells #[.int .i64 T, .string V] 42))) := HB1.out.trans ((hB.trans (Ba.mono hB.size)).mono HB1.out.size)
        clear FM hB Ba hsome hdup hND hTV r3
        go_wp2_with fail
        refine F1.mono ?_
        rintro e w2 ⟨rfl, hb2⟩
        have B2 := HBW.out.trans (hb2.mono HBW.out.size)
        clear F1 hb2
        go_wp2_with fail
        go_ret2
        exact ⟨rfl, B2⟩
      have hnew := hdup
      clear hdup
      have hno := lookF_none hnew
      have hmore := lookF_more (list.take k) list[k] hnew
      have htake : list.take k ++ [list[k]] = list.take (k + 1) := by rw [List.take_add_one, List.getElem?_eq_getElem hp]; rfl
      rw [htake] at hmore
      have htags : (list.take k).map Prod.fst ++ [(list[k]).1] = (list.take (k + 1)).map Prod.fst := by rw [← htake, List.map_append]; rfl
      have hlk : ((list.take k).map Prod.fst).length = k := by simp; omega
      have hND2 : ((list.take (k + 1)).map Prod.fst).Nodup := by
        rw [← htags, List.nodup_append]
        exact ⟨hND, by simp, fun a ha b hb e => hnew (by simp at hb; rw [← hb, ← e]; exact ha)⟩
      have HND : Hid (((list.take (k + 1)).map Prod.fst).Nodup) := hND2
      clear hND2 hND
      obtain ⟨T, V, hTV⟩ : ∃ T V, list[k] = (T, V) := ⟨_, _, rfl⟩
      rw [hTV] at k0 k1 hbk hnew hmore htags hno
      dsimp only at k0 k1 hbk hnew hmore htags hno
      have HM : Hid (lookF (list.take (k + 1)) = updI (lookF (list.take k)) T (V, T == 35)) := hmore
      have HT : Hid ((list.take k).map Prod.fst ++ [T] = (list.take (k + 1)).map Prod.fst) := htags
      have HLK : Hid (((list.take k).map Prod.fst).length = k) := hlk
      clear hmore htags hnew htake hTV r3 hlk
      generalize (list.take k).map Prod.fst = tags at *
      generalize lookF (list.take k) = L0 at *
      -- the field lies in a block of its own
      obtain ⟨wa, hwa⟩ : ∃ wa, wa = wr.alloc (.cells #[.int .i64 T, .string V] 42) := ⟨_, rfl⟩
      have Ba : Below wr.heap.size wr wa := by rw [hwa]; exact (Below.refl _ _).alloc (Nat.le_refl _) _
      have Fa := FM.still Ba
      have F1 := has_yes Fa T hbk.1 hbk.2
      rw [hno, isSome_none] at F1
      have HFa : Hid (Frm w1.heap.size wa (w1.heap.size + 1) w1.heap.size k tv tags L0 0 0) := Fa
      have HBr : Hid (Below w1.heap.size w1 wr) := hB
      have HBa : Hid (Below wr.heap.size wr wa) := Ba
      have p0 : wa.cell? ⟨wr.heap.size, 0, none⟩ = some (.int .i64 T) := by rw [hwa]; simp
      have p1 : wa.cell? ⟨wr.heap.size, 1, none⟩ = some (.string V) := by rw [hwa]; simp
      clear Fa hB Ba hno
      have HWA : Hid (wa = wr.alloc (.cells #[.int .i64 T, .string V] 42)) := hwa
      subst hwa
      go_wp2_with fail
      refine F1.mono ?_
      rintro e w2 ⟨rfl, hb2⟩
      clear F1
      have F2 := HFa.out.still hb2
      have q0 := (hb2.cell (World.block_lt_of_cell? _ _ p0)).trans p0
      have q1 := (hb2.cell (World.block_lt_of_cell? _ _ p1)).trans p1
      have hz2 : wr.heap.size < w2.heap.size := World.block_lt_of_cell? _ _ q0
      have F3 := F2.still (below_drewN w2.heap.size 1 w2)
      have F3' : Frm w1.heap.size w2.drew (w1.heap.size + 1) w1.heap.size k tv tags L0 0 0 := F3
      obtain ⟨w3, hrun, hm3, hB3⟩ := F3'.map.store (by omega) T hbk.1 hbk.2 V (T == 35)
      have F4 := F3'.stored hB3 hm3
      have lom := F2.lom
      have hne : ¬ wr.heap.size = w1.heap.size := by
        have := HBr.out.size
        have := FM.map.lt
        omega
      have u0 := (hB3.cell (o := 0) (show wr.heap.size < w2.drew.heap.size from hz2) hne).trans (show w2.drew.cell? _ = _ from q0)
      have d0 := F2.c0
      have B12 : Below w1.heap.size w1 w2 := HBr.out.trans ((HBa.out.trans (hb2.mono HBa.out.size)).mono HBr.out.size)
      have B13 : Below w1.heap.size w1 w3 := (show Below w1.heap.size w1 w2.drew from below_more B12 1).trans (hB3.below (show w1.heap.size ≤ w2.heap.size from B12.size) (fun i e => by rw [e]; exact Nat.le_refl _))
      have HB13 : Hid (Below w1.heap.size w1 w3) := B13
      have HF4 : Hid (Frm w1.heap.size w3 (w1.heap.size + 1) w1.heap.size (k + 1) tv tags (updI L0 T (V, T == 35)) 0 0) := F4
      clear F2 F3 F3' hm3 hB3 F4 B12 B13 hb2 lom hne FM
      go_wp2_with fail
      go_region
      clear hrun q0 q1 d0 p0 p1 k0 k1
      obtain ⟨w4, hw4⟩ : ∃ w4, w4 = (w3.alloc (.cells #[.int .i64 T] 3)).drew := ⟨_, rfl⟩
      have B34 : Below w3.heap.size w3 w4 := by rw [hw4]; exact below_more ((Below.refl _ w3).alloc (Nat.le_refl _) _) 1
      have F6 := HF4.out.still B34
      have hcn : ∀ j u, ([.int .i64 T] : List Value)[j]? = some u → w4.cell? ((⟨w3.heap.size, 0, none⟩ : Addr).add j) = some u := by rw [hw4]; exact cell_int_new w3 (.int .i64 T) 3
      have hlk := HLK.out
      have hz3 := HB13.out.size
      have hz4 := B34.size
      obtain ⟨v5, w5, hr, hown5, hg5, _, hat5⟩ := run_append_own_at (P := Tryd.prog) w4 w1.heap.size 96 96 3 i0 (.int .i64 0) 1 8 Tryd.underlying96 hi0 hz0 hzs hzb rfl (by decide) tv tags.length (its tags) F6.own ⟨w3.heap.size, 0, none⟩ 1 1 [.int .i64 T] rfl hcn (by simp [Value.oneCell']) (by rw [hlk]; unfold maxLen; omega) (by rw [hlk]; omega) (by omega)
      have F7 := F6.tagged hg5 hown5 hat5
      have BG := But.of_grown hg5
      have x1 := (BG.cell (o := 1) F6.lt F6.nf).trans F6.c1
      have y1 := (BG.frozen (o := 1) F6.lt F6.nf).trans F6.f1
      have d1 := F6.c1
      have v0 := (B34.cell (World.block_lt_of_cell? _ _ u0)).trans u0
      have HF7 : Hid (Frm w1.heap.size (w5.setCell ⟨w1.heap.size + 1, 1, none⟩ v5) (w1.heap.size + 1) w1.heap.size (k + 1) v5 (tags ++ [T]) (updI L0 T (V, T == 35)) 0 0) := F7
      have HB7 : Hid (Below w1.heap.size w1 (w5.setCell ⟨w1.heap.size + 1, 1, none⟩ v5)) := by
        have e1 : Below w1.heap.size w1 w4 := HB13.out.trans (B34.mono hz3)
        exact (e1.trans (BG.below e1.size (fun i e => (F6.own.lt i e).1))).setCell (Nat.le_succ _) _
      obtain ⟨a5, cap5, rfl⟩ := own_shape hown5
      obtain ⟨a6, cap6, rfl⟩ := own_shape F6.own
      have c1w := HF4.out.c1
      rw [hw4] at hr d1 v0
      clear F6 F7 hcn hown5 hg5 hat5 BG hlk hw4 B34
      have HR : Hid ((Builtin.append_ #[96, 96] 96 #[.slice a6 tags.length cap6, .slice (some ⟨w3.heap.size, 0, none⟩) 1 1]).run Tryd.prog (w3.alloc (.cells #[.int .i64 T] 3)).drew = .ok (.slice a5 (tags.length + 1) cap5) w5) := hr
      clear hr
      go_wp2_with fail
      go_region_law (refine step_append_at rfl (.tmp 60) (.tmp 63) 96 rfl (.slice a6 tags.length cap6) (.slice (some ⟨w3.heap.size, 0, none⟩) 1 1) (.slice a5 (tags.length + 1) cap5) w5 rfl rfl HR.out ?_)
      all_goals (
        go_wp2_with fail
        go_roundw
        case rel =>
          refine ⟨k + 1, .slice a5 (tags.length + 1) cap5, by simp, by omega, ?_, HB7.out, HND.out⟩
          have := HF7.out
          rw [HT.out, ← HM.out] at this
          exact this
        case measure => simp [RowKit.intOf]; omega)
    · obtain rfl : k = list.length := by omega
      rw [List.take_length] at hND
      exact absurd hND hnd
/-- What Read answers of a text: an error's number. -/
def readE (l : List UInt8) : Nat := if (fieldsL l).2.2 ≠ 0 then (fieldsL l).2.2 else if ((fieldsL l).1.map Prod.fst).head? = some 35 then (if ((fieldsL l).1.map Prod.fst).Nodup then 0 else 111) else 110
theorem fields_range (l : List UInt8) : (∀ f ∈ (fieldsL l).1, 1 ≤ f.1 ∧ f.1 ≤ 99999) ∧ (fieldsL l).1.length ≤ 64 := by
  obtain ⟨new, n, h1, _, _, h4, h5, _⟩ := fieldsA_one 64 l [] 0
  have e : (fieldsL l).1 = new := by unfold fieldsL; rw [h1]; simp
  rw [e]
  refine ⟨fun f hf => ?_, h4⟩
  obtain ⟨a1, a2, _⟩ := formE_ok (ok_form (h5 f hf))
  exact ⟨a1, a2⟩
/-- Read of any text. -/
theorem read_any (s : ByteArray) (w : World) (hs : s.size ≤ 1000000) :
    Calls Tryd.prog 29 #[.string s] w fun e w' => (readE s.data.toList ≠ 0 ∧ e = .returned (.tuple #[.pointer none, .int .i64 (readE s.data.toList : Int)]) ∧ Below w.heap.size w w') ∨ (readE s.data.toList = 0 ∧ RdOk w (fieldsL s.data.toList).1 e w') := by
  obtain ⟨hr, h64⟩ := fields_range s.data.toList
  obtain ⟨list, A, E, hF⟩ : ∃ list A E, fieldsL s.data.toList = (list, A, E) := ⟨_, _, _, rfl⟩
  unfold readE
  rw [hF] at hr h64 ⊢
  dsimp only at hr h64 ⊢
  by_cases hE : E = 0
  · subst hE
    rw [if_neg (by simp)]
    cases list with
    | nil =>
      rw [if_neg (by simp)]
      refine (read_missing s w hs [] A hF (.inl rfl)).mono ?_
      rintro e w' ⟨rfl, hb⟩
      exact .inl ⟨by omega, rfl, hb⟩
    | cons f r =>
      obtain ⟨T, V⟩ := f
      by_cases hT : T = 35
      · subst hT
        rw [if_pos (by simp)]
        by_cases hN : (((35, V) :: r : List Fd).map Prod.fst).Nodup
        · rw [if_pos hN]
          refine (read_ok s w hs _ A hF V r rfl hN (fun p hp => by have := hr p hp; omega) h64).mono ?_
          intro e w' h
          exact .inr ⟨rfl, h⟩
        · rw [if_neg hN]
          refine (read_repeat s w hs _ A hF V r rfl hN (fun p hp => by have := hr p hp; omega) h64).mono ?_
          rintro e w' ⟨rfl, hb⟩
          exact .inl ⟨by omega, rfl, hb⟩
      · rw [if_neg (by simpa using hT)]
        refine (read_missing s w hs _ A hF (.inr ⟨T, V, r, rfl, hT⟩)).mono ?_
        rintro e w' ⟨rfl, hb⟩
        exact .inl ⟨by omega, rfl, hb⟩
  · rw [if_pos hE]
    refine (read_err s w hs list A E hF hE).mono ?_
    rintro e w' ⟨rfl, hb⟩
    exact .inl ⟨hE, rfl, hb⟩
end Go.Proofs.YtdacmhnniecmhaaDoor
