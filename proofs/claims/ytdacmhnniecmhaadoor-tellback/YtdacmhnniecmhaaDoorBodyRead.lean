/-
  The contract of body's Read, of a body that has a form.
-/
import Derived.Test.YtdacmhnniecmhaaDoorBodyAsk
import Derived.Test.YtdacmhnniecmhaaDoorTagFields
import Derived.Maps.AppendAt
import Derived.Deep.RegionLaw
namespace Go.Proofs.YtdacmhnniecmhaaDoor
open Go.ChangeShapes Go.WideShapes Go.ChangeAt Go.RowKit Go.Lib

/-- What a list of fields tells of a tag; the tag 35 counts as asked for. -/
def lookF (l : List Fd) (t : Int) : Option (ByteArray × Bool) := match l.find? (fun f => f.1 == t) with
  | some f => some (f.2, t == 35)
  | none => none
theorem lookF_none {l : List Fd} {t : Int} (h : t ∉ l.map Prod.fst) : lookF l t = none := by
  have : l.find? (fun f => f.1 == t) = none := by
    rw [List.find?_eq_none]
    intro f hf e
    exact h (List.mem_map.2 ⟨f, hf, by simpa using e⟩)
  unfold lookF
  rw [this]
theorem lookF_more (l : List Fd) (f : Fd) (h : f.1 ∉ l.map Prod.fst) : lookF (l ++ [f]) = updI (lookF l) f.1 (f.2, f.1 == 35) := by
  funext t
  by_cases e : t = f.1
  · subst e
    have hn : l.find? (fun g => g.1 == f.1) = none := by
      rw [List.find?_eq_none]
      intro g hg k
      exact h (List.mem_map.2 ⟨g, hg, by simpa using k⟩)
    rw [updI_same]
    unfold lookF
    rw [List.find?_append, hn]
    simp
  · rw [updI_other _ _ e]
    unfold lookF
    rw [List.find?_append]
    have : [f].find? (fun g => g.1 == t) = none := by
      simp only [List.find?_cons, List.find?_nil]
      rw [show (f.1 == t) = false from beq_false_of_ne (fun k => e k.symm)]
    rw [this, Option.or_none]
theorem mkMap (n : Nat) (w : World) : (Instr.makeMap 95 (some (.int .i64 (n : Int)))).run Tryd.prog w = .ok (.map (some w.heap.size)) (w.alloc (.map #[] 0)) := by
  simp [Instr.makeMap, run_underlying Tryd.underlying95, asInt, asIntOf, Result.andThen]
theorem Frm.fresh (w : World) : Frm w.heap.size ((w.alloc (.map #[] 0)).alloc (.cells #[.map (some w.heap.size), .slice none 0 0, .int .i64 0, .int .i64 0] 98)) (w.heap.size + 1) w.heap.size 0 (.slice none 0 0) [] (lookF []) 0 0 where
  c0 := by simp
  c1 := by simp
  c2 := by simp
  c3 := by simp
  f1 := by simp
  f2 := by simp
  f3 := by simp
  map := by
    have := (FMap.made w).still ((Below.refl _ _).alloc (Nat.le_refl _) (.cells #[.map (some w.heap.size), .slice none 0 0, .int .i64 0, .int .i64 0] 98))
    exact this
  own := World.ownsRow_nil _ _ _ _
  lof := by omega
  lom := Nat.le_refl _
  ne := by omega
  nf := by simp [Value.ownBlock]
/-- The form with one tag more in its list. -/
theorem Frm.tagged {n0 : Nat} {w w' : World} {fb bm n : Nat} {tv v' : Value} {tags : List Int} {L : Int → Option (ByteArray × Bool)} {at_ e T : Int} (h : Frm n0 w fb bm n tv tags L at_ e) (hg : w.grownBy w' tv.ownBlock) (hown : w'.ownsRow n0 3 1 v' (tags.length + 1) (its tags ++ [.int .i64 T])) (hat : v'.ownBlock = tv.ownBlock ∨ v'.ownBlock = some w.heap.size) :
    Frm n0 (w'.setCell ⟨fb, 1, none⟩ v') fb bm n v' (tags ++ [T]) L at_ e := by
  have BG := But.of_grown hg
  have nb : ¬ tv.ownBlock = some fb := h.nf
  have g0 := (BG.cell (o := 0) h.lt nb).trans h.c0
  have g1 := (BG.cell (o := 1) h.lt nb).trans h.c1
  have nv : v'.ownBlock ≠ some fb := by
    rcases hat with e | e
    · rw [e]; exact nb
    · rw [e]
      intro k
      have := h.lt
      have := Option.some.inj k
      omega
  have BS : But (fun k => k = fb) w' (w'.setCell ⟨fb, 1, none⟩ v') := (But.refl (fun k => k = fb) w').setCell fb 1 _ (fun _ => rfl)
  refine ⟨?_, ?_, ?_, ?_, ?_, ?_, ?_, ?_, ?_, h.lof, h.lom, h.ne, nv⟩
  · rw [World.cell?_setCell_other]; exact g0; simp
  · exact World.cell?_setCell_same _ _ _ g1
  · rw [World.cell?_setCell_other]; exact (BG.cell (o := 2) h.lt nb).trans h.c2; simp
  · rw [World.cell?_setCell_other]; exact (BG.cell (o := 3) h.lt nb).trans h.c3; simp
  · rw [World.frozen?_setCell]; exact (BG.frozen (o := 1) h.lt nb).trans h.f1
  · rw [World.frozen?_setCell]; exact (BG.frozen (o := 2) h.lt nb).trans h.f2
  · rw [World.frozen?_setCell]; exact (BG.frozen (o := 3) h.lt nb).trans h.f3
  · exact (h.map.kept BG h.nm).kept BS h.ne
  · have := own_kept hown BS (fun g hg e => nv (by rw [hg, e]))
    rw [its_more, List.length_append]
    exact this
/-- append as one step of a region that draws, out of its run. -/
theorem step_append_at {P : Program} {ops : Array Oper} {o : Oper} {a : Act} {w : World} {K : Act → World → Prop} {Q : Exit → Act → World → Prop} {E : Prop} (hgd : o.guard = none) (s x : Operand) (t : TypeId)
    (ho : o.op = .call { callee := .builtin .append, args := #[s, x], argTypes := #[t, t] }) (u v v' : Value) (w' : World) (hs : a.eval s = u) (hx : a.eval x = v) (hrun : (Builtin.append_ #[t, t] o.type #[u, v]).run P w = .ok v' w')
    (h : K (a.put o.dst v') w') :
    if Region.wanted o (yielded ops a.tmps) = true then Oper.wp P o a w K Q else E := by
  have hw : Region.wanted o (yielded ops a.tmps) = true := by simp [Region.wanted, hgd]
  rw [if_pos hw]
  unfold Oper.wp execOp
  simp only [ho, resolve, invoke, builtin, Sem.run_bind, Sem.run_pure, Result.andThen_ok, List.map_toArray, List.map_cons, List.map_nil, hs, hx, hrun]
  exact h
theorem isSome_none : (none : Option (ByteArray × Bool)).isSome = false := rfl
/-- Read made a form that holds these fields. -/
def RdOk (w : World) (list : List Fd) (e : Ending) (w' : World) : Prop := ∃ n0 fb bm tv, e = .returned (.tuple #[.pointer (some ⟨fb, 0, none⟩), .int .i64 0]) ∧ w.heap.size ≤ n0 ∧ Below w.heap.size w w' ∧ Frm n0 w' fb bm list.length tv (list.map Prod.fst) (lookF list) 0 0
set_option maxRecDepth 1000000 in
set_option maxHeartbeats 8000000 in
theorem read_ok (s : ByteArray) (w : World) (hs : s.size ≤ 1000000) (list : List Fd) (A : Nat) (hF : fieldsL s.data.toList = (list, A, 0)) (V0 : ByteArray) (rest : List Fd) (h35 : list = (35, V0) :: rest) (hnd : (list.map Prod.fst).Nodup) (hb : ∀ f ∈ list, -9223372036854775808 ≤ f.1 ∧ f.1 ≤ 9223372036854775807) (hlen : list.length ≤ 64) :
    Calls Tryd.prog 29 #[.string s] w fun e w' => RdOk w list e w' := by
  obtain ⟨i0, hi0, hz0, hzs, hzb⟩ := info_parts infoI
  have G := fields_any s w hs
  rw [hF] at G
  dsimp only at G
  clear hF
  go_enter Tryd.func29, Tryd.ntmps29
  go_wp2_with fail
  refine G.mono ?_
  rintro e w1 ⟨v, rfl, Q⟩
  clear G
  have hB1 := Q.below
  have hFl := flds_of_own Q.own
  clear Q
  obtain ⟨a, cap, rfl, r1, r2, r3⟩ := id hFl
  unfold maxLen at r2
  have hl0 : ((list.length : Int) == 0) = false := by
    rw [h35]
    exact beq_false_of_ne (by simp; omega)
  have hp0 : 0 < list.length := by rw [h35]; simp
  obtain ⟨b0, o0, rfl, k0, k00⟩ := r3 0 hp0
  clear k00
  have e35 : (list[0]).1 = 35 := by subst h35; rfl
  rw [e35] at k0
  have t0 : (0 : Int) < (list.length : Int) := by omega
  have hmk := mkMap list.length
  have HF : Hid (Flds w1 (.slice (some ⟨b0, o0, none⟩) list.length cap) list) := hFl
  have HB1 : Hid (Below w.heap.size w w1) := hB1
  have FR := Frm.fresh w1
  have HFR : Hid (Frm w1.heap.size ((w1.alloc (.map #[] 0)).alloc (.cells #[.map (some w1.heap.size), .slice none 0 0, .int .i64 0, .int .i64 0] 98)) (w1.heap.size + 1) w1.heap.size 0 (.slice none 0 0) [] (lookF []) 0 0) := FR
  simp only [Nat.zero_mul, Nat.add_zero] at k0
  clear hFl hB1 r3 e35 FR h35
  go_wp2_with fail
  go_loopw [36] (fun i wr => ∃ (k : Nat) (tv : Value), i = .int .i64 (k : Int) ∧ k ≤ list.length ∧ Frm w1.heap.size wr (w1.heap.size + 1) w1.heap.size k tv ((list.take k).map Prod.fst) (lookF (list.take k)) 0 0 ∧ Below w1.heap.size w1 wr) (fun i _ => list.length - (RowKit.intOf i).toNat)
  case atStart => exact ⟨0, .slice none 0 0, rfl, Nat.zero_le _, HFR.out, ((Below.refl _ w1).alloc (Nat.le_refl _) _).alloc (by simp) _⟩
  case round =>
    clear HFR hmk hl0 t0 k0 hp0
    obtain ⟨k, tv, rfl, hk, FM, hB⟩ := hrel
    by_cases hp : k < list.length
    · have t0 : (k : Int) < (list.length : Int) := by omega
      obtain ⟨a', cap', e0, r1', r2', r3⟩ := HF.out.below hB (Nat.le_refl _)
      obtain ⟨b, off, e1, k0, k1⟩ := r3 k hp
      simp only [Value.slice.injEq] at e0
      obtain ⟨rfl, _, rfl⟩ := e0
      simp only [Option.some.injEq, Addr.mk.injEq] at e1
      obtain ⟨rfl, rfl, _⟩ := e1
      have hbk := hb list[k] (List.getElem_mem hp)
      have hnew : (list[k]).1 ∉ (list.take k).map Prod.fst := by
        intro hm
        rw [List.map_take] at hm
        obtain ⟨j, hj, ej⟩ := List.getElem_of_mem hm
        have hj' : j < k := by
          have := hj
          rw [List.length_take] at this
          omega
        rw [List.getElem_take, List.getElem_map] at ej
        have := (List.pairwise_iff_getElem.1 hnd) j k (by simp; omega) (by simpa using hp) hj'
        rw [List.getElem_map, List.getElem_map] at this
        exact this ej
      have hno := lookF_none hnew
      have hmore := lookF_more (list.take k) list[k] hnew
      have htake : list.take k ++ [list[k]] = list.take (k + 1) := by rw [List.take_add_one, List.getElem?_eq_getElem hp]; rfl
      rw [htake] at hmore
      have htags : (list.take k).map Prod.fst ++ [(list[k]).1] = (list.take (k + 1)).map Prod.fst := by rw [← htake, List.map_append]; rfl
      have hlk : ((list.take k).map Prod.fst).length = k := by simp; omega
      obtain ⟨T, V, hTV⟩ : ∃ T V, list[k] = (T, V) := ⟨_, _, rfl⟩
      rw [hTV] at k0 k1 hbk hnew hmore htags hno
      dsimp only at k0 k1 hbk hnew hmore htags hno
      have HM : Hid (lookF (list.take (k + 1)) = updI (lookF (list.take k)) T (V, T == 35)) := hmore
      have HT : Hid ((list.take k).map Prod.fst ++ [T] = (list.take (k + 1)).map Prod.fst) := htags
      have HLK : Hid (((list.take k).map Prod.fst).length = k) := hlk
      clear hmore htags hnew htake hTV r3 hlk
      generalize (list.take k).map Prod.fst = tags at *
      generalize lookF (list.take k) = L0 at *
      -- the field lies in a block of its own
      obtain ⟨wa, hwa⟩ : ∃ wa, wa = wr.alloc (.cells #[.int .i64 T, .string V] 42) := ⟨_, rfl⟩
      have Ba : Below wr.heap.size wr wa := by rw [hwa]; exact (Below.refl _ _).alloc (Nat.le_refl _) _
      have Fa := FM.still Ba
      have F1 := has_yes Fa T hbk.1 hbk.2
      rw [hno, isSome_none] at F1
      have HFa : Hid (Frm w1.heap.size wa (w1.heap.size + 1) w1.heap.size k tv tags L0 0 0) := Fa
      have HBr : Hid (Below w1.heap.size w1 wr) := hB
      have HBa : Hid (Below wr.heap.size wr wa) := Ba
      have p0 : wa.cell? ⟨wr.heap.size, 0, none⟩ = some (.int .i64 T) := by rw [hwa]; simp
      have p1 : wa.cell? ⟨wr.heap.size, 1, none⟩ = some (.string V) := by rw [hwa]; simp
      clear Fa hB Ba hno
      have HWA : Hid (wa = wr.alloc (.cells #[.int .i64 T, .string V] 42)) := hwa
      subst hwa
      go_wp2_with fail
      refine F1.mono ?_
      rintro e w2 ⟨rfl, hb2⟩
      clear F1
      have F2 := HFa.out.still hb2
      have q0 := (hb2.cell (World.block_lt_of_cell? _ _ p0)).trans p0
      have q1 := (hb2.cell (World.block_lt_of_cell? _ _ p1)).trans p1
      have hz2 : wr.heap.size < w2.heap.size := World.block_lt_of_cell? _ _ q0
      have F3 := F2.still (below_drewN w2.heap.size 1 w2)
      have F3' : Frm w1.heap.size w2.drew (w1.heap.size + 1) w1.heap.size k tv tags L0 0 0 := F3
      obtain ⟨w3, hrun, hm3, hB3⟩ := F3'.map.store (by omega) T hbk.1 hbk.2 V (T == 35)
      have F4 := F3'.stored hB3 hm3
      have lom := F2.lom
      have hne : ¬ wr.heap.size = w1.heap.size := by
        have := HBr.out.size
        have := FM.map.lt
        omega
      have u0 := (hB3.cell (o := 0) (show wr.heap.size < w2.drew.heap.size from hz2) hne).trans (show w2.drew.cell? _ = _ from q0)
      have d0 := F2.c0
      have B12 : Below w1.heap.size w1 w2 := HBr.out.trans ((HBa.out.trans (hb2.mono HBa.out.size)).mono HBr.out.size)
      have B13 : Below w1.heap.size w1 w3 := (show Below w1.heap.size w1 w2.drew from below_more B12 1).trans (hB3.below (show w1.heap.size ≤ w2.heap.size from B12.size) (fun i e => by rw [e]; exact Nat.le_refl _))
      have HB13 : Hid (Below w1.heap.size w1 w3) := B13
      have HF4 : Hid (Frm w1.heap.size w3 (w1.heap.size + 1) w1.heap.size (k + 1) tv tags (updI L0 T (V, T == 35)) 0 0) := F4
      clear F2 F3 F3' hm3 hB3 F4 B12 B13 hb2 lom hne FM
      go_wp2_with fail
      go_region
      clear hrun q0 q1 d0 p0 p1 k0 k1
      obtain ⟨w4, hw4⟩ : ∃ w4, w4 = (w3.alloc (.cells #[.int .i64 T] 3)).drew := ⟨_, rfl⟩
      have B34 : Below w3.heap.size w3 w4 := by rw [hw4]; exact below_more ((Below.refl _ w3).alloc (Nat.le_refl _) _) 1
      have F6 := HF4.out.still B34
      have hcn : ∀ j u, ([.int .i64 T] : List Value)[j]? = some u → w4.cell? ((⟨w3.heap.size, 0, none⟩ : Addr).add j) = some u := by rw [hw4]; exact cell_int_new w3 (.int .i64 T) 3
      have hlk := HLK.out
      have hz3 := HB13.out.size
      have hz4 := B34.size
      obtain ⟨v5, w5, hr, hown5, hg5, _, hat5⟩ := run_append_own_at (P := Tryd.prog) w4 w1.heap.size 96 96 3 i0 (.int .i64 0) 1 8 Tryd.underlying96 hi0 hz0 hzs hzb rfl (by decide) tv tags.length (its tags) F6.own ⟨w3.heap.size, 0, none⟩ 1 1 [.int .i64 T] rfl hcn (by simp [Value.oneCell']) (by rw [hlk]; unfold maxLen; omega) (by rw [hlk]; omega) (by omega)
      have F7 := F6.tagged hg5 hown5 hat5
      have BG := But.of_grown hg5
      have x1 := (BG.cell (o := 1) F6.lt F6.nf).trans F6.c1
      have y1 := (BG.frozen (o := 1) F6.lt F6.nf).trans F6.f1
      have d1 := F6.c1
      have v0 := (B34.cell (World.block_lt_of_cell? _ _ u0)).trans u0
      have HF7 : Hid (Frm w1.heap.size (w5.setCell ⟨w1.heap.size + 1, 1, none⟩ v5) (w1.heap.size + 1) w1.heap.size (k + 1) v5 (tags ++ [T]) (updI L0 T (V, T == 35)) 0 0) := F7
      have HB7 : Hid (Below w1.heap.size w1 (w5.setCell ⟨w1.heap.size + 1, 1, none⟩ v5)) := by
        have e1 : Below w1.heap.size w1 w4 := HB13.out.trans (B34.mono hz3)
        exact (e1.trans (BG.below e1.size (fun i e => (F6.own.lt i e).1))).setCell (Nat.le_succ _) _
      obtain ⟨a5, cap5, rfl⟩ := own_shape hown5
      obtain ⟨a6, cap6, rfl⟩ := own_shape F6.own
      have c1w := HF4.out.c1
      rw [hw4] at hr d1 v0
      clear F6 F7 hcn hown5 hg5 hat5 BG hlk hw4 B34
      have HR : Hid ((Builtin.append_ #[96, 96] 96 #[.slice a6 tags.length cap6, .slice (some ⟨w3.heap.size, 0, none⟩) 1 1]).run Tryd.prog (w3.alloc (.cells #[.int .i64 T] 3)).drew = .ok (.slice a5 (tags.length + 1) cap5) w5) := hr
      clear hr
      go_wp2_with fail
      go_region_law (refine step_append_at rfl (.tmp 60) (.tmp 63) 96 rfl (.slice a6 tags.length cap6) (.slice (some ⟨w3.heap.size, 0, none⟩) 1 1) (.slice a5 (tags.length + 1) cap5) w5 rfl rfl HR.out ?_)
      all_goals (
        go_wp2_with fail
        go_roundw
        case rel =>
          refine ⟨k + 1, .slice a5 (tags.length + 1) cap5, by simp, by omega, ?_, HB7.out⟩
          have := HF7.out
          rw [HT.out, ← HM.out] at this
          exact this
        case measure => simp [RowKit.intOf]; omega)
    · obtain rfl : k = list.length := by omega
      have t0 : ¬ (list.length : Int) < (list.length : Int) := by omega
      rw [List.take_length] at FM
      have HM : Hid (Frm w1.heap.size wr (w1.heap.size + 1) w1.heap.size list.length tv (list.map Prod.fst) (lookF list) 0 0) := FM
      have HB : Hid (Below w1.heap.size w1 wr) := hB
      clear FM hB
      go_wp2_with fail
      go_ret2
      exact ⟨w1.heap.size, w1.heap.size + 1, w1.heap.size, tv, rfl, HB1.out.size, HB1.out.trans (HB.out.mono HB1.out.size), HM.out⟩
end Go.Proofs.YtdacmhnniecmhaaDoor
