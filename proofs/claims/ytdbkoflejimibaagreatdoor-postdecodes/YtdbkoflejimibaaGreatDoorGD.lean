/-
  Contracts of body's within, of what Int hands to take, of Int; and of all methods of no form.
-/
import Derived.Maps.AppendAt
import Derived.Deep.RegionLaw
import Derived.Test.YtdbkoflejimibaaGreatDoorGC
import Derived.Test.YtdbkoflejimibaaGreatDoorGB
namespace Go.Proofs.YtdbkoflejimibaaGreatDoor
open Go.ChangeShapes Go.WideShapes Go.ChangeAt Go.RowKit Go.Lib

set_option maxHeartbeats 2000000 in
theorem within_ok (low high : Int) (v : Value) (n : Nat) (f : Nat → Int) (w : World) (h : Row w v n fun i => .int .i64 (f i)) (hn : n ≤ 1000000) (hf : ∀ i, i < n → low ≤ f i ∧ f i ≤ high) :
    Calls Tryz.prog 80 #[.int .i64 low, .int .i64 high, v] w fun e w' => e = .returned (.int .i64 0) ∧ w' = w := by
  obtain ⟨a, cap, rfl, r1, r2, r3⟩ := id h
  unfold maxLen at r2
  clear h
  go_enter Tryz.func80, Tryz.ntmps80
  go_wp2_with fail
  go_loopw [11] (fun i wr => ∃ k : Nat, i = .int .i64 (k : Int) ∧ k ≤ n ∧ wr = w) (fun i _ => n - (RowKit.intOf i).toNat)
  case atStart => exact ⟨0, rfl, Nat.zero_le _, rfl⟩
  case round =>
    obtain ⟨k, rfl, hk, rfl⟩ := hrel
    by_cases hp : k < n
    · have t0 : (k : Int) < (n : Int) := by omega
      obtain ⟨b, off, rfl, cc⟩ := r3 k hp
      have hx := hf k hp
      generalize f k = x at *
      have t1 : ¬ x < low := by omega
      have t2 : ¬ high < x := by omega
      clear r3 hf hx
      go_wp2_with fail
      go_roundw
      case rel => exact ⟨k + 1, by simp, by omega, by first | trivial | rfl⟩
      case measure => simp [RowKit.intOf]; omega
    · obtain rfl : k = n := by omega
      have t0 : ¬ (k : Int) < (k : Int) := by omega
      go_wp2_with fail
      go_ret
      exact ⟨rfl, rfl⟩
set_option maxHeartbeats 2000000 in
theorem intRead_good (s : ByteArray) (hs : s.size ≤ maxLen) (N : Nat) (hN : numE s.data.toList = (N, 0)) (low high : Int) (hlo : low ≤ (N : Int)) (hhi : (N : Int) ≤ high) (b1 b2 : Nat) (w : World) (c1 : w.cell? ⟨b1, 0, none⟩ = some (.int .i64 low)) (c2 : w.cell? ⟨b2, 0, none⟩ = some (.int .i64 high)) :
    Calls Tryz.prog 78 #[.string s, .pointer (some ⟨b1, 0, none⟩), .pointer (some ⟨b2, 0, none⟩)] w fun e w2 => e = .returned (.tuple #[.int .i64 (N : Int), .int .i64 0]) ∧ Below w.heap.size w w2 := by
  have F := fun w => number_any s w hs
  rw [hN] at F
  dsimp only at F
  have hrow : Row (w.alloc (.cells #[.int .i64 (N : Int)] 3)) (.slice (some ⟨w.heap.size, 0, none⟩) 1 1) 1 fun _ => .int .i64 (N : Int) := by
    refine ⟨_, 1, rfl, Nat.le_refl _, by unfold maxLen; omega, fun i hi => ⟨w.heap.size, 0, rfl, ?_⟩⟩
    obtain rfl : i = 0 := by omega
    simp
  have G := within_ok low high _ 1 (fun _ => (N : Int)) _ hrow (by omega) (fun _ _ => ⟨hlo, hhi⟩)
  clear hrow hN
  go_enter Tryz.func78, Tryz.ntmps78
  go_wp2_with fail
  refine (F _).mono ?_
  rintro e w1 ⟨rfl, rfl⟩
  go_wp2_with fail
  refine G.mono ?_
  rintro e w1 ⟨rfl, rfl⟩
  go_wp2_with fail
  go_ret2
  exact ⟨rfl, (Below.refl _ _).alloc (Nat.le_refl _) _⟩
set_option maxHeartbeats 2000000 in
theorem intRead_bad (s : ByteArray) (hs : s.size ≤ maxLen) (hN : numE s.data.toList = (0, 112)) (b1 b2 : Nat) (w : World) :
    Calls Tryz.prog 78 #[.string s, .pointer (some ⟨b1, 0, none⟩), .pointer (some ⟨b2, 0, none⟩)] w fun e w2 => e = .returned (.tuple #[.int .i64 0, .int .i64 112]) ∧ Below w.heap.size w w2 := by
  have F := fun w => number_any s w hs
  rw [hN] at F
  dsimp only at F
  clear hN
  go_enter Tryz.func78, Tryz.ntmps78
  go_wp2_with fail
  refine (F _).mono ?_
  rintro e w1 ⟨rfl, rfl⟩
  go_wp2_with fail
  go_ret2
  exact ⟨rfl, Below.refl _ _⟩
/-- Two boxes laid one behind the other. -/
abbrev boxes (w : World) (x y : Int) : World := (w.alloc (.cells #[.int .i64 x] 3)).alloc (.cells #[.int .i64 y] 3)
theorem boxes_below (w : World) (x y : Int) : Below w.heap.size w (boxes w x y) := ((Below.refl _ w).alloc (Nat.le_refl _) _).alloc (by simp) _
theorem boxes_size (w : World) (x y : Int) : (boxes w x y).heap.size = w.heap.size + 2 := by simp [boxes]
theorem boxes_0 (w : World) (x y : Int) : (boxes w x y).cell? ⟨w.heap.size, 0, none⟩ = some (.int .i64 x) := by simp [boxes]
theorem boxes_1 (w : World) (x y : Int) : (boxes w x y).cell? ⟨w.heap.size + 1, 0, none⟩ = some (.int .i64 y) := by simp [boxes]
theorem But.after {S : Nat → Prop} {a b c : World} (h : Below a.heap.size a b) (k : But S b c) : But S a c := (But.of_below h).trans k (fun _ _ e => e)
set_option maxHeartbeats 2000000 in
theorem int_good {n0 : Nat} {w : World} {fb bm n : Nat} {tv : Value} {tags : List Int} {L : Int → Option (ByteArray × Bool)} {at_ : Int} (h : Frm n0 w fb bm n tv tags L at_ 0) (hn : n ≤ 1000000) (t : Int) (h1 : -9223372036854775808 ≤ t) (h2 : t ≤ 9223372036854775807) (s : ByteArray) (b : Bool) (hL : L t = some (s, b)) (hs : s.size ≤ maxLen) (N : Nat) (hN : numE s.data.toList = (N, 0)) (low high : Int) (hlo : low ≤ (N : Int)) (hhi : (N : Int) ≤ high) :
    Calls Tryz.prog 53 #[.pointer (some ⟨fb, 0, none⟩), .int .i64 t, .int .i64 low, .int .i64 high] w fun e w' => e = .returned (.int .i64 (N : Int)) ∧ Frm n0 w' fb bm (n + 1) tv tags (updI L t (s, true)) at_ 0 ∧ But (Two fb bm) w w' := by
  have BB := boxes_below w low high
  have z0 := boxes_0 w low high
  have z1 := boxes_1 w low high
  have zs := boxes_size w low high
  have R : ∀ w1, Below (boxes w low high).heap.size (boxes w low high) w1 → _ := fun w1 (hb : Below (boxes w low high).heap.size (boxes w low high) w1) => intRead_good s hs N hN low high hlo hhi w.heap.size (w.heap.size + 1) w1 ((hb.cell (p := ⟨w.heap.size, 0, none⟩) (by rw [zs]; simp)).trans z0) ((hb.cell (p := ⟨w.heap.size + 1, 0, none⟩) (by rw [zs]; simp)).trans z1)
  have T := takeI_good (h.still BB) hn t h1 h2 s b hL w.heap.size (w.heap.size + 1) (N : Int) R
  clear R z0 z1 zs h hL
  have HB : Hid (Below w.heap.size w (boxes w low high)) := BB
  clear BB
  go_enter Tryz.func53, Tryz.ntmps53
  go_wp2_with fail
  refine T.mono ?_
  rintro e w1 ⟨rfl, hF, hB⟩
  go_wp2_with fail
  go_ret
  exact ⟨rfl, hF, But.after HB.out hB⟩
set_option maxHeartbeats 2000000 in
theorem int_bad {n0 : Nat} {w : World} {fb bm n : Nat} {tv : Value} {tags : List Int} {L : Int → Option (ByteArray × Bool)} {at_ : Int} (h : Frm n0 w fb bm n tv tags L at_ 0) (t : Int) (h1 : -9223372036854775808 ≤ t) (h2 : t ≤ 9223372036854775807) (s : ByteArray) (b : Bool) (hL : L t = some (s, b)) (hs : s.size ≤ maxLen) (hN : numE s.data.toList = (0, 112)) (low high : Int) :
    Calls Tryz.prog 53 #[.pointer (some ⟨fb, 0, none⟩), .int .i64 t, .int .i64 low, .int .i64 high] w fun e w' => e = .returned (.int .i64 0) ∧ Frm n0 w' fb bm n tv tags L t 112 ∧ But (Two fb bm) w w' := by
  have BB := boxes_below w low high
  have T := takeI_bad (h.still BB) t h1 h2 s b hL w.heap.size (w.heap.size + 1) 0 112 (by omega) (fun w1 _ => intRead_bad s hs hN _ _ w1)
  clear h hL
  have HB : Hid (Below w.heap.size w (boxes w low high)) := BB
  clear BB
  go_enter Tryz.func53, Tryz.ntmps53
  go_wp2_with fail
  refine T.mono ?_
  rintro e w1 ⟨rfl, hF, hB⟩
  go_wp2_with fail
  go_ret
  exact ⟨rfl, hF, But.after HB.out hB⟩
end Go.Proofs.YtdbkoflejimibaaGreatDoor
/-
  The contract of body's Read, of a body that has a form.
-/
namespace Go.Proofs.YtdbkoflejimibaaGreatDoor
open Go.ChangeShapes Go.WideShapes Go.ChangeAt Go.RowKit Go.Lib

/-- What a list of fields tells of a tag; the tag 35 counts as asked for. -/
def lookF (l : List Fd) (t : Int) : Option (ByteArray × Bool) := match l.find? (fun f => f.1 == t) with
  | some f => some (f.2, t == 35)
  | none => none
theorem lookF_none {l : List Fd} {t : Int} (h : t ∉ l.map Prod.fst) : lookF l t = none := by
  have : l.find? (fun f => f.1 == t) = none := by
    rw [List.find?_eq_none]
    intro f hf e
    exact h (List.mem_map.2 ⟨f, hf, by simpa using e⟩)
  unfold lookF
  rw [this]
theorem lookF_more (l : List Fd) (f : Fd) (h : f.1 ∉ l.map Prod.fst) : lookF (l ++ [f]) = updI (lookF l) f.1 (f.2, f.1 == 35) := by
  funext t
  by_cases e : t = f.1
  · subst e
    have hn : l.find? (fun g => g.1 == f.1) = none := by
      rw [List.find?_eq_none]
      intro g hg k
      exact h (List.mem_map.2 ⟨g, hg, by simpa using k⟩)
    rw [updI_same]
    unfold lookF
    rw [List.find?_append, hn]
    simp
  · rw [updI_other _ _ e]
    unfold lookF
    rw [List.find?_append]
    have : [f].find? (fun g => g.1 == t) = none := by
      simp only [List.find?_cons, List.find?_nil]
      rw [show (f.1 == t) = false from beq_false_of_ne (fun k => e k.symm)]
    rw [this, Option.or_none]
theorem mkMap (n : Nat) (w : World) : (Instr.makeMap 107 (some (.int .i64 (n : Int)))).run Tryz.prog w = .ok (.map (some w.heap.size)) (w.alloc (.map #[] 0)) := by
  simp [Instr.makeMap, run_underlying Tryz.underlying107, asInt, asIntOf, Result.andThen]
theorem Frm.fresh (w : World) : Frm w.heap.size ((w.alloc (.map #[] 0)).alloc (.cells #[.map (some w.heap.size), .slice none 0 0, .int .i64 0, .int .i64 0] 109)) (w.heap.size + 1) w.heap.size 0 (.slice none 0 0) [] (lookF []) 0 0 where
  c0 := by simp
  c1 := by simp
  c2 := by simp
  c3 := by simp
  f1 := by simp
  f2 := by simp
  f3 := by simp
  map := by
    have := (FMap.made w).still ((Below.refl _ _).alloc (Nat.le_refl _) (.cells #[.map (some w.heap.size), .slice none 0 0, .int .i64 0, .int .i64 0] 109))
    exact this
  own := World.ownsRow_nil _ _ _ _
  lof := by omega
  lom := Nat.le_refl _
  ne := by omega
  nf := by simp [Value.ownBlock]
/-- The form with one tag more in its list. -/
theorem Frm.tagged {n0 : Nat} {w w' : World} {fb bm n : Nat} {tv v' : Value} {tags : List Int} {L : Int → Option (ByteArray × Bool)} {at_ e T : Int} (h : Frm n0 w fb bm n tv tags L at_ e) (hg : w.grownBy w' tv.ownBlock) (hown : w'.ownsRow n0 3 1 v' (tags.length + 1) (its tags ++ [.int .i64 T])) (hat : v'.ownBlock = tv.ownBlock ∨ v'.ownBlock = some w.heap.size) :
    Frm n0 (w'.setCell ⟨fb, 1, none⟩ v') fb bm n v' (tags ++ [T]) L at_ e := by
  have BG := But.of_grown hg
  have nb : ¬ tv.ownBlock = some fb := h.nf
  have g0 := (BG.cell (o := 0) h.lt nb).trans h.c0
  have g1 := (BG.cell (o := 1) h.lt nb).trans h.c1
  have nv : v'.ownBlock ≠ some fb := by
    rcases hat with e | e
    · rw [e]; exact nb
    · rw [e]
      intro k
      have := h.lt
      have := Option.some.inj k
      omega
  have BS : But (fun k => k = fb) w' (w'.setCell ⟨fb, 1, none⟩ v') := (But.refl (fun k => k = fb) w').setCell fb 1 _ (fun _ => rfl)
  refine ⟨?_, ?_, ?_, ?_, ?_, ?_, ?_, ?_, ?_, h.lof, h.lom, h.ne, nv⟩
  · rw [World.cell?_setCell_other]; exact g0; simp
  · exact World.cell?_setCell_same _ _ _ g1
  · rw [World.cell?_setCell_other]; exact (BG.cell (o := 2) h.lt nb).trans h.c2; simp
  · rw [World.cell?_setCell_other]; exact (BG.cell (o := 3) h.lt nb).trans h.c3; simp
  · rw [World.frozen?_setCell]; exact (BG.frozen (o := 1) h.lt nb).trans h.f1
  · rw [World.frozen?_setCell]; exact (BG.frozen (o := 2) h.lt nb).trans h.f2
  · rw [World.frozen?_setCell]; exact (BG.frozen (o := 3) h.lt nb).trans h.f3
  · exact (h.map.kept BG h.nm).kept BS h.ne
  · have := own_kept hown BS (fun g hg e => nv (by rw [hg, e]))
    rw [its_more, List.length_append]
    exact this
/-- append as one step of a region that draws, out of its run. -/
theorem step_append_at {P : Program} {ops : Array Oper} {o : Oper} {a : Act} {w : World} {K : Act → World → Prop} {Q : Exit → Act → World → Prop} {E : Prop} (hgd : o.guard = none) (s x : Operand) (t : TypeId)
    (ho : o.op = .call { callee := .builtin .append, args := #[s, x], argTypes := #[t, t] }) (u v v' : Value) (w' : World) (hs : a.eval s = u) (hx : a.eval x = v) (hrun : (Builtin.append_ #[t, t] o.type #[u, v]).run P w = .ok v' w')
    (h : K (a.put o.dst v') w') :
    if Region.wanted o (yielded ops a.tmps) = true then Oper.wp P o a w K Q else E := by
  have hw : Region.wanted o (yielded ops a.tmps) = true := by simp [Region.wanted, hgd]
  rw [if_pos hw]
  unfold Oper.wp execOp
  simp only [ho, resolve, invoke, builtin, Sem.run_bind, Sem.run_pure, Result.andThen_ok, List.map_toArray, List.map_cons, List.map_nil, hs, hx, hrun]
  exact h
theorem isSome_none : (none : Option (ByteArray × Bool)).isSome = false := rfl
/-- Read made a form that holds these fields. -/
def RdOk (w : World) (list : List Fd) (e : Ending) (w' : World) : Prop := ∃ n0 fb bm tv, e = .returned (.tuple #[.pointer (some ⟨fb, 0, none⟩), .int .i64 0]) ∧ w.heap.size ≤ n0 ∧ Below w.heap.size w w' ∧ Frm n0 w' fb bm list.length tv (list.map Prod.fst) (lookF list) 0 0
set_option maxRecDepth 1000000 in
set_option maxHeartbeats 8000000 in
theorem read_ok (s : ByteArray) (w : World) (hs : s.size ≤ 1000000) (list : List Fd) (A : Nat) (hF : fieldsL s.data.toList = (list, A, 0)) (V0 : ByteArray) (rest : List Fd) (h35 : list = (35, V0) :: rest) (hnd : (list.map Prod.fst).Nodup) (hb : ∀ f ∈ list, -9223372036854775808 ≤ f.1 ∧ f.1 ≤ 9223372036854775807) (hlen : list.length ≤ 64) :
    Calls Tryz.prog 29 #[.string s] w fun e w' => RdOk w list e w' := by
  obtain ⟨i0, hi0, hz0, hzs, hzb⟩ := info_parts infoI
  have G := fields_any s w hs
  rw [hF] at G
  dsimp only at G
  clear hF
  go_enter Tryz.func29, Tryz.ntmps29
  go_wp2_with fail
  refine G.mono ?_
  rintro e w1 ⟨v, rfl, Q⟩
  clear G
  have hB1 := Q.below
  have hFl := flds_of_own Q.own
  clear Q
  obtain ⟨a, cap, rfl, r1, r2, r3⟩ := id hFl
  unfold maxLen at r2
  have hl0 : ((list.length : Int) == 0) = false := by
    rw [h35]
    exact beq_false_of_ne (by simp; omega)
  have hp0 : 0 < list.length := by rw [h35]; simp
  obtain ⟨b0, o0, rfl, k0, k00⟩ := r3 0 hp0
  clear k00
  have e35 : (list[0]).1 = 35 := by subst h35; rfl
  rw [e35] at k0
  have t0 : (0 : Int) < (list.length : Int) := by omega
  have hmk := mkMap list.length
  have HF : Hid (Flds w1 (.slice (some ⟨b0, o0, none⟩) list.length cap) list) := hFl
  have HB1 : Hid (Below w.heap.size w w1) := hB1
  have FR := Frm.fresh w1
  have HFR : Hid (Frm w1.heap.size ((w1.alloc (.map #[] 0)).alloc (.cells #[.map (some w1.heap.size), .slice none 0 0, .int .i64 0, .int .i64 0] 109)) (w1.heap.size + 1) w1.heap.size 0 (.slice none 0 0) [] (lookF []) 0 0) := FR
  simp only [Nat.zero_mul, Nat.add_zero] at k0
  clear hFl hB1 r3 e35 FR h35
  go_wp2_with fail
  go_loopw [36] (fun i wr => ∃ (k : Nat) (tv : Value), i = .int .i64 (k : Int) ∧ k ≤ list.length ∧ Frm w1.heap.size wr (w1.heap.size + 1) w1.heap.size k tv ((list.take k).map Prod.fst) (lookF (list.take k)) 0 0 ∧ Below w1.heap.size w1 wr) (fun i _ => list.length - (RowKit.intOf i).toNat)
  case atStart => exact ⟨0, .slice none 0 0, rfl, Nat.zero_le _, HFR.out, ((Below.refl _ w1).alloc (Nat.le_refl _) _).alloc (by simp) _⟩
  case round =>
    clear HFR hmk hl0 t0 k0 hp0
    obtain ⟨k, tv, rfl, hk, FM, hB⟩ := hrel
    by_cases hp : k < list.length
    · have t0 : (k : Int) < (list.length : Int) := by omega
      obtain ⟨a', cap', e0, r1', r2', r3⟩ := HF.out.below hB (Nat.le_refl _)
      obtain ⟨b, off, e1, k0, k1⟩ := r3 k hp
      simp only [Value.slice.injEq] at e0
      obtain ⟨rfl, _, rfl⟩ := e0
      simp only [Option.some.injEq, Addr.mk.injEq] at e1
      obtain ⟨rfl, rfl, _⟩ := e1
      have hbk := hb list[k] (List.getElem_mem hp)
      have hnew : (list[k]).1 ∉ (list.take k).map Prod.fst := by
        intro hm
        rw [List.map_take] at hm
        obtain ⟨j, hj, ej⟩ := List.getElem_of_mem hm
        have hj' : j < k := by
          have := hj
          rw [List.length_take] at this
          omega
        rw [List.getElem_take, List.getElem_map] at ej
        have := (List.pairwise_iff_getElem.1 hnd) j k (by simp; omega) (by simpa using hp) hj'
        rw [List.getElem_map, List.getElem_map] at this
        exact this ej
      have hno := lookF_none hnew
      have hmore := lookF_more (list.take k) list[k] hnew
      have htake : list.take k ++ [list[k]] = list.take (k + 1) := by rw [List.take_add_one, List.getElem?_eq_getElem hp]; rfl
      rw [htake] at hmore
      have htags : (list.take k).map Prod.fst ++ [(list[k]).1] = (list.take (k + 1)).map Prod.fst := by rw [← htake, List.map_append]; rfl
      have hlk : ((list.take k).map Prod.fst).length = k := by simp; omega
      obtain ⟨T, V, hTV⟩ : ∃ T V, list[k] = (T, V) := ⟨_, _, rfl⟩
      rw [hTV] at k0 k1 hbk hnew hmore htags hno
      dsimp only at k0 k1 hbk hnew hmore htags hno
      have HM : Hid (lookF (list.take (k + 1)) = updI (lookF (list.take k)) T (V, T == 35)) := hmore
      have HT : Hid ((list.take k).map Prod.fst ++ [T] = (list.take (k + 1)).map Prod.fst) := htags
      have HLK : Hid (((list.take k).map Prod.fst).length = k) := hlk
      clear hmore htags hnew htake hTV r3 hlk
      generalize (list.take k).map Prod.fst = tags at *
      generalize lookF (list.take k) = L0 at *
      -- the field lies in a block of its own
      obtain ⟨wa, hwa⟩ : ∃ wa, wa = wr.alloc (.cells #[.int .i64 T, .string V] 98) := ⟨_, rfl⟩
      have Ba : Below wr.heap.size wr wa := by rw [hwa]; exact (Below.refl _ _).alloc (Nat.le_refl _) _
      have Fa := FM.still Ba
      have F1 := has_yes Fa T hbk.1 hbk.2
      rw [hno, isSome_none] at F1
      have HFa : Hid (Frm w1.heap.size wa (w1.heap.size + 1) w1.heap.size k tv tags L0 0 0) := Fa
      have HBr : Hid (Below w1.heap.size w1 wr) := hB
      have HBa : Hid (Below wr.heap.size wr wa) := Ba
      have p0 : wa.cell? ⟨wr.heap.size, 0, none⟩ = some (.int .i64 T) := by rw [hwa]; simp
      have p1 : wa.cell? ⟨wr.heap.size, 1, none⟩ = some (.string V) := by rw [hwa]; simp
      clear Fa hB Ba hno
      have HWA : Hid (wa = wr.alloc (.cells #[.int .i64 T, .string V] 98)) := hwa
      subst hwa
      go_wp2_with fail
      refine F1.mono ?_
      rintro e w2 ⟨rfl, hb2⟩
      clear F1
      have F2 := HFa.out.still hb2
      have q0 := (hb2.cell (World.block_lt_of_cell? _ _ p0)).trans p0
      have q1 := (hb2.cell (World.block_lt_of_cell? _ _ p1)).trans p1
      have hz2 : wr.heap.size < w2.heap.size := World.block_lt_of_cell? _ _ q0
      have F3 := F2.still (below_drewN w2.heap.size 1 w2)
      have F3' : Frm w1.heap.size w2.drew (w1.heap.size + 1) w1.heap.size k tv tags L0 0 0 := F3
      obtain ⟨w3, hrun, hm3, hB3⟩ := F3'.map.store (by omega) T hbk.1 hbk.2 V (T == 35)
      have F4 := F3'.stored hB3 hm3
      have lom := F2.lom
      have hne : ¬ wr.heap.size = w1.heap.size := by
        have := HBr.out.size
        have := FM.map.lt
        omega
      have u0 := (hB3.cell (o := 0) (show wr.heap.size < w2.drew.heap.size from hz2) hne).trans (show w2.drew.cell? _ = _ from q0)
      have d0 := F2.c0
      have B12 : Below w1.heap.size w1 w2 := HBr.out.trans ((HBa.out.trans (hb2.mono HBa.out.size)).mono HBr.out.size)
      have B13 : Below w1.heap.size w1 w3 := (show Below w1.heap.size w1 w2.drew from below_more B12 1).trans (hB3.below (show w1.heap.size ≤ w2.heap.size from B12.size) (fun i e => by rw [e]; exact Nat.le_refl _))
      have HB13 : Hid (Below w1.heap.size w1 w3) := B13
      have HF4 : Hid (Frm w1.heap.size w3 (w1.heap.size + 1) w1.heap.size (k + 1) tv tags (updI L0 T (V, T == 35)) 0 0) := F4
      clear F2 F3 F3' hm3 hB3 F4 B12 B13 hb2 lom hne FM
      go_wp2_with fail
      go_region
      clear hrun q0 q1 d0 p0 p1 k0 k1
      obtain ⟨w4, hw4⟩ : ∃ w4, w4 = (w3.alloc (.cells #[.int .i64 T] 3)).drew := ⟨_, rfl⟩
      have B34 : Below w3.heap.size w3 w4 := by rw [hw4]; exact below_more ((Below.refl _ w3).alloc (Nat.le_refl _) _) 1
      have F6 := HF4.out.still B34
      have hcn : ∀ j u, ([.int .i64 T] : List Value)[j]? = some u → w4.cell? ((⟨w3.heap.size, 0, none⟩ : Addr).add j) = some u := by rw [hw4]; exact cell_int_new w3 (.int .i64 T) 3
      have hlk := HLK.out
      have hz3 := HB13.out.size
      have hz4 := B34.size
      obtain ⟨v5, w5, hr, hown5, hg5, _, hat5⟩ := run_append_own_at (P := Tryz.prog) w4 w1.heap.size 60 60 3 i0 (.int .i64 0) 1 8 Tryz.underlying60 hi0 hz0 hzs hzb rfl (by decide) tv tags.length (its tags) F6.own ⟨w3.heap.size, 0, none⟩ 1 1 [.int .i64 T] rfl hcn (by simp [Value.oneCell']) (by rw [hlk]; unfold maxLen; omega) (by rw [hlk]; omega) (by omega)
      have F7 := F6.tagged hg5 hown5 hat5
      have BG := But.of_grown hg5
      have x1 := (BG.cell (o := 1) F6.lt F6.nf).trans F6.c1
      have y1 := (BG.frozen (o := 1) F6.lt F6.nf).trans F6.f1
      have d1 := F6.c1
      have v0 := (B34.cell (World.block_lt_of_cell? _ _ u0)).trans u0
      have HF7 : Hid (Frm w1.heap.size (w5.setCell ⟨w1.heap.size + 1, 1, none⟩ v5) (w1.heap.size + 1) w1.heap.size (k + 1) v5 (tags ++ [T]) (updI L0 T (V, T == 35)) 0 0) := F7
      have HB7 : Hid (Below w1.heap.size w1 (w5.setCell ⟨w1.heap.size + 1, 1, none⟩ v5)) := by
        have e1 : Below w1.heap.size w1 w4 := HB13.out.trans (B34.mono hz3)
        exact (e1.trans (BG.below e1.size (fun i e => (F6.own.lt i e).1))).setCell (Nat.le_succ _) _
      obtain ⟨a5, cap5, rfl⟩ := own_shape hown5
      obtain ⟨a6, cap6, rfl⟩ := own_shape F6.own
      have c1w := HF4.out.c1
      rw [hw4] at hr d1 v0
      clear F6 F7 hcn hown5 hg5 hat5 BG hlk hw4 B34
      have HR : Hid ((Builtin.append_ #[60, 60] 60 #[.slice a6 tags.length cap6, .slice (some ⟨w3.heap.size, 0, none⟩) 1 1]).run Tryz.prog (w3.alloc (.cells #[.int .i64 T] 3)).drew = .ok (.slice a5 (tags.length + 1) cap5) w5) := hr
      clear hr
      go_wp2_with fail
      go_region_law (refine step_append_at rfl (.tmp 60) (.tmp 63) 60 rfl (.slice a6 tags.length cap6) (.slice (some ⟨w3.heap.size, 0, none⟩) 1 1) (.slice a5 (tags.length + 1) cap5) w5 rfl rfl HR.out ?_)
      all_goals (
        go_wp2_with fail
        go_roundw
        case rel =>
          refine ⟨k + 1, .slice a5 (tags.length + 1) cap5, by simp, by omega, ?_, HB7.out⟩
          have := HF7.out
          rw [HT.out, ← HM.out] at this
          exact this
        case measure => simp [RowKit.intOf]; omega)
    · obtain rfl : k = list.length := by omega
      have t0 : ¬ (list.length : Int) < (list.length : Int) := by omega
      rw [List.take_length] at FM
      have HM : Hid (Frm w1.heap.size wr (w1.heap.size + 1) w1.heap.size list.length tv (list.map Prod.fst) (lookF list) 0 0) := FM
      have HB : Hid (Below w1.heap.size w1 wr) := hB
      clear FM hB
      go_wp2_with fail
      go_ret2
      exact ⟨w1.heap.size, w1.heap.size + 1, w1.heap.size, tv, rfl, HB1.out.size, HB1.out.trans (HB.out.mono HB1.out.size), HM.out⟩
end Go.Proofs.YtdbkoflejimibaaGreatDoor
/-
  Contracts of what Name hands to take, and of Name.
-/
namespace Go.Proofs.YtdbkoflejimibaaGreatDoor
open Go.ChangeShapes Go.WideShapes Go.ChangeAt Go.RowKit Go.Lib

theorem vld_size {s : ByteArray} (h : vldB s = true) : s.size ≠ 0 := by
  intro e
  unfold vldB goodB runes at h
  rw [e] at h
  simp [runesOf] at h
set_option maxHeartbeats 1000000 in
theorem nameRead_good (s : ByteArray) (hv : vldB s = true) (w : World) :
    Calls Tryz.prog 76 #[.string s] w fun e w2 => e = .returned (.tuple #[.string s, .int .i64 0]) ∧ Below w.heap.size w w2 := by
  have F := valid_any s
  rw [hv] at F
  go_enter Tryz.func76, Tryz.ntmps76
  go_wp2_with fail
  refine (F _).mono ?_
  rintro e w1 ⟨rfl, b1⟩
  go_wp2_with fail
  go_ret2
  exact ⟨rfl, b1⟩
set_option maxHeartbeats 1000000 in
theorem nameRead_bad (s : ByteArray) (hv : vldB s = false) (w : World) :
    Calls Tryz.prog 76 #[.string s] w fun e w2 => e = .returned (.tuple #[.string ⟨#[]⟩, .int .i64 43]) ∧ Below w.heap.size w w2 := by
  have F := valid_any s
  rw [hv] at F
  go_enter Tryz.func76, Tryz.ntmps76
  go_wp2_with fail
  refine (F _).mono ?_
  rintro e w1 ⟨rfl, b1⟩
  go_wp2_with fail
  go_ret2
  exact ⟨rfl, b1⟩
set_option maxHeartbeats 2000000 in
theorem name_good {n0 : Nat} {w : World} {fb bm n : Nat} {tv : Value} {tags : List Int} {L : Int → Option (ByteArray × Bool)} {at_ : Int} (h : Frm n0 w fb bm n tv tags L at_ 0) (hn : n ≤ 1000000) (t : Int) (h1 : -9223372036854775808 ≤ t) (h2 : t ≤ 9223372036854775807) (s : ByteArray) (b : Bool) (hL : L t = some (s, b)) (hv : vldB s = true) :
    Calls Tryz.prog 51 #[.pointer (some ⟨fb, 0, none⟩), .int .i64 t] w fun e w' => e = .returned (.string s) ∧ Frm n0 w' fb bm (n + 1) tv tags (updI L t (s, true)) at_ 0 ∧ But (Two fb bm) w w' := by
  have T := takeS_good h hn t h1 h2 s b hL s (fun w1 _ => nameRead_good s hv w1)
  clear h hL
  go_enter Tryz.func51, Tryz.ntmps51
  go_wp2_with fail
  refine T.mono ?_
  rintro e w1 ⟨rfl, hF, hB⟩
  go_wp2_with fail
  go_ret
  exact ⟨rfl, hF, hB⟩
set_option maxHeartbeats 2000000 in
theorem name_bad {n0 : Nat} {w : World} {fb bm n : Nat} {tv : Value} {tags : List Int} {L : Int → Option (ByteArray × Bool)} {at_ : Int} (h : Frm n0 w fb bm n tv tags L at_ 0) (t : Int) (h1 : -9223372036854775808 ≤ t) (h2 : t ≤ 9223372036854775807) (s : ByteArray) (b : Bool) (hL : L t = some (s, b)) (hv : vldB s = false) :
    Calls Tryz.prog 51 #[.pointer (some ⟨fb, 0, none⟩), .int .i64 t] w fun e w' => e = .returned (.string ⟨#[]⟩) ∧ Frm n0 w' fb bm n tv tags L t 43 ∧ But (Two fb bm) w w' := by
  have T := takeS_bad h t h1 h2 s b hL ⟨#[]⟩ 43 (by omega) (fun w1 _ => nameRead_bad s hv w1)
  clear h hL
  go_enter Tryz.func51, Tryz.ntmps51
  go_wp2_with fail
  refine T.mono ?_
  rintro e w1 ⟨rfl, hF, hB⟩
  go_wp2_with fail
  go_ret
  exact ⟨rfl, hF, hB⟩
end Go.Proofs.YtdbkoflejimibaaGreatDoor
/-
  Contracts of body's take where the field lacks, where an error came before, and at lists of numbers.
-/
namespace Go.Proofs.YtdbkoflejimibaaGreatDoor
open Go.ChangeShapes Go.WideShapes Go.ChangeAt Go.RowKit Go.Lib

theorem own_lower {w : World} {base base' : Nat} {e : TypeId} {size : Nat} {v : Value} {n : Nat} {xs : List Value} (h : w.ownsRow base e size v n xs) (hb : base' ≤ base) : w.ownsRow base' e size v n xs := by
  refine ⟨h.1, ?_⟩
  rcases h.2 with hn | ⟨g, cap, cur, e1, h1, r⟩
  · exact .inl hn
  · exact .inr ⟨g, cap, cur, e1, Nat.le_trans hb h1, r⟩
theorem Frm.wide {n0 : Nat} {w : World} {fb bm n m : Nat} {tv : Value} {tags : List Int} {L : Int → Option (ByteArray × Bool)} {at_ e : Int} (h : Frm n0 w fb bm n tv tags L at_ e) (hm : n ≤ m) : Frm n0 w fb bm m tv tags L at_ e :=
  { h with map := h.map.wide hm }
set_option maxHeartbeats 1000000 in
theorem takeI_err {n0 : Nat} {w : World} {fb bm n : Nat} {tv : Value} {tags : List Int} {L : Int → Option (ByteArray × Bool)} {at_ e0 : Int} (h : Frm n0 w fb bm n tv tags L at_ e0) (he : e0 ≠ 0) (t : Int) (g : Value) :
    Calls Tryz.prog 77 #[.pointer (some ⟨fb, 0, none⟩), .int .i64 t, g] w fun e w' => e = .returned (.int .i64 0) ∧ w' = w := by
  have F := made_yes h
  have c3 := h.c3
  have te : (e0 == 0) = false := beq_false_of_ne he
  clear h
  go_enter Tryz.func77, Tryz.ntmps77
  go_wp2_with fail
  refine F.mono ?_
  rintro e w1 ⟨rfl, rfl⟩
  go_wp2_with fail
  go_ret
  exact ⟨rfl, rfl⟩
set_option maxRecDepth 1000000 in
set_option maxHeartbeats 4000000 in
theorem takeI_miss {n0 : Nat} {w : World} {fb bm n : Nat} {tv : Value} {tags : List Int} {L : Int → Option (ByteArray × Bool)} {at_ : Int} (h : Frm n0 w fb bm n tv tags L at_ 0) (t : Int) (h1 : -9223372036854775808 ≤ t) (h2 : t ≤ 9223372036854775807) (hL : L t = none) (g : Value) :
    Calls Tryz.prog 77 #[.pointer (some ⟨fb, 0, none⟩), .int .i64 t, g] w fun e w' => e = .returned (.int .i64 0) ∧ Frm n0 w' fb bm n tv tags L t 110 ∧ But (Two fb bm) w w' := by
  have F := made_yes h
  have lk := h.map.look_ok t h1 h2
  rw [hL, show fldV none = .agg #[.string ⟨#[]⟩, .bool false] from rfl, show (none : Option (ByteArray × Bool)).isSome = false from rfl] at lk
  have c0 := h.c0
  have c3 := h.c3
  have lt := h.lt
  have d2 := h.c2
  have g2 := h.f2
  have g3 := h.f3
  have nb : ¬ fb = w.heap.size := by omega
  have nb' : ¬ w.heap.size = fb := by omega
  have HG : Hid (Frm n0 w fb bm n tv tags L at_ 0) := h
  clear h hL
  go_enter Tryz.func77, Tryz.ntmps77
  go_wp2_with fail
  refine F.mono ?_
  rintro e w1 ⟨rfl, rfl⟩
  clear F
  go_wp2_with fail
  go_ret
  exact ⟨rfl, (HG.out.fail t 110).still ((Below.refl _ _).alloc (Nat.le_refl _) _), (((But.refl (Two fb bm) w1).setCell fb 2 _ (fun _ => .inl rfl)).setCell fb 3 _ (fun _ => .inl rfl)).alloc _⟩
set_option maxHeartbeats 1000000 in
theorem takeS_err {n0 : Nat} {w : World} {fb bm n : Nat} {tv : Value} {tags : List Int} {L : Int → Option (ByteArray × Bool)} {at_ e0 : Int} (h : Frm n0 w fb bm n tv tags L at_ e0) (he : e0 ≠ 0) (t : Int) (g : Value) :
    Calls Tryz.prog 75 #[.pointer (some ⟨fb, 0, none⟩), .int .i64 t, g] w fun e w' => e = .returned (.string ⟨#[]⟩) ∧ w' = w := by
  have F := made_yes h
  have c3 := h.c3
  have te : (e0 == 0) = false := beq_false_of_ne he
  clear h
  go_enter Tryz.func75, Tryz.ntmps75
  go_wp2_with fail
  refine F.mono ?_
  rintro e w1 ⟨rfl, rfl⟩
  go_wp2_with fail
  go_ret
  exact ⟨rfl, rfl⟩
set_option maxRecDepth 1000000 in
set_option maxHeartbeats 4000000 in
theorem takeS_miss {n0 : Nat} {w : World} {fb bm n : Nat} {tv : Value} {tags : List Int} {L : Int → Option (ByteArray × Bool)} {at_ : Int} (h : Frm n0 w fb bm n tv tags L at_ 0) (t : Int) (h1 : -9223372036854775808 ≤ t) (h2 : t ≤ 9223372036854775807) (hL : L t = none) (g : Value) :
    Calls Tryz.prog 75 #[.pointer (some ⟨fb, 0, none⟩), .int .i64 t, g] w fun e w' => e = .returned (.string ⟨#[]⟩) ∧ Frm n0 w' fb bm n tv tags L t 110 ∧ But (Two fb bm) w w' := by
  have F := made_yes h
  have lk := h.map.look_ok t h1 h2
  rw [hL, show fldV none = .agg #[.string ⟨#[]⟩, .bool false] from rfl, show (none : Option (ByteArray × Bool)).isSome = false from rfl] at lk
  have c0 := h.c0
  have c3 := h.c3
  have lt := h.lt
  have d2 := h.c2
  have g2 := h.f2
  have g3 := h.f3
  have nb : ¬ fb = w.heap.size := by omega
  have nb' : ¬ w.heap.size = fb := by omega
  have HG : Hid (Frm n0 w fb bm n tv tags L at_ 0) := h
  clear h hL
  go_enter Tryz.func75, Tryz.ntmps75
  go_wp2_with fail
  refine F.mono ?_
  rintro e w1 ⟨rfl, rfl⟩
  clear F
  go_wp2_with fail
  go_ret
  exact ⟨rfl, (HG.out.fail t 110).still ((Below.refl _ _).alloc (Nat.le_refl _) _), (((But.refl (Two fb bm) w1).setCell fb 2 _ (fun _ => .inl rfl)).setCell fb 3 _ (fun _ => .inl rfl)).alloc _⟩
set_option maxRecDepth 1000000 in
set_option maxHeartbeats 4000000 in
theorem takeI_bad' {n0 : Nat} {w : World} {fb bm n : Nat} {tv : Value} {tags : List Int} {L : Int → Option (ByteArray × Bool)} {at_ : Int} (h : Frm n0 w fb bm n tv tags L at_ 0) (t : Int) (h1 : -9223372036854775808 ≤ t) (h2 : t ≤ 9223372036854775807) (s : ByteArray) (b : Bool) (hL : L t = some (s, b)) (b1 b2 : Nat) (e1 : Int) (he : e1 ≠ 0)
    (R : ∀ w1, Below w.heap.size w w1 → Calls Tryz.prog 78 #[.string s, .pointer (some ⟨b1, 0, none⟩), .pointer (some ⟨b2, 0, none⟩)] w1 fun e w2 => ∃ x : Int, e = .returned (.tuple #[.int .i64 x, .int .i64 e1]) ∧ Below w1.heap.size w1 w2) :
    Calls Tryz.prog 77 #[.pointer (some ⟨fb, 0, none⟩), .int .i64 t, .func (.func 78) #[] #[.pointer (some ⟨b1, 0, none⟩), .pointer (some ⟨b2, 0, none⟩)]] w fun e w' => e = .returned (.int .i64 0) ∧ Frm n0 w' fb bm n tv tags L t e1 ∧ But (Two fb bm) w w' := by
  have F := made_yes h
  have lk := h.map.look_ok t h1 h2
  rw [hL, show fldV (some (s, b)) = .agg #[.string s, .bool b] from rfl, show (some (s, b)).isSome = true from rfl] at lk
  have c0 := h.c0
  have c3 := h.c3
  have lt := h.lt
  have HF : Hid (Frm n0 w fb bm n tv tags L at_ 0) := h
  have A1 : Below w.heap.size w (w.alloc (.cells #[.string s, .bool b] 111)) := (Below.refl _ w).alloc (Nat.le_refl _) _
  have R1 := R _ A1
  have te : (e1 == 0) = false := beq_false_of_ne he
  clear h hL R
  go_enter Tryz.func77, Tryz.ntmps77
  go_wp2_with fail
  refine F.mono ?_
  rintro e w1 ⟨rfl, rfl⟩
  clear F
  go_wp2_with fail
  refine R1.mono ?_
  rintro e w2 ⟨x, rfl, hb⟩
  clear R1
  have B2 : Below w1.heap.size w1 w2 := A1.trans (hb.mono (by simp))
  have G2 := HF.out.still B2
  have d0 := G2.c0
  have d2 := G2.c2
  have d3 := G2.c3
  have g2 := G2.f2
  have g3 := G2.f3
  have HG : Hid (Frm n0 w2 fb bm n tv tags L at_ 0) := G2
  have HB : Hid (Below w1.heap.size w1 w2) := B2
  clear G2 B2 hb c0 c3 lk A1
  go_wp2_with fail
  go_ret
  exact ⟨rfl, HG.out.fail t e1, (((But.of_below HB.out).setCell fb 2 _ (fun _ => .inl rfl)).setCell fb 3 _ (fun _ => .inl rfl))⟩
end Go.Proofs.YtdbkoflejimibaaGreatDoor
/-
  Contracts of Name, Int and Ints in all cases: what is told, and what becomes of the form, by plain functions.
-/
namespace Go.Proofs.YtdbkoflejimibaaGreatDoor
open Go.ChangeShapes Go.WideShapes Go.ChangeAt Go.RowKit Go.Lib

/-- Whether all numbers are from low to high: an error's number. -/
def rangeE (low high : Int) (l : List Nat) : Int := if ∀ n ∈ l, low ≤ (n : Int) ∧ (n : Int) ≤ high then 0 else 2
theorem rangeE_bad {low high : Int} {l : List Nat} {n : Nat} (hn : n ∈ l) (h : ¬ (low ≤ (n : Int) ∧ (n : Int) ≤ high)) : rangeE low high l = 2 := if_neg (fun hh => h (hh n hn))
theorem rangeE_ok {low high : Int} {l : List Nat} (h : ∀ n ∈ l, low ≤ (n : Int) ∧ (n : Int) ≤ high) : rangeE low high l = 0 := if_pos h
set_option maxHeartbeats 2000000 in
theorem within_any (low high : Int) (v : Value) (l : List Nat) (w : World) (h : Row w v l.length fun i => .int .i64 ((l.getD i 0 : Nat) : Int)) :
    Calls Tryz.prog 80 #[.int .i64 low, .int .i64 high, v] w fun e w' => e = .returned (.int .i64 (rangeE low high l)) ∧ w' = w := by
  obtain ⟨a, cap, rfl, r1, r2, r3⟩ := id h
  unfold maxLen at r2
  obtain ⟨E, hE⟩ : ∃ E, rangeE low high l = E := ⟨_, rfl⟩
  rw [hE]
  have HE : Hid (rangeE low high l = E) := hE
  clear h hE
  go_enter Tryz.func80, Tryz.ntmps80
  go_wp2_with fail
  go_loopw [11] (fun i wr => ∃ k : Nat, i = .int .i64 (k : Int) ∧ k ≤ l.length ∧ wr = w ∧ ∀ j, (hj : j < l.length) → j < k → low ≤ (l[j] : Int) ∧ (l[j] : Int) ≤ high) (fun i _ => l.length - (RowKit.intOf i).toNat)
  case atStart => exact ⟨0, rfl, Nat.zero_le _, rfl, fun j _ h => by omega⟩
  case round =>
    obtain ⟨k, rfl, hk, rfl, hall⟩ := hrel
    by_cases hp : k < l.length
    · have t0 : (k : Int) < (l.length : Int) := by omega
      obtain ⟨b, off, rfl, cc0⟩ := r3 k hp
      have ek : l.getD k 0 = l[k] := by simp [hp]
      have cc : wr.cell? ⟨b, off + k, none⟩ = some (.int .i64 (l[k] : Int)) := by rw [← ek]; exact cc0
      clear r3 cc0 ek
      obtain ⟨x, hx⟩ : ∃ x, l[k] = x := ⟨_, rfl⟩
      rw [hx] at cc
      have HX : Hid (l[k] = x) := hx
      have HA : Hid (∀ j, (hj : j < l.length) → j < k → low ≤ (l[j] : Int) ∧ (l[j] : Int) ≤ high) := hall
      clear hx hall
      by_cases c1 : (x : Int) < low
      · have HO : Hid (E = 2) := by
          have := rangeE_bad (low := low) (high := high) (List.getElem_mem hp) (by rw [HX.out]; omega)
          rw [HE.out] at this
          exact this
        go_wp2_with fail
        go_ret
        exact ⟨by rw [HO.out]; rfl, rfl⟩
      by_cases c2 : high < (x : Int)
      · have HO : Hid (E = 2) := by
          have := rangeE_bad (low := low) (high := high) (List.getElem_mem hp) (by rw [HX.out]; omega)
          rw [HE.out] at this
          exact this
        go_wp2_with fail
        go_ret
        exact ⟨by rw [HO.out]; rfl, rfl⟩
      go_wp2_with fail
      go_roundw
      case rel =>
        refine ⟨k + 1, by simp, by omega, by first | trivial | rfl, fun j hj hjk => ?_⟩
        by_cases e : j = k
        · subst e
          rw [HX.out]
          omega
        · exact HA.out j hj (by omega)
      case measure => simp [RowKit.intOf]; omega
    · obtain rfl : k = l.length := by omega
      have t0 : ¬ (l.length : Int) < (l.length : Int) := by omega
      have HO : Hid (E = 0) := by
        have := rangeE_ok (low := low) (high := high) (l := l) (fun n hn => by
          obtain ⟨j, hj, rfl⟩ := List.getElem_of_mem hn
          exact hall j hj hj)
        rw [HE.out] at this
        exact this
      clear hall
      go_wp2_with fail
      go_ret
      exact ⟨by rw [HO.out]; rfl, rfl⟩
/-- What a text is as a number from low to high: it, an error's number. -/
def intVE (s : ByteArray) (low high : Int) : Nat × Int := if (numE s.data.toList).2 = 0 then (if low ≤ ((numE s.data.toList).1 : Int) ∧ ((numE s.data.toList).1 : Int) ≤ high then ((numE s.data.toList).1, 0) else (0, 2)) else (0, 112)
/-- What becomes of a form that is asked for a field whose text has that error. -/
def askS (L : Int → Option (ByteArray × Bool)) (at_ e t : Int) (err : ByteArray → Int) : (Int → Option (ByteArray × Bool)) × Int × Int := if e = 0 then (match L t with
  | none => (L, t, 110)
  | some (s, _) => if err s = 0 then (updI L t (s, true), at_, 0) else (L, t, err s)) else (L, at_, e)
/-- What is told. -/
def askV {α : Type} (L : Int → Option (ByteArray × Bool)) (e t : Int) (err : ByteArray → Int) (val : ByteArray → α) (zero : α) : α := if e = 0 then (match L t with
  | none => zero
  | some (s, _) => if err s = 0 then val s else zero) else zero
set_option maxHeartbeats 2000000 in
theorem intRead_any (s : ByteArray) (hs : s.size ≤ maxLen) (low high : Int) (b1 b2 : Nat) (w : World) (c1 : w.cell? ⟨b1, 0, none⟩ = some (.int .i64 low)) (c2 : w.cell? ⟨b2, 0, none⟩ = some (.int .i64 high)) :
    Calls Tryz.prog 78 #[.string s, .pointer (some ⟨b1, 0, none⟩), .pointer (some ⟨b2, 0, none⟩)] w fun e w2 => ∃ x : Int, e = .returned (.tuple #[.int .i64 x, .int .i64 (intVE s low high).2]) ∧ ((intVE s low high).2 = 0 → x = ((intVE s low high).1 : Int)) ∧ Below w.heap.size w w2 := by
  have F := fun w => number_any s w hs
  by_cases h0 : (numE s.data.toList).2 = 0
  · obtain ⟨N, hN⟩ : ∃ N, numE s.data.toList = (N, 0) := ⟨_, Prod.ext rfl h0⟩
    have hrow : Row (w.alloc (.cells #[.int .i64 (N : Int)] 3)) (.slice (some ⟨w.heap.size, 0, none⟩) 1 1) [N].length fun i => .int .i64 (([N].getD i 0 : Nat) : Int) := by
      refine ⟨_, 1, rfl, Nat.le_refl _, by unfold maxLen; omega, fun i hi => ⟨w.heap.size, 0, rfl, ?_⟩⟩
      obtain rfl : i = 0 := by simp at hi; omega
      simp
    have G := within_any low high _ [N] _ hrow
    have e1 : (intVE s low high).2 = rangeE low high [N] ∧ ((intVE s low high).2 = 0 → N = (intVE s low high).1) := by
      unfold intVE rangeE
      rw [hN]
      by_cases hr : low ≤ (N : Int) ∧ (N : Int) ≤ high
      · simp [hr]
      · simp [hr]
    rw [hN] at F
    dsimp only at F
    obtain ⟨E, hE⟩ : ∃ E, (intVE s low high).2 = E := ⟨_, rfl⟩
    rw [hE] at e1 ⊢
    rw [← e1.1] at G
    have HV : Hid (E = 0 → N = (intVE s low high).1) := e1.2
    clear hrow hN e1 h0 hE
    generalize (intVE s low high).1 = V at *
    go_enter Tryz.func78, Tryz.ntmps78
    go_wp2_with fail
    refine (F _).mono ?_
    rintro e w1 ⟨rfl, rfl⟩
    go_wp2_with fail
    refine G.mono ?_
    rintro e w1 ⟨rfl, rfl⟩
    go_wp2_with fail
    go_ret2
    exact ⟨_, rfl, fun h => by rw [HV.out h], (Below.refl _ _).alloc (Nat.le_refl _) _⟩
  · have hN : numE s.data.toList = (0, 112) := by
      rcases numE_err s.data.toList with h | h
      · exact absurd h h0
      · exact h
    have e1 : intVE s low high = (0, 112) := by unfold intVE; rw [if_neg h0]
    rw [e1]
    refine (intRead_bad s hs hN b1 b2 w).mono ?_
    rintro e w2 ⟨rfl, hb⟩
    exact ⟨0, rfl, fun _ => rfl, hb⟩
set_option maxHeartbeats 2000000 in
theorem int_wrap {Post : Int → World → Prop} {w : World} {fb : Nat} (t low high : Int)
    (T : Calls Tryz.prog 77 #[.pointer (some ⟨fb, 0, none⟩), .int .i64 t, .func (.func 78) #[] #[.pointer (some ⟨w.heap.size, 0, none⟩), .pointer (some ⟨w.heap.size + 1, 0, none⟩)]] (boxes w low high) fun e w' => ∃ x, e = .returned (.int .i64 x) ∧ Post x w') :
    Calls Tryz.prog 53 #[.pointer (some ⟨fb, 0, none⟩), .int .i64 t, .int .i64 low, .int .i64 high] w fun e w' => ∃ x, e = .returned (.int .i64 x) ∧ Post x w' := by
  go_enter Tryz.func53, Tryz.ntmps53
  go_wp2_with fail
  refine T.mono ?_
  rintro e w1 ⟨x, rfl, hP⟩
  have HP : Hid (Post x w1) := hP
  clear hP
  go_wp2_with fail
  go_ret
  exact ⟨_, rfl, HP.out⟩
theorem askS_err {L : Int → Option (ByteArray × Bool)} {at_ e t : Int} (err : ByteArray → Int) (he : e ≠ 0) : askS L at_ e t err = (L, at_, e) := if_neg he
theorem askS_miss {L : Int → Option (ByteArray × Bool)} {at_ t : Int} (err : ByteArray → Int) (h : L t = none) : askS L at_ 0 t err = (L, t, 110) := by unfold askS; rw [if_pos rfl, h]
theorem askS_good {L : Int → Option (ByteArray × Bool)} {at_ t : Int} {err : ByteArray → Int} {s : ByteArray} {b : Bool} (h : L t = some (s, b)) (hs : err s = 0) : askS L at_ 0 t err = (updI L t (s, true), at_, 0) := by unfold askS; rw [if_pos rfl, h]; simp only; rw [if_pos hs]
theorem askS_bad {L : Int → Option (ByteArray × Bool)} {at_ t : Int} {err : ByteArray → Int} {s : ByteArray} {b : Bool} (h : L t = some (s, b)) (hs : err s ≠ 0) : askS L at_ 0 t err = (L, t, err s) := by unfold askS; rw [if_pos rfl, h]; simp only; rw [if_neg hs]
theorem askV_err {α : Type} {L : Int → Option (ByteArray × Bool)} {e t : Int} (err : ByteArray → Int) (val : ByteArray → α) (zero : α) (he : e ≠ 0) : askV L e t err val zero = zero := if_neg he
theorem askV_miss {α : Type} {L : Int → Option (ByteArray × Bool)} {t : Int} (err : ByteArray → Int) (val : ByteArray → α) (zero : α) (h : L t = none) : askV L 0 t err val zero = zero := by unfold askV; rw [if_pos rfl, h]
theorem askV_good {α : Type} {L : Int → Option (ByteArray × Bool)} {t : Int} {err : ByteArray → Int} {val : ByteArray → α} {zero : α} {s : ByteArray} {b : Bool} (h : L t = some (s, b)) (hs : err s = 0) : askV L 0 t err val zero = val s := by unfold askV; rw [if_pos rfl, h]; simp only; rw [if_pos hs]
theorem askV_bad {α : Type} {L : Int → Option (ByteArray × Bool)} {t : Int} {err : ByteArray → Int} {val : ByteArray → α} {zero : α} {s : ByteArray} {b : Bool} (h : L t = some (s, b)) (hs : err s ≠ 0) : askV L 0 t err val zero = zero := by unfold askV; rw [if_pos rfl, h]; simp only; rw [if_neg hs]
theorem But.none (S : Nat → Prop) {a b : World} (h : Below a.heap.size a b) : But S a b := But.of_below h
/-- Int, in all cases. -/
theorem int_any {n0 : Nat} {w : World} {fb bm n : Nat} {tv : Value} {tags : List Int} {L : Int → Option (ByteArray × Bool)} {at_ e0 : Int} (h : Frm n0 w fb bm n tv tags L at_ e0) (hn : n ≤ 1000000) (t : Int) (h1 : -9223372036854775808 ≤ t) (h2 : t ≤ 9223372036854775807) (hs : ∀ s b, L t = some (s, b) → s.size ≤ 1000000) (low high : Int) :
    Calls Tryz.prog 53 #[.pointer (some ⟨fb, 0, none⟩), .int .i64 t, .int .i64 low, .int .i64 high] w fun e w' => ∃ x, e = .returned (.int .i64 x) ∧ x = askV L e0 t (fun s => (intVE s low high).2) (fun s => ((intVE s low high).1 : Int)) 0 ∧
      Frm n0 w' fb bm (n + 1) tv tags (askS L at_ e0 t (fun s => (intVE s low high).2)).1 (askS L at_ e0 t (fun s => (intVE s low high).2)).2.1 (askS L at_ e0 t (fun s => (intVE s low high).2)).2.2 ∧ But (Two fb bm) w w' := by
  have BB := boxes_below w low high
  have z0 := boxes_0 w low high
  have z1 := boxes_1 w low high
  have zs := boxes_size w low high
  have hb := h.still BB
  refine int_wrap t low high ?_
  by_cases he : e0 = 0
  · subst he
    cases hL : L t with
    | none =>
      refine (takeI_miss hb t h1 h2 hL _).mono ?_
      rintro e w' ⟨rfl, F, B⟩
      exact ⟨0, rfl, by rw [askV_miss _ _ _ hL], by rw [askS_miss _ hL]; exact F.wide (by omega), But.after BB B⟩
    | some p =>
      obtain ⟨s, b⟩ := p
      have hsz := hs s b hL
      have R0 : ∀ w1, Below (boxes w low high).heap.size (boxes w low high) w1 → _ := fun w1 (hb : Below (boxes w low high).heap.size (boxes w low high) w1) => intRead_any s (by unfold maxLen; omega) low high w.heap.size (w.heap.size + 1) w1 ((hb.cell (p := ⟨w.heap.size, 0, none⟩) (by rw [zs]; simp)).trans z0) ((hb.cell (p := ⟨w.heap.size + 1, 0, none⟩) (by rw [zs]; simp)).trans z1)
      by_cases hv : (intVE s low high).2 = 0
      · refine (takeI_good hb hn t h1 h2 s b hL w.heap.size (w.heap.size + 1) ((intVE s low high).1 : Int) (fun w1 k => (R0 w1 k).mono ?_)).mono ?_
        · rintro e w2 ⟨x, rfl, hx, hB⟩
          exact ⟨by rw [hx hv, hv], hB⟩
        · rintro e w' ⟨rfl, F, B⟩
          exact ⟨_, rfl, by rw [askV_good hL hv], by rw [askS_good (err := fun s => (intVE s low high).2) hL hv]; exact F, But.after BB B⟩
      · refine (takeI_bad' hb t h1 h2 s b hL w.heap.size (w.heap.size + 1) (intVE s low high).2 hv (fun w1 k => (R0 w1 k).mono ?_)).mono ?_
        · rintro e w2 ⟨x, rfl, hx, hB⟩
          exact ⟨x, rfl, hB⟩
        · rintro e w' ⟨rfl, F, B⟩
          exact ⟨_, rfl, by rw [askV_bad hL hv], by rw [askS_bad (err := fun s => (intVE s low high).2) hL hv]; exact F.wide (by omega), But.after BB B⟩
  · refine (takeI_err hb he t _).mono ?_
    rintro e w' ⟨rfl, rfl⟩
    exact ⟨0, rfl, by rw [askV_err _ _ _ he], by rw [askS_err _ he]; exact hb.wide (by omega), But.of_below BB⟩
/-- Whether a text is a name: an error's number. -/
def nameVE (s : ByteArray) : Int := if vldB s = true then 0 else 43
/-- Name, in all cases. -/
theorem name_wrap {Post : ByteArray → World → Prop} {w : World} {fb : Nat} (t : Int)
    (T : Calls Tryz.prog 75 #[.pointer (some ⟨fb, 0, none⟩), .int .i64 t, .func (.func 76) #[] #[]] w fun e w' => ∃ x, e = .returned (.string x) ∧ Post x w') :
    Calls Tryz.prog 51 #[.pointer (some ⟨fb, 0, none⟩), .int .i64 t] w fun e w' => ∃ x, e = .returned (.string x) ∧ Post x w' := by
  go_enter Tryz.func51, Tryz.ntmps51
  go_wp2_with fail
  refine T.mono ?_
  rintro e w1 ⟨x, rfl, hP⟩
  have HP : Hid (Post x w1) := hP
  clear hP
  go_wp2_with fail
  go_ret
  exact ⟨_, rfl, HP.out⟩
theorem name_any {n0 : Nat} {w : World} {fb bm n : Nat} {tv : Value} {tags : List Int} {L : Int → Option (ByteArray × Bool)} {at_ e0 : Int} (h : Frm n0 w fb bm n tv tags L at_ e0) (hn : n ≤ 1000000) (t : Int) (h1 : -9223372036854775808 ≤ t) (h2 : t ≤ 9223372036854775807) :
    Calls Tryz.prog 51 #[.pointer (some ⟨fb, 0, none⟩), .int .i64 t] w fun e w' => ∃ x, e = .returned (.string x) ∧ x = askV L e0 t nameVE id ⟨#[]⟩ ∧
      Frm n0 w' fb bm (n + 1) tv tags (askS L at_ e0 t nameVE).1 (askS L at_ e0 t nameVE).2.1 (askS L at_ e0 t nameVE).2.2 ∧ But (Two fb bm) w w' := by
  refine name_wrap t ?_
  by_cases he : e0 = 0
  · subst he
    cases hL : L t with
    | none =>
      refine (takeS_miss h t h1 h2 hL _).mono ?_
      rintro e w' ⟨rfl, F, B⟩
      exact ⟨_, rfl, by rw [askV_miss _ _ _ hL], by rw [askS_miss _ hL]; exact F.wide (by omega), B⟩
    | some p =>
      obtain ⟨s, b⟩ := p
      by_cases hv : vldB s = true
      · have hv0 : nameVE s = 0 := if_pos hv
        refine (takeS_good h hn t h1 h2 s b hL s (fun w1 _ => nameRead_good s hv w1)).mono ?_
        rintro e w' ⟨rfl, F, B⟩
        exact ⟨_, rfl, by rw [askV_good hL hv0]; rfl, by rw [askS_good hL hv0]; exact F, B⟩
      · have hv0 : nameVE s = 43 := if_neg hv
        refine (takeS_bad h t h1 h2 s b hL ⟨#[]⟩ 43 (by omega) (fun w1 _ => nameRead_bad s (by simpa using hv) w1)).mono ?_
        rintro e w' ⟨rfl, F, B⟩
        exact ⟨_, rfl, by rw [askV_bad hL (by rw [hv0]; omega)], by rw [askS_bad hL (by rw [hv0]; omega), hv0]; exact F.wide (by omega), B⟩
  · refine (takeS_err h he t _).mono ?_
    rintro e w' ⟨rfl, rfl⟩
    exact ⟨_, rfl, by rw [askV_err _ _ _ he], by rw [askS_err _ he]; exact h.wide (by omega), But.refl _ _⟩
end Go.Proofs.YtdbkoflejimibaaGreatDoor
/-
  The contract of body's Read in all cases.
-/
namespace Go.Proofs.YtdbkoflejimibaaGreatDoor
open Go.ChangeShapes Go.WideShapes Go.ChangeAt Go.RowKit Go.Lib

theorem lookF_some {l : List Fd} {t : Int} (h : t ∈ l.map Prod.fst) : (lookF l t).isSome = true := by
  unfold lookF
  cases hf : l.find? (fun f => f.1 == t) with
  | some f => rfl
  | none =>
    rw [List.find?_eq_none] at hf
    obtain ⟨p, hp, rfl⟩ := List.mem_map.1 h
    exact absurd (by simp) (hf p hp)
set_option maxRecDepth 1000000 in
set_option maxHeartbeats 4000000 in
theorem read_err (s : ByteArray) (w : World) (hs : s.size ≤ 1000000) (list : List Fd) (A E : Nat) (hF : fieldsL s.data.toList = (list, A, E)) (hE : E ≠ 0) :
    Calls Tryz.prog 29 #[.string s] w fun e w' => e = .returned (.tuple #[.pointer none, .int .i64 (E : Int)]) ∧ Below w.heap.size w w' := by
  have G := fields_any s w hs
  rw [hF] at G
  dsimp only at G
  have t0 : ((E : Int) == 0) = false := beq_false_of_ne (by omega)
  clear hF
  go_enter Tryz.func29, Tryz.ntmps29
  go_wp2_with fail
  refine G.mono ?_
  rintro e w1 ⟨v, rfl, Q⟩
  obtain ⟨a, c, rfl⟩ := Q.shape
  have HB : Hid (Below w.heap.size w w1) := Q.below
  clear G Q
  go_wp2_with fail
  go_ret2
  exact ⟨rfl, HB.out⟩
set_option maxRecDepth 1000000 in
set_option maxHeartbeats 4000000 in
theorem read_missing (s : ByteArray) (w : World) (hs : s.size ≤ 1000000) (list : List Fd) (A : Nat) (hF : fieldsL s.data.toList = (list, A, 0)) (h35 : list = [] ∨ ∃ T V r, list = (T, V) :: r ∧ T ≠ 35) :
    Calls Tryz.prog 29 #[.string s] w fun e w' => e = .returned (.tuple #[.pointer none, .int .i64 110]) ∧ Below w.heap.size w w' := by
  have G := fields_any s w hs
  rw [hF] at G
  dsimp only at G
  clear hF
  go_enter Tryz.func29, Tryz.ntmps29
  go_wp2_with fail
  refine G.mono ?_
  rintro e w1 ⟨v, rfl, Q⟩
  clear G
  have HB : Hid (Below w.heap.size w w1) := Q.below
  have hFl := flds_of_own Q.own
  clear Q
  obtain ⟨a, cap, rfl, r1, r2, r3⟩ := id hFl
  unfold maxLen at r2
  clear hFl
  rcases h35 with rfl | ⟨T, V, r, rfl, hT⟩
  · clear r3
    go_wp2_with fail
    go_ret2
    exact ⟨rfl, HB.out⟩
  · obtain ⟨b0, o0, rfl, k0, k00⟩ := r3 0 (by simp)
    clear k00 r3
    have q0 : w1.cell? ⟨b0, o0, none⟩ = some (.int .i64 T) := k0
    clear k0
    have t1 : (T == 35) = false := beq_false_of_ne hT
    have t2 : (((r.length : Int) + 1) == 0) = false := beq_false_of_ne (by omega)
    have t3 : (0 : Int) < (r.length : Int) + 1 := by omega
    go_wp2_with fail
    go_ret2
    exact ⟨rfl, HB.out⟩
set_option maxRecDepth 1000000 in
set_option maxHeartbeats 8000000 in
theorem read_repeat (s : ByteArray) (w : World) (hs : s.size ≤ 1000000) (list : List Fd) (A : Nat) (hF : fieldsL s.data.toList = (list, A, 0)) (V0 : ByteArray) (rest : List Fd) (h35 : list = (35, V0) :: rest) (hnd : ¬ (list.map Prod.fst).Nodup) (hb : ∀ f ∈ list, -9223372036854775808 ≤ f.1 ∧ f.1 ≤ 9223372036854775807) (hlen : list.length ≤ 64) :
    Calls Tryz.prog 29 #[.string s] w fun e w' => e = .returned (.tuple #[.pointer none, .int .i64 111]) ∧ Below w.heap.size w w' := by
  obtain ⟨i0, hi0, hz0, hzs, hzb⟩ := info_parts infoI
  have G := fields_any s w hs
  rw [hF] at G
  dsimp only at G
  clear hF
  go_enter Tryz.func29, Tryz.ntmps29
  go_wp2_with fail
  refine G.mono ?_
  rintro e w1 ⟨v, rfl, Q⟩
  clear G
  have hB1 := Q.below
  have hFl := flds_of_own Q.own
  clear Q
  obtain ⟨a, cap, rfl, r1, r2, r3⟩ := id hFl
  unfold maxLen at r2
  have hl0 : ((list.length : Int) == 0) = false := by
    rw [h35]
    exact beq_false_of_ne (by simp; omega)
  have hp0 : 0 < list.length := by rw [h35]; simp
  obtain ⟨b0, o0, rfl, k0, k00⟩ := r3 0 hp0
  clear k00
  have e35 : (list[0]).1 = 35 := by subst h35; rfl
  rw [e35] at k0
  have t0 : (0 : Int) < (list.length : Int) := by omega
  have hmk := mkMap list.length
  have HF : Hid (Flds w1 (.slice (some ⟨b0, o0, none⟩) list.length cap) list) := hFl
  have HB1 : Hid (Below w.heap.size w w1) := hB1
  have FR := Frm.fresh w1
  have HFR : Hid (Frm w1.heap.size ((w1.alloc (.map #[] 0)).alloc (.cells #[.map (some w1.heap.size), .slice none 0 0, .int .i64 0, .int .i64 0] 109)) (w1.heap.size + 1) w1.heap.size 0 (.slice none 0 0) [] (lookF []) 0 0) := FR
  simp only [Nat.zero_mul, Nat.add_zero] at k0
  clear hFl hB1 r3 e35 FR h35
  go_wp2_with fail
  go_loopw [36] (fun i wr => ∃ (k : Nat) (tv : Value), i = .int .i64 (k : Int) ∧ k ≤ list.length ∧ Frm w1.heap.size wr (w1.heap.size + 1) w1.heap.size k tv ((list.take k).map Prod.fst) (lookF (list.take k)) 0 0 ∧ Below w1.heap.size w1 wr ∧ ((list.take k).map Prod.fst).Nodup) (fun i _ => list.length - (RowKit.intOf i).toNat)
  case atStart => exact ⟨0, .slice none 0 0, rfl, Nat.zero_le _, HFR.out, ((Below.refl _ w1).alloc (Nat.le_refl _) _).alloc (by simp) _, by simp⟩
  case round =>
    clear HFR hmk hl0 t0 k0 hp0
    obtain ⟨k, tv, rfl, hk, FM, hB, hND⟩ := hrel
    by_cases hp : k < list.length
    · have t0 : (k : Int) < (list.length : Int) := by omega
      obtain ⟨a', cap', e0, r1', r2', r3⟩ := HF.out.below hB (Nat.le_refl _)
      obtain ⟨b, off, e1, k0, k1⟩ := r3 k hp
      simp only [Value.slice.injEq] at e0
      obtain ⟨rfl, _, rfl⟩ := e0
      simp only [Option.some.injEq, Addr.mk.injEq] at e1
      obtain ⟨rfl, rfl, _⟩ := e1
      have hbk := hb list[k] (List.getElem_mem hp)
      by_cases hdup : (list[k]).1 ∈ (list.take k).map Prod.fst
      · have hsome := lookF_some hdup
        obtain ⟨T, V, hTV⟩ : ∃ T V, list[k] = (T, V) := ⟨_, _, rfl⟩
        rw [hTV] at k0 k1 hbk hsome
        dsimp only at k0 k1 hbk hsome
        have Ba : Below wr.heap.size wr (wr.alloc (.cells #[.int .i64 T, .string V] 98)) := (Below.refl _ _).alloc (Nat.le_refl _) _
        have F1 := has_yes (FM.still Ba) T hbk.1 hbk.2
        rw [hsome] at F1
        have HBW : Hid (Below w.heap.size w (wr.alloc (.cells #[.int .i64 T, .string V] 98))) := HB1.out.trans ((hB.trans (Ba.mono hB.size)).mono HB1.out.size)
        clear FM hB Ba hsome hdup hND hTV r3
        go_wp2_with fail
        refine F1.mono ?_
        rintro e w2 ⟨rfl, hb2⟩
        have B2 := HBW.out.trans (hb2.mono HBW.out.size)
        clear F1 hb2
        go_wp2_with fail
        go_ret2
        exact ⟨rfl, B2⟩
      have hnew := hdup
      clear hdup
      have hno := lookF_none hnew
      have hmore := lookF_more (list.take k) list[k] hnew
      have htake : list.take k ++ [list[k]] = list.take (k + 1) := by rw [List.take_add_one, List.getElem?_eq_getElem hp]; rfl
      rw [htake] at hmore
      have htags : (list.take k).map Prod.fst ++ [(list[k]).1] = (list.take (k + 1)).map Prod.fst := by rw [← htake, List.map_append]; rfl
      have hlk : ((list.take k).map Prod.fst).length = k := by simp; omega
      have hND2 : ((list.take (k + 1)).map Prod.fst).Nodup := by
        rw [← htags, List.nodup_append]
        exact ⟨hND, by simp, fun a ha b hb e => hnew (by simp at hb; rw [← hb, ← e]; exact ha)⟩
      have HND : Hid (((list.take (k + 1)).map Prod.fst).Nodup) := hND2
      clear hND2 hND
      obtain ⟨T, V, hTV⟩ : ∃ T V, list[k] = (T, V) := ⟨_, _, rfl⟩
      rw [hTV] at k0 k1 hbk hnew hmore htags hno
      dsimp only at k0 k1 hbk hnew hmore htags hno
      have HM : Hid (lookF (list.take (k + 1)) = updI (lookF (list.take k)) T (V, T == 35)) := hmore
      have HT : Hid ((list.take k).map Prod.fst ++ [T] = (list.take (k + 1)).map Prod.fst) := htags
      have HLK : Hid (((list.take k).map Prod.fst).length = k) := hlk
      clear hmore htags hnew htake hTV r3 hlk
      generalize (list.take k).map Prod.fst = tags at *
      generalize lookF (list.take k) = L0 at *
      -- the field lies in a block of its own
      obtain ⟨wa, hwa⟩ : ∃ wa, wa = wr.alloc (.cells #[.int .i64 T, .string V] 98) := ⟨_, rfl⟩
      have Ba : Below wr.heap.size wr wa := by rw [hwa]; exact (Below.refl _ _).alloc (Nat.le_refl _) _
      have Fa := FM.still Ba
      have F1 := has_yes Fa T hbk.1 hbk.2
      rw [hno, isSome_none] at F1
      have HFa : Hid (Frm w1.heap.size wa (w1.heap.size + 1) w1.heap.size k tv tags L0 0 0) := Fa
      have HBr : Hid (Below w1.heap.size w1 wr) := hB
      have HBa : Hid (Below wr.heap.size wr wa) := Ba
      have p0 : wa.cell? ⟨wr.heap.size, 0, none⟩ = some (.int .i64 T) := by rw [hwa]; simp
      have p1 : wa.cell? ⟨wr.heap.size, 1, none⟩ = some (.string V) := by rw [hwa]; simp
      clear Fa hB Ba hno
      have HWA : Hid (wa = wr.alloc (.cells #[.int .i64 T, .string V] 98)) := hwa
      subst hwa
      go_wp2_with fail
      refine F1.mono ?_
      rintro e w2 ⟨rfl, hb2⟩
      clear F1
      have F2 := HFa.out.still hb2
      have q0 := (hb2.cell (World.block_lt_of_cell? _ _ p0)).trans p0
      have q1 := (hb2.cell (World.block_lt_of_cell? _ _ p1)).trans p1
      have hz2 : wr.heap.size < w2.heap.size := World.block_lt_of_cell? _ _ q0
      have F3 := F2.still (below_drewN w2.heap.size 1 w2)
      have F3' : Frm w1.heap.size w2.drew (w1.heap.size + 1) w1.heap.size k tv tags L0 0 0 := F3
      obtain ⟨w3, hrun, hm3, hB3⟩ := F3'.map.store (by omega) T hbk.1 hbk.2 V (T == 35)
      have F4 := F3'.stored hB3 hm3
      have lom := F2.lom
      have hne : ¬ wr.heap.size = w1.heap.size := by
        have := HBr.out.size
        have := FM.map.lt
        omega
      have u0 := (hB3.cell (o := 0) (show wr.heap.size < w2.drew.heap.size from hz2) hne).trans (show w2.drew.cell? _ = _ from q0)
      have d0 := F2.c0
      have B12 : Below w1.heap.size w1 w2 := HBr.out.trans ((HBa.out.trans (hb2.mono HBa.out.size)).mono HBr.out.size)
      have B13 : Below w1.heap.size w1 w3 := (show Below w1.heap.size w1 w2.drew from below_more B12 1).trans (hB3.below (show w1.heap.size ≤ w2.heap.size from B12.size) (fun i e => by rw [e]; exact Nat.le_refl _))
      have HB13 : Hid (Below w1.heap.size w1 w3) := B13
      have HF4 : Hid (Frm w1.heap.size w3 (w1.heap.size + 1) w1.heap.size (k + 1) tv tags (updI L0 T (V, T == 35)) 0 0) := F4
      clear F2 F3 F3' hm3 hB3 F4 B12 B13 hb2 lom hne FM
      go_wp2_with fail
      go_region
      clear hrun q0 q1 d0 p0 p1 k0 k1
      obtain ⟨w4, hw4⟩ : ∃ w4, w4 = (w3.alloc (.cells #[.int .i64 T] 3)).drew := ⟨_, rfl⟩
      have B34 : Below w3.heap.size w3 w4 := by rw [hw4]; exact below_more ((Below.refl _ w3).alloc (Nat.le_refl _) _) 1
      have F6 := HF4.out.still B34
      have hcn : ∀ j u, ([.int .i64 T] : List Value)[j]? = some u → w4.cell? ((⟨w3.heap.size, 0, none⟩ : Addr).add j) = some u := by rw [hw4]; exact cell_int_new w3 (.int .i64 T) 3
      have hlk := HLK.out
      have hz3 := HB13.out.size
      have hz4 := B34.size
      obtain ⟨v5, w5, hr, hown5, hg5, _, hat5⟩ := run_append_own_at (P := Tryz.prog) w4 w1.heap.size 60 60 3 i0 (.int .i64 0) 1 8 Tryz.underlying60 hi0 hz0 hzs hzb rfl (by decide) tv tags.length (its tags) F6.own ⟨w3.heap.size, 0, none⟩ 1 1 [.int .i64 T] rfl hcn (by simp [Value.oneCell']) (by rw [hlk]; unfold maxLen; omega) (by rw [hlk]; omega) (by omega)
      have F7 := F6.tagged hg5 hown5 hat5
      have BG := But.of_grown hg5
      have x1 := (BG.cell (o := 1) F6.lt F6.nf).trans F6.c1
      have y1 := (BG.frozen (o := 1) F6.lt F6.nf).trans F6.f1
      have d1 := F6.c1
      have v0 := (B34.cell (World.block_lt_of_cell? _ _ u0)).trans u0
      have HF7 : Hid (Frm w1.heap.size (w5.setCell ⟨w1.heap.size + 1, 1, none⟩ v5) (w1.heap.size + 1) w1.heap.size (k + 1) v5 (tags ++ [T]) (updI L0 T (V, T == 35)) 0 0) := F7
      have HB7 : Hid (Below w1.heap.size w1 (w5.setCell ⟨w1.heap.size + 1, 1, none⟩ v5)) := by
        have e1 : Below w1.heap.size w1 w4 := HB13.out.trans (B34.mono hz3)
        exact (e1.trans (BG.below e1.size (fun i e => (F6.own.lt i e).1))).setCell (Nat.le_succ _) _
      obtain ⟨a5, cap5, rfl⟩ := own_shape hown5
      obtain ⟨a6, cap6, rfl⟩ := own_shape F6.own
      have c1w := HF4.out.c1
      rw [hw4] at hr d1 v0
      clear F6 F7 hcn hown5 hg5 hat5 BG hlk hw4 B34
      have HR : Hid ((Builtin.append_ #[60, 60] 60 #[.slice a6 tags.length cap6, .slice (some ⟨w3.heap.size, 0, none⟩) 1 1]).run Tryz.prog (w3.alloc (.cells #[.int .i64 T] 3)).drew = .ok (.slice a5 (tags.length + 1) cap5) w5) := hr
      clear hr
      go_wp2_with fail
      go_region_law (refine step_append_at rfl (.tmp 60) (.tmp 63) 60 rfl (.slice a6 tags.length cap6) (.slice (some ⟨w3.heap.size, 0, none⟩) 1 1) (.slice a5 (tags.length + 1) cap5) w5 rfl rfl HR.out ?_)
      all_goals (
        go_wp2_with fail
        go_roundw
        case rel =>
          refine ⟨k + 1, .slice a5 (tags.length + 1) cap5, by simp, by omega, ?_, HB7.out, HND.out⟩
          have := HF7.out
          rw [HT.out, ← HM.out] at this
          exact this
        case measure => simp [RowKit.intOf]; omega)
    · obtain rfl : k = list.length := by omega
      rw [List.take_length] at hND
      exact absurd hND hnd
/-- What Read answers of a text: an error's number. -/
def readE (l : List UInt8) : Nat := if (fieldsL l).2.2 ≠ 0 then (fieldsL l).2.2 else if ((fieldsL l).1.map Prod.fst).head? = some 35 then (if ((fieldsL l).1.map Prod.fst).Nodup then 0 else 111) else 110
theorem fields_range (l : List UInt8) : (∀ f ∈ (fieldsL l).1, 1 ≤ f.1 ∧ f.1 ≤ 99999) ∧ (fieldsL l).1.length ≤ 64 := by
  obtain ⟨new, n, h1, _, _, h4, h5, _⟩ := fieldsA_one 64 l [] 0
  have e : (fieldsL l).1 = new := by unfold fieldsL; rw [h1]; simp
  rw [e]
  refine ⟨fun f hf => ?_, h4⟩
  obtain ⟨a1, a2, _⟩ := formE_ok (ok_form (h5 f hf))
  exact ⟨a1, a2⟩
/-- Read of any text. -/
theorem read_any (s : ByteArray) (w : World) (hs : s.size ≤ 1000000) :
    Calls Tryz.prog 29 #[.string s] w fun e w' => (readE s.data.toList ≠ 0 ∧ e = .returned (.tuple #[.pointer none, .int .i64 (readE s.data.toList : Int)]) ∧ Below w.heap.size w w') ∨ (readE s.data.toList = 0 ∧ RdOk w (fieldsL s.data.toList).1 e w') := by
  obtain ⟨hr, h64⟩ := fields_range s.data.toList
  obtain ⟨list, A, E, hF⟩ : ∃ list A E, fieldsL s.data.toList = (list, A, E) := ⟨_, _, _, rfl⟩
  unfold readE
  rw [hF] at hr h64 ⊢
  dsimp only at hr h64 ⊢
  by_cases hE : E = 0
  · subst hE
    rw [if_neg (by simp)]
    cases list with
    | nil =>
      rw [if_neg (by simp)]
      refine (read_missing s w hs [] A hF (.inl rfl)).mono ?_
      rintro e w' ⟨rfl, hb⟩
      exact .inl ⟨by omega, rfl, hb⟩
    | cons f r =>
      obtain ⟨T, V⟩ := f
      by_cases hT : T = 35
      · subst hT
        rw [if_pos (by simp)]
        by_cases hN : (((35, V) :: r : List Fd).map Prod.fst).Nodup
        · rw [if_pos hN]
          refine (read_ok s w hs _ A hF V r rfl hN (fun p hp => by have := hr p hp; omega) h64).mono ?_
          intro e w' h
          exact .inr ⟨rfl, h⟩
        · rw [if_neg hN]
          refine (read_repeat s w hs _ A hF V r rfl hN (fun p hp => by have := hr p hp; omega) h64).mono ?_
          rintro e w' ⟨rfl, hb⟩
          exact .inl ⟨by omega, rfl, hb⟩
      · rw [if_neg (by simpa using hT)]
        refine (read_missing s w hs _ A hF (.inr ⟨T, V, r, rfl, hT⟩)).mono ?_
        rintro e w' ⟨rfl, hb⟩
        exact .inl ⟨by omega, rfl, hb⟩
  · rw [if_pos hE]
    refine (read_err s w hs list A E hF hE).mono ?_
    rintro e w' ⟨rfl, hb⟩
    exact .inl ⟨hE, rfl, hb⟩
end Go.Proofs.YtdbkoflejimibaaGreatDoor
