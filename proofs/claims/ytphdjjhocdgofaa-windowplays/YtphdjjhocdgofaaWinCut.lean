/-
  Contract of window's cut: the ticks that no stretch reaches any more are let go, the others copied to the front.
-/
import Derived.Test.YtphdjjhocdgofaaWinMay
import Derived.Laws.IdiomCopy
import Derived.Deep.RegionLaw
namespace Go.Proofs.Ytphdjjhocdgofaa
open Go.ChangeShapes Go.WideShapes Go.ChangeAt Go.RowKit Go.Lib

theorem own_thaw {w : World} {B : Nat} {e : TypeId} {size : Nat} {v : Value} {n : Nat} {xs : List Value} (h : w.ownsRow B e size v n xs) {q : Nat} (hq : v.ownBlock = some q) (j : Nat) : w.frozen? ⟨q, j, none⟩ = false := by
  rcases h.2 with ⟨rfl, _⟩ | ⟨g, cap, cur, rfl, _, hg, _⟩
  · cases hq
  · injection hq with hq
    subst hq
    simp [World.frozen?, hg]
theorem infoN : (Try.prog.info? 3).map (fun i => (i.zero, i.size, i.bytes)) = some (some (.int .i64 0), 1, 8) := by kernel_rfl
theorem sizeN : (Try.prog.info? 3).map (·.size) = some 1 := by kernel_rfl
/-- copy as one step of a region that draws, in terms of cells. -/
theorem step_copy_at {P : Program} {ops : Array Oper} {o : Oper} {a : Act} {w : World} {K : Act → World → Prop} {Q : Exit → Act → World → Prop} {E : Prop} (hgd : o.guard = none) (d s : Operand) (dT sT : TypeId)
    (ho : o.op = .call { callee := .builtin .copy, args := #[d, s], argTypes := #[dT, sT] }) (elem : TypeId) (hu : P.underlying dT = some (.slice elem)) (hsz : (P.info? elem).map (·.size) = some 1)
    (b off dLen dCap : Nat) (ad : Addr) (sLen sCap : Nat) (hd : a.eval d = .slice (some ⟨b, off, none⟩) dLen dCap) (hs : a.eval s = .slice (some ad) sLen sCap)
    (cs : List Value) (hn : cs.length = Nat.min sLen dLen) (hsrc : ∀ j v, cs[j]? = some v → w.cell? (ad.add j) = some v)
    (hc : ∀ j, j < cs.length → (w.cell? ⟨b, off + j, none⟩).isSome = true) (hf : ∀ j, j < cs.length → w.frozen? ⟨b, off + j, none⟩ = false) (h1 : ∀ v ∈ cs, v.oneCell' = true)
    (h : K (a.put o.dst (goInt cs.length)) (w.setCells b off cs)) :
    if Region.wanted o (yielded ops a.tmps) = true then Oper.wp P o a w K Q else E := by
  have hw : Region.wanted o (yielded ops a.tmps) = true := by simp [Region.wanted, hgd]
  rw [if_pos hw]
  have hrun := run_copy_cells (P := P) w dT sT o.type elem b off dLen dCap ad sLen sCap cs hu hsz hn hsrc hc hf h1
  unfold Oper.wp
  simp [execOp, ho, resolve, invoke, builtin, hd, hs, hrun, Result.andThen]
  exact h
theorem step_copy_nil {P : Program} {ops : Array Oper} {o : Oper} {a : Act} {w : World} {K : Act → World → Prop} {Q : Exit → Act → World → Prop} {E : Prop} (hgd : o.guard = none) (d s : Operand) (dT sT : TypeId)
    (ho : o.op = .call { callee := .builtin .copy, args := #[d, s], argTypes := #[dT, sT] }) (elem : TypeId) (hu : P.underlying dT = some (.slice elem)) (hsz : (P.info? elem).map (·.size) = some 1)
    (dp sp : Option Addr) (dLen dCap sLen sCap : Nat) (hd : a.eval d = .slice dp dLen dCap) (hs : a.eval s = .slice sp sLen sCap) (hn : Nat.min sLen dLen = 0)
    (h : K (a.put o.dst (goInt 0)) w) :
    if Region.wanted o (yielded ops a.tmps) = true then Oper.wp P o a w K Q else E := by
  have hw : Region.wanted o (yielded ops a.tmps) = true := by simp [Region.wanted, hgd]
  rw [if_pos hw]
  have hrun := run_copy_none (P := P) w dT sT o.type elem dp sp dLen dCap sLen sCap hu hsz hn
  unfold Oper.wp
  simp [execOp, ho, resolve, invoke, builtin, hd, hs, hrun, Result.andThen]
  exact h

set_option maxRecDepth 100000 in
set_option maxHeartbeats 2000000 in
theorem cut_nil {w : World} {B p width most : Nat} {g : Nat → Int} (h : Win w B p width most (.slice none 0 0) 0 g) {now : Int} (h0 : 0 ≤ now) (h1 : now ≤ 9223372036854775807) :
    Calls Try.prog 21 #[.pointer (some ⟨p, 0, none⟩), .int .i64 now] w fun e w' => (∃ v, e = .returned v) ∧ Tk w' B p width most (.slice none 0 0) 0 g ∧ But (fun k => k = p) w w' := by
  have F1 := fun m0 => past_any (K := 0) (h.drewN m0).tk h.sized (by omega) h.rise now h0 h1 ⟨Nat.le_refl _, fun j hj => absurd hj (by omega), fun j _ hj => absurd hj (by omega)⟩
  have c2 := h.tk.clist
  have z2 := h.tk.thaw 2
  have HH : Hid (Win w B p width most (.slice none 0 0) 0 g) := h
  clear h
  go_enter Try.func21, Try.ntmps21
  go_wp2_with fail
  go_region_held3 (fun w' => w'.cell? ⟨p, 2, none⟩ = some (.slice none 0 0)) (go_keep) (first
    | (go_at_call 20; refine (F1 _).mono ?_; rintro e w2 ⟨rfl, m2, rfl⟩)
    | (refine step_copy_nil rfl (.tmp 8) (.tmp 16) 22 22 rfl 3 Try.underlying22 sizeN none none 0 0 0 0 (by simp [Act.eval]) (by simp [Act.eval]) rfl ?_))
  go_wp2_with fail
  go_end0
  have T := HH.out.tk
  have hp := (T.there (.inl rfl)).2
  have BP : But (fun k => k = p) w (w.setCell ⟨p, 2, none⟩ (.slice none 0 0)) := But.setCell (S := fun k => k = p) (But.refl _ w) p 2 _ (fun _ => rfl)
  refine ⟨⟨_, rfl⟩, ⟨?_, ?_, ?_, ?_, World.ownsRow_nil _ _ _ _, T.apart, T.least⟩, But.drewN (w := w.setCell _ _) BP _⟩
  · exact (World.cell?_setCell_other w ⟨p, 2, none⟩ ⟨p, 0, none⟩ _ (by simp)).trans T.cwidth
  · exact (World.cell?_setCell_other w ⟨p, 2, none⟩ ⟨p, 1, none⟩ _ (by simp)).trans T.cmost
  · exact World.cell?_setCell_same' w _ _ (by rw [T.clist]; rfl)
  · intro j; exact (World.frozen?_setCell w _ _ _).trans (T.thaw j)
theorem row_setCells (q : Nat) (t : TypeId) (fr : Nat × Nat) : ∀ (vs : List Value) (o : Nat) (w : World) (cur : Array Value), w.heap[q]? = some (.cells cur t fr) → ∃ cur', (w.setCells q o vs).heap[q]? = some (.cells cur' t fr) ∧ cur'.size = cur.size
  | [], _, _, cur, h => ⟨cur, h, rfl⟩
  | v :: r, o, w, cur, h => by
    rw [World.setCells, setCell_eq_setRow w q o cur t fr v h]
    obtain ⟨cur', h1, h2⟩ := row_setCells q t fr r (o + 1) (w.setRow q (cur.setIfInBounds o v)) _ (setRow_heap w q cur _ t _ h)
    exact ⟨cur', h1, by rw [h2]; simp⟩
/-- A row that is written over from its head on, and cut. -/
theorem own_over {w : World} {B : Nat} {e : TypeId} {q n cap : Nat} {xs : List Value} (h : w.ownsRow B e 1 (.slice (some ⟨q, 0, none⟩) n cap) n xs) (ys : List Value) (hy : ys.length ≤ n) :
    (w.setCells q 0 ys).ownsRow B e 1 (.slice (some ⟨q, 0, none⟩) ys.length cap) ys.length ys := by
  refine ⟨by omega, ?_⟩
  rcases h.2 with ⟨e1, _⟩ | ⟨q', cap', cur, e1, hb, hg, h1, h2, h3, h4⟩
  · cases e1
  · injection e1 with e1 _ e2
    injection e1 with e1
    injection e1 with e1
    subst e1 e2
    obtain ⟨cur', k1, k2⟩ := row_setCells q e (0, 0) ys 0 w cur hg
    refine .inr ⟨q, cap, cur', rfl, hb, k1, by omega, h2, by omega, ?_⟩
    have hin : ∀ j (hj : j < ys.length), cur'[j]? = some ys[j] := fun j hj => by
      have := World.cell?_setCells_in q ys 0 w (fun j hj => by simp [World.cell?, hg]; omega) j hj
      rw [Nat.zero_add] at this
      rw [← this]
      simp [World.cell?, k1]
    apply List.ext_getElem?
    intro j
    rw [Nat.mul_one]
    by_cases hj : j < ys.length
    · rw [List.getElem?_take_of_lt hj, List.getElem?_eq_getElem hj, ← hin j hj]
      simp
    · rw [List.getElem?_eq_none (by simp; omega), List.getElem?_eq_none (by omega)]
/-- A window whose first k ticks are gone, the others copied to the front. -/
theorem Tk.cut {w : World} {B p width most n q cap : Nat} {g : Nat → Int} (h : Tk w B p width most (.slice (some ⟨q, 0, none⟩) n cap) n g) (k : Nat) (m : Nat) :
    Tk (((w.drewN m).setCells q 0 (vals (fun i => .int .i64 (g (k + i))) (n - k))).setCell ⟨p, 2, none⟩ (.slice (some ⟨q, 0, none⟩) (n - k) cap)) B p width most (.slice (some ⟨q, 0, none⟩) (n - k) cap) (n - k) (fun i => g (k + i)) := by
  have hqp : ¬ q = p := fun e => h.apart (by simp [Value.ownBlock, e])
  have H := h.drewN m
  have L := own_over H.list (vals (fun i => .int .i64 (g (k + i))) (n - k)) (by rw [vals_length]; omega)
  rw [vals_length] at L
  have hc : ∀ j, ((w.drewN m).setCells q 0 (vals (fun i => .int .i64 (g (k + i))) (n - k))).cell? ⟨p, j, none⟩ = (w.drewN m).cell? ⟨p, j, none⟩ := fun j =>
    World.cell?_setCells_out _ _ _ _ _ (fun e => absurd e.symm hqp)
  refine ⟨?_, ?_, ?_, ?_, ?_, h.apart, h.least⟩
  · rw [World.cell?_setCell_other _ _ _ _ (by simp), hc]; exact H.cwidth
  · rw [World.cell?_setCell_other _ _ _ _ (by simp), hc]; exact H.cmost
  · exact World.cell?_setCell_same' _ _ _ (by rw [hc, H.clist]; rfl)
  · intro j; rw [World.frozen?_setCell, World.frozen?_setCells]; exact H.thaw j
  · exact own_kept L (But.setCell (S := fun k => k = p) (But.refl _ _) p 2 _ (fun _ => rfl)) (fun g hg e => by
      subst e
      injection hg with hg
      exact hqp hg)
set_option maxRecDepth 100000 in
set_option maxHeartbeats 4000000 in
theorem cut_row {w : World} {B p width most n q cap K : Nat} {g : Nat → Int} (h : Win w B p width most (.slice (some ⟨q, 0, none⟩) n cap) n g) {now : Int} (h0 : 0 ≤ now) (h1 : now ≤ 9223372036854775807) (hK : Cut g n (now - (width : Int) + 1) K) :
    Calls Try.prog 21 #[.pointer (some ⟨p, 0, none⟩), .int .i64 now] w fun e w' => (∃ v, e = .returned v) ∧ Tk w' B p width most (.slice (some ⟨q, 0, none⟩) (n - K) cap) (n - K) (fun i => g (K + i)) ∧ But (fun k => k = p ∨ k = q) w w' := by
  have hm := h.fits
  have hm2 := h.sized.m2
  have F1 := fun m0 => past_any (h.drewN m0).tk h.sized (by omega) h.rise now h0 h1 hK
  have c2 := h.tk.clist
  have z2 := h.tk.thaw 2
  have hKn := hK.le
  have hqp : ¬ q = p := fun e => h.tk.apart (by simp [Value.ownBlock, e])
  have HH : Hid (Win w B p width most (.slice (some ⟨q, 0, none⟩) n cap) n g) := h
  obtain ⟨_, _, e, hcap, hmax, hrow⟩ := h.tk.row
  injection e with e1 _ e2
  subst e1 e2
  have hcell : ∀ i, i < n → w.cell? ⟨q, i, none⟩ = some (.int .i64 (g i)) := fun i hi => by
    obtain ⟨b, off, e, hc⟩ := hrow i hi
    injection e with e
    injection e with e1 e2
    subst e1 e2
    rw [Nat.zero_add] at hc
    exact hc
  have hfrz : ∀ i, w.frozen? ⟨q, i, none⟩ = false := own_thaw h.tk.list rfl
  unfold maxLen at hmax
  obtain ⟨cs, hcs⟩ : ∃ cs, cs = vals (fun i => .int .i64 (g (K + i))) (n - K) := ⟨_, rfl⟩
  have s1 : Hid (cs.length = n - K) := by rw [hcs]; exact vals_length _ _
  have s2 : Hid (∀ u ∈ cs, u.oneCell' = true) := by rw [hcs]; intro u hu; obtain ⟨i, _, rfl⟩ := List.mem_map.1 hu; rfl
  obtain ⟨A, hA, hsrc⟩ : ∃ A : Addr, (if cap = K then some (⟨q, 0, none⟩ : Addr) else some ⟨q, K, none⟩) = some A ∧ Hid (∀ j u, cs[j]? = some u → w.cell? (A.add j) = some u) := by
    by_cases hc : cap = K
    · refine ⟨⟨q, 0, none⟩, by simp [hc], fun t u hu => ?_⟩
      have := (List.getElem?_eq_some_iff.1 hu).1
      rw [s1.out] at this
      omega
    · refine ⟨⟨q, K, none⟩, by simp [hc], fun t u hu => ?_⟩
      have ht := (List.getElem?_eq_some_iff.1 hu).1
      rw [s1.out] at ht
      rw [hcs, vals_at _ ht] at hu
      injection hu with hu
      rw [Addr.add_lit, ← hu]
      exact hcell _ (by omega)
  have s3 : Hid (∀ j, j < cs.length → (w.cell? ⟨q, 0 + j, none⟩).isSome = true ∧ w.frozen? ⟨q, 0 + j, none⟩ = false) := by
    intro t ht
    rw [s1.out] at ht
    rw [Nat.zero_add]
    exact ⟨by rw [hcell t (by omega)]; rfl, hfrz t⟩
  have s4 : Hid (cs.length = Nat.min (n - K) n) := by rw [s1.out]; exact (Nat.min_eq_left (by omega)).symm
  have HC : Hid (cs = vals (fun i => .int .i64 (g (K + i))) (n - K)) := hcs
  have s5 : Hid ((cs.length : Int) = ((n - K : Nat) : Int)) := by rw [s1.out]; exact rfl
  have t1 : (K : Int) ≤ (n : Int) := by omega
  have t2 : K ≤ cap := by omega
  have k2 : ∀ m, ((w.drewN m).setCells q 0 cs).cell? ⟨p, 2, none⟩ = some (.slice (some ⟨q, 0, none⟩) n cap) := fun m => by
    rw [World.cell?_setCells_out _ _ _ _ _ (fun e => absurd e.symm hqp)]; exact c2
  have k3 : ∀ m, ((w.drewN m).setCells q 0 cs).frozen? ⟨p, 2, none⟩ = false := fun m => by
    rw [World.frozen?_setCells]; exact z2
  have HT : Hid (∀ m, Tk (((w.drewN m).setCells q 0 cs).setCell ⟨p, 2, none⟩ (.slice (some ⟨q, 0, none⟩) (n - K) cap)) B p width most (.slice (some ⟨q, 0, none⟩) (n - K) cap) (n - K) (fun i => g (K + i))) := by
    rw [hcs]; exact h.tk.cut K
  clear h hcs hcell hfrz hrow hK
  go_enter Try.func21, Try.ntmps21
  go_wp2_with fail
  go_region_held3 (fun w' => w'.cell? ⟨p, 2, none⟩ = some (.slice (some ⟨q, 0, none⟩) n cap)) (go_keep) (first
    | (go_at_call 20; refine (F1 _).mono ?_; rintro e w2 ⟨rfl, m2, rfl⟩)
    | (refine step_copy_at rfl (.tmp 8) (.tmp 16) 22 22 rfl 3 Try.underlying22 sizeN q 0 n cap A (n - K) (cap - K) (by simp [Act.eval]) (by simp [Act.eval]) cs s4.out hsrc.out (fun j hj => (s3.out j hj).1) (fun j hj => (s3.out j hj).2) s2.out ?_; rw [s1.out]))
  go_wp2_with fail
  go_end0
  refine ⟨⟨_, rfl⟩, HT.out _, ?_⟩
  exact But.setCell (S := fun k => k = p ∨ k = q) (But.setCells (S := fun k => k = p ∨ k = q) ((But.refl _ w).drewN _) q 0 _ (fun _ => .inr rfl)) p 2 _ (fun _ => .inl rfl)
end Go.Proofs.Ytphdjjhocdgofaa
