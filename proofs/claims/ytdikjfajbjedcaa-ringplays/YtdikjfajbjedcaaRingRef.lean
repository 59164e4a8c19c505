/-
  The reference's ring in memory, and the contracts of its Push, Peek and Pop.
-/
import Derived.Test.YtdikjfajbjedcaaOwnRows
import Derived.RangeFuncBox
namespace Go.Proofs.Ytdikjfajbjedcaa
open Go.ChangeShapes Go.WideShapes Go.ChangeAt Go.RowKit Go.Lib

/-- The world holds at block q the reference's ring for room things, in the list v the n that g tells, in memory from block B on. -/
structure Ref5 (w : World) (B q room : Nat) (v : Value) (n : Nat) (g : Nat → Int) : Prop where
  croom : w.cell? ⟨q, 0, none⟩ = some (.int .i64 (room : Int))
  clist : w.cell? ⟨q, 1, none⟩ = some v
  thaw : ∀ j, w.frozen? ⟨q, j, none⟩ = false
  list : w.ownsRow B 3 1 v n (vals (fun i => .int .i64 (g i)) n)
  apart : v.ownBlock ≠ some q
  least : B ≤ q
  fits : n ≤ room
  most : room ≤ 1024
/-- The blocks that are the reference's own. -/
def own5 (q : Nat) (v : Value) (k : Nat) : Prop := k = q ∨ v.ownBlock = some k
theorem Ref5.there {w : World} {B q room n : Nat} {v : Value} {g : Nat → Int} (h : Ref5 w B q room v n g) {k : Nat} (hk : own5 q v k) : B ≤ k ∧ k < w.heap.size := by
  rcases hk with rfl | e
  · exact ⟨h.least, World.block_lt_of_cell? _ _ h.croom⟩
  · exact h.list.lt k e
theorem Ref5.kept {w w' : World} {B q room n : Nat} {v : Value} {g : Nat → Int} {T : Nat → Prop} (h : Ref5 w B q room v n g) (k : But T w w') (hT : ∀ i, own5 q v i → ¬ T i) : Ref5 w' B q room v n g := by
  have hq := hT q (.inl rfl)
  have hlt := (h.there (.inl rfl)).2
  exact ⟨by rw [k.cell hlt hq]; exact h.croom, by rw [k.cell hlt hq]; exact h.clist, fun j => by rw [k.frozen hlt hq]; exact h.thaw j, own_kept h.list k (fun g hg => hT g (.inr hg)), h.apart, h.least, h.fits, h.most⟩
theorem Ref5.below {w w' : World} {B q room n : Nat} {v : Value} {g : Nat → Int} (h : Ref5 w B q room v n g) (k : Below w.heap.size w w') : Ref5 w' B q room v n g :=
  h.kept (T := fun _ => False) (But.of_below k) (fun _ _ => id)
theorem Ref5.row {w : World} {B q room n : Nat} {v : Value} {g : Nat → Int} (h : Ref5 w B q room v n g) : Row w v n fun i => .int .i64 (g i) := row_of_own h.list _ (fun _ hi => vals_at _ hi)

theorem infoI : (Try.prog.info? 3).map (fun i => (i.zero, i.size, i.bytes)) = some (some (.int .i64 0), 1, 8) := by kernel_rfl

set_option maxHeartbeats 1000000 in
theorem refPush_full {w : World} {B q room : Nat} {v : Value} {g : Nat → Int} (h : Ref5 w B q room v room g) (x : Int) :
    Calls Try.prog 9 #[.pointer (some ⟨q, 0, none⟩), .int .i64 x] w fun e w' => e = .returned (.int .i64 40) ∧ ∃ m, w' = w.drewN m := by
  obtain ⟨a, cap, rfl⟩ := own_shape h.list
  have h1 := h.croom
  have h2 := h.clist
  go_enter Try.func9, Try.ntmps9
  go_wp2_with fail
  go_quiet (fail)
  go_wp2_with fail
  go_ret
  exact ⟨rfl, _, rfl⟩
set_option maxRecDepth 100000 in
set_option maxHeartbeats 2000000 in
theorem refPush_ok {w : World} {B q room n : Nat} {v : Value} {g : Nat → Int} (h : Ref5 w B q room v n g) (hn : n < room) (x : Int) :
    Calls Try.prog 9 #[.pointer (some ⟨q, 0, none⟩), .int .i64 x] w fun e w' => e = .returned (.int .i64 0) ∧
      ∃ v', Ref5 w' B q room v' (n + 1) (upd g n x) ∧ But (own5 q v) w w' ∧ ∀ k, own5 q v' k → own5 q v k ∨ w.heap.size ≤ k := by
  obtain ⟨a, cap, hv⟩ := own_shape h.list
  have h1 := h.croom
  have h2 := h.clist
  have h3 := h.thaw 1
  have hm := h.most
  have hap := h.apart
  have hq := h.there (.inl rfl)
  have hT := h.thaw
  have t : ¬ (room : Int) ≤ (n : Int) := by omega
  obtain ⟨i0, hi0, hz0, hzs, hzb⟩ := info_parts infoI
  have hown := (own_below h.list (below_drewN w.heap.size 1 w))
  have HL := h.least
  rw [hv] at h2
  go_enter Try.func9, Try.ntmps9
  go_wp2_with fail
  go_quiet (fail)
  have hown := own_below h.list (((below_drewN w.heap.size nq w)).alloc (Nat.le_refl _) (.cells #[.int .i64 x] 3))
  have hcn := cell_one_new w (.int .i64 x) 3
  rw [hv] at hown
  go_wp2_with (at_builtin; refine wpList_append_own_at _ rfl _ _ 29 rfl B 3 i0 (.int .i64 0) 1 8 Try.underlying29 hi0 hz0 hzs hzb rfl (by decide) _ _ _ rfl hown ⟨w.heap.size, 0, none⟩ 1 1 [.int .i64 x] rfl rfl ?hnews ?hone ?h63 ?hbytes ?hbase ?_)
  case hone => simp [Value.oneCell']
  case hnews => exact hcn
  case h63 => unfold maxLen; omega
  case hbytes => omega
  case hbase => show B ≤ (w.alloc _).heap.size; simp; omega
  intro v' w' hown' hgrow _ hat
  have hat' : v'.ownBlock = v.ownBlock ∨ v'.ownBlock = some (w.heap.size + 1) := by rw [hv]; simpa using hat
  have hsh := ownsRow_succ hown'
  have BW : But (fun k => v.ownBlock = some k) w w' := by
    refine (But.of_below (S := fun k => v.ownBlock = some k) ((below_drewN w.heap.size nq w).alloc (Nat.le_refl _) (.cells #[.int .i64 x] 3))).trans (But.of_grown hgrow) ?_
    intro i _ e
    rw [hv]; exact e
  have ev : vals (fun i => .int .i64 (upd g n x i)) (n + 1) = vals (fun i => .int .i64 (g i)) n ++ [.int .i64 x] := by
    rw [vals_succ, upd_same]
    congr 1
    exact vals_same (fun i hi => by rw [upd_other _ _ (by omega)])
  rw [← ev] at hown'
  have e0 := (BW.cell (o := 0) hq.2 hap).trans h1
  have e1 := (BW.cell (o := 1) hq.2 hap).trans h2
  have e2 := (BW.frozen (o := 1) hq.2 hap).trans h3
  have e3 : ∀ j, w'.frozen? ⟨q, j, none⟩ = false := fun j => (BW.frozen (o := j) hq.2 hap).trans (hT j)
  have hne : v'.ownBlock ≠ some q := by
    rcases hat' with e | e
    · rw [e]; exact hap
    · rw [e]; intro e'; injection e' with e'; omega
  have HO : Hid (w'.ownsRow B 3 1 v' (n + 1) (vals (fun i => .int .i64 (upd g n x i)) (n + 1))) := hown'
  have HE : Hid (∀ j, w'.frozen? ⟨q, j, none⟩ = false) := e3
  have HA : Hid (v'.ownBlock = v.ownBlock ∨ v'.ownBlock = some (w.heap.size + 1)) := hat'
  have HB : Hid (But (fun k => v.ownBlock = some k) w w') := BW
  have HN : Hid (v'.ownBlock ≠ some q) := hne
  clear hown hown' hgrow hat hat' ev e3 BW hne hcn hT h1 h2 h3 h hap hv hi0 hz0 hzs hzb
  obtain ⟨b', cap', rfl⟩ := hsh
  go_wp2_with fail
  go_ret
  have BQ : But (fun k => k = q) w' (w'.setCell ⟨q, 1, none⟩ (.slice (some ⟨b', 0, none⟩) (n + 1) cap')) := But.setCell (S := fun k => k = q) (But.refl _ w') q 1 _ (fun _ => rfl)
  refine ⟨rfl, .slice (some ⟨b', 0, none⟩) (n + 1) cap', ⟨?_, ?_, ?_, ?_, HN.out, HL, by omega, hm⟩, ?_, ?_⟩
  · rw [World.cell?_setCell_other _ _ _ _ (by simp)]; exact e0
  · exact World.cell?_setCell_same' _ _ _ (by rw [e1]; rfl)
  · intro j; rw [World.frozen?_setCell]; exact HE.out j
  · exact own_kept HO.out BQ (fun k hk e => HN.out (by rw [← e]; exact hk))
  · exact ((HB.out.mono (fun _ _ e => .inr e)).trans BQ (fun _ _ e => .inl e))
  · rintro k (e | e)
    · exact .inl (.inl e)
    · rcases HA.out with e' | e'
      · exact .inl (.inr (e'.symm.trans e))
      · rw [e'] at e
        injection e with e
        exact .inr (by omega)

set_option maxHeartbeats 1000000 in
theorem refPeek_none {w : World} {B q room : Nat} {v : Value} {g : Nat → Int} (h : Ref5 w B q room v 0 g) :
    Calls Try.prog 13 #[.pointer (some ⟨q, 0, none⟩)] w fun e w' => e = .returned (.tuple #[.int .i64 0, .int .i64 50]) ∧ w' = w := by
  obtain ⟨a, cap, rfl⟩ := own_shape h.list
  have h2 := h.clist
  go_enter Try.func13, Try.ntmps13
  go_wp2_with fail
  go_ret2
  exact ⟨rfl, rfl⟩
set_option maxHeartbeats 1000000 in
theorem refPeek_some {w : World} {B q room n : Nat} {v : Value} {g : Nat → Int} (h : Ref5 w B q room v (n + 1) g) :
    Calls Try.prog 13 #[.pointer (some ⟨q, 0, none⟩)] w fun e w' => e = .returned (.tuple #[.int .i64 (g 0), .int .i64 0]) ∧ w' = w := by
  obtain ⟨a, cap, rfl⟩ := own_shape h.list
  have h2 := h.clist
  have hf := h.fits
  have hm := h.most
  obtain ⟨_, _, e, _, _, h3⟩ := h.row
  injection e with e1 _ e2
  subst e1 e2
  obtain ⟨b, off, rfl, hc⟩ := h3 0 (by omega)
  have hc : w.cell? ⟨b, off, none⟩ = some (.int .i64 (g 0)) := hc
  have t : ¬ ((n : Int) + 1 = 0) := by omega
  generalize g 0 = x at *
  clear h3 h
  go_enter Try.func13, Try.ntmps13
  go_wp2_with fail
  go_ret2
  exact ⟨rfl, rfl⟩
set_option maxHeartbeats 1000000 in
theorem refPop_none {w : World} {B q room : Nat} {v : Value} {g : Nat → Int} (h : Ref5 w B q room v 0 g) :
    Calls Try.prog 11 #[.pointer (some ⟨q, 0, none⟩)] w fun e w' => e = .returned (.tuple #[.int .i64 0, .int .i64 50]) ∧ w' = w := by
  have F1 := refPeek_none h
  go_enter Try.func11, Try.ntmps11
  go_wp2_with fail
  refine F1.mono ?_
  rintro e w1 ⟨rfl, rfl⟩
  go_wp2_with fail
  go_ret2
  exact ⟨rfl, rfl⟩
set_option maxRecDepth 100000 in
set_option maxHeartbeats 2000000 in
theorem refPop_some {w : World} {B q room n : Nat} {v : Value} {g : Nat → Int} (h : Ref5 w B q room v (n + 1) g) :
    Calls Try.prog 11 #[.pointer (some ⟨q, 0, none⟩)] w fun e w' => e = .returned (.tuple #[.int .i64 (g 0), .int .i64 0]) ∧
      ∃ v', Ref5 w' B q room v' n (fun i => g (i + 1)) ∧ But (own5 q v) w w' ∧ ∀ k, own5 q v' k → own5 q v k ∨ w.heap.size ≤ k := by
  have F1 := refPeek_some h
  obtain ⟨a, cap, hv⟩ := own_shape h.list
  have h1 := h.croom
  have h2 := h.clist
  have h3 := h.thaw 1
  have hm := h.most
  have hf := h.fits
  have hap := h.apart
  have hq := h.there (.inl rfl)
  have hT := h.thaw
  have HL := h.least
  obtain ⟨i0, hi0, hz0, hzs, hzb⟩ := info_parts infoI
  obtain ⟨a', cap', e, hcap, hml, hrow⟩ := h.row
  rw [hv] at e
  injection e with e1 _ e2
  subst e1 e2
  obtain ⟨b, off, hab, _⟩ := hrow 0 (by omega)
  have hnews : ∀ j u, (vals (fun i => .int .i64 (g (i + 1))) n)[j]? = some u → w.cell? ((⟨b, off + 1, none⟩ : Addr).add j) = some u := fun j u hj => by
    have hj' : j < n := by have := (List.getElem?_eq_some_iff.1 hj).1; rwa [vals_length] at this
    rw [vals_at _ hj'] at hj
    injection hj with hj
    subst hj
    obtain ⟨b', off', e, hc⟩ := hrow (j + 1) (by omega)
    rw [hab] at e
    injection e with e
    injection e with e1 e2
    subst e1 e2
    rw [Addr.add_lit, show off + 1 + j = off + (j + 1) by omega]
    exact hc
  subst hab
  rw [hv] at h2
  unfold maxLen at hml
  generalize g 0 = x at *
  by_cases hc1 : cap = 1
  · obtain rfl : n = 0 := by omega
    subst hc1
    go_enter Try.func11, Try.ntmps11
    go_wp2_with fail
    refine F1.mono ?_
    rintro e w1 ⟨rfl, rfl⟩
    have hown : w1.ownsRow B 3 1 (.slice none 0 0) 0 [] := World.ownsRow_nil _ _ _ _
    go_wp2_with (at_builtin; refine wpList_append_own_at _ rfl _ _ 29 rfl B 3 i0 (.int .i64 0) 1 8 Try.underlying29 hi0 hz0 hzs hzb rfl (by decide) _ _ _ rfl hown ⟨b, off, none⟩ 0 0 (vals (fun i => .int .i64 (g (i + 1))) 0) ?hx ?hl ?hnews ?hone ?h63 ?hbytes ?hbase ?_)
    case hx => rfl
    case hl => rw [vals_length, Nat.mul_one]
    case hnews => intro j u hj; have := (List.getElem?_eq_some_iff.1 hj).1; rw [vals_length] at this; omega
    case hone => intro u hu; obtain ⟨i, _, rfl⟩ := List.mem_map.1 hu; rfl
    case h63 => unfold maxLen; omega
    case hbytes => omega
    case hbase => omega
    · intro v' w' hown' hgrow hnil hat
      subst hnil
      have hat' : (Value.slice none 0 0).ownBlock = none ∨ (Value.slice none 0 0).ownBlock = some w1.heap.size := hat
      have BW : But (fun _ => False) w1 w' := (But.of_grown hgrow).mono (fun i _ e => by cases e)
      have e0 := (BW.cell (o := 0) hq.2 id).trans h1
      have e1 := (BW.cell (o := 1) hq.2 id).trans h2
      have e2 := (BW.frozen (o := 1) hq.2 id).trans h3
      have e3 : ∀ j, w'.frozen? ⟨q, j, none⟩ = false := fun j => (BW.frozen (o := j) hq.2 id).trans (hT j)
      have hne : (Value.slice none 0 0).ownBlock ≠ some q := by
        rcases hat' with e | e
        · rw [e]; simp
        · rw [e]; intro e'; injection e' with e'; omega
      have HO : Hid (w'.ownsRow B 3 1 (.slice none 0 0) 0 (vals (fun i => .int .i64 (g (i + 1))) 0)) := hown'
      have HE : Hid (∀ j, w'.frozen? ⟨q, j, none⟩ = false) := e3
      have HA : Hid ((Value.slice none 0 0).ownBlock = none ∨ (Value.slice none 0 0).ownBlock = some w1.heap.size) := hat'
      have HB : Hid (But (fun _ => False) w1 w') := BW
      have HN : Hid ((Value.slice none 0 0).ownBlock ≠ some q) := hne
      clear hown hown' hgrow hat hat' e3 BW hne hnews hrow hT h1 h2 h3 hap hv F1 hi0 hz0 hzs hzb
      go_wp2_with fail
      go_ret2
      have BQ : But (fun k => k = q) w' (w'.setCell ⟨q, 1, none⟩ (.slice none 0 0)) := But.setCell (S := fun k => k = q) (But.refl _ w') q 1 _ (fun _ => rfl)
      refine ⟨rfl, .slice none 0 0, ⟨?_, ?_, ?_, ?_, HN.out, HL, by omega, hm⟩, ?_, ?_⟩
      · rw [World.cell?_setCell_other _ _ _ _ (by simp)]; exact e0
      · exact World.cell?_setCell_same' _ _ _ (by rw [e1]; rfl)
      · intro j; rw [World.frozen?_setCell]; exact HE.out j
      · exact own_kept HO.out BQ (fun k hk e => HN.out (by rw [← e]; exact hk))
      · exact ((HB.out.mono (fun _ _ e => e.elim)).trans BQ (fun _ _ e => .inl e))
      · rintro k (e | e)
        · exact .inl (.inl e)
        · rcases HA.out with e' | e'
          · rw [e'] at e; cases e
          · rw [e'] at e
            injection e with e
            exact .inr (by omega)
  · go_enter Try.func11, Try.ntmps11
    go_wp2_with fail
    refine F1.mono ?_
    rintro e w1 ⟨rfl, rfl⟩
    have hown : w1.ownsRow B 3 1 (.slice none 0 0) 0 [] := World.ownsRow_nil _ _ _ _
    go_wp2_with (at_builtin; refine wpList_append_own_at _ rfl _ _ 29 rfl B 3 i0 (.int .i64 0) 1 8 Try.underlying29 hi0 hz0 hzs hzb rfl (by decide) _ _ _ rfl hown ⟨b, off + 1, none⟩ n (cap - 1) (vals (fun i => .int .i64 (g (i + 1))) n) ?hx ?hl ?hnews ?hone ?h63 ?hbytes ?hbase ?_)
    case hx => rfl
    case hl => rw [vals_length, Nat.mul_one]
    case hnews => exact hnews
    case hone => intro u hu; obtain ⟨i, _, rfl⟩ := List.mem_map.1 hu; rfl
    case h63 => unfold maxLen; omega
    case hbytes => omega
    case hbase => omega
    · intro v' w' hown' hgrow _ hat
      have hat' : v'.ownBlock = none ∨ v'.ownBlock = some w1.heap.size := hat
      obtain ⟨a2, c2, hsh⟩ := own_shape hown'
      have BW : But (fun _ => False) w1 w' := (But.of_grown hgrow).mono (fun i _ e => by cases e)
      have e0 := (BW.cell (o := 0) hq.2 id).trans h1
      have e1 := (BW.cell (o := 1) hq.2 id).trans h2
      have e2 := (BW.frozen (o := 1) hq.2 id).trans h3
      have e3 : ∀ j, w'.frozen? ⟨q, j, none⟩ = false := fun j => (BW.frozen (o := j) hq.2 id).trans (hT j)
      have hne : v'.ownBlock ≠ some q := by
        rcases hat' with e | e
        · rw [e]; simp
        · rw [e]; intro e'; injection e' with e'; omega
      have HO : Hid (w'.ownsRow B 3 1 v' n (vals (fun i => .int .i64 (g (i + 1))) n)) := hown'
      have HE : Hid (∀ j, w'.frozen? ⟨q, j, none⟩ = false) := e3
      have HA : Hid (v'.ownBlock = none ∨ v'.ownBlock = some w1.heap.size) := hat'
      have HB : Hid (But (fun _ => False) w1 w') := BW
      have HN : Hid (v'.ownBlock ≠ some q) := hne
      clear hown hown' hgrow hat hat' e3 BW hne hnews hrow hT h1 h2 h3 hap hv F1 hi0 hz0 hzs hzb
      subst hsh
      go_wp2_with fail
      go_ret2
      have BQ : But (fun k => k = q) w' (w'.setCell ⟨q, 1, none⟩ (.slice a2 n c2)) := But.setCell (S := fun k => k = q) (But.refl _ w') q 1 _ (fun _ => rfl)
      refine ⟨rfl, .slice a2 n c2, ⟨?_, ?_, ?_, ?_, HN.out, HL, by omega, hm⟩, ?_, ?_⟩
      · rw [World.cell?_setCell_other _ _ _ _ (by simp)]; exact e0
      · exact World.cell?_setCell_same' _ _ _ (by rw [e1]; rfl)
      · intro j; rw [World.frozen?_setCell]; exact HE.out j
      · exact own_kept HO.out BQ (fun k hk e => HN.out (by rw [← e]; exact hk))
      · exact ((HB.out.mono (fun _ _ e => e.elim)).trans BQ (fun _ _ e => .inl e))
      · rintro k (e | e)
        · exact .inl (.inl e)
        · rcases HA.out with e' | e'
          · rw [e'] at e; cases e
          · rw [e'] at e
            injection e with e
            exact .inr (by omega)
end Go.Proofs.Ytdikjfajbjedcaa
