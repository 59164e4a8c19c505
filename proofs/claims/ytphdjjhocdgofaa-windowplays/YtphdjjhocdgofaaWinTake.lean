/-
  Contract of window's Take.
-/
import Derived.Test.YtphdjjhocdgofaaWinCut
import Derived.RangeFuncBox
namespace Go.Proofs.Ytphdjjhocdgofaa
open Go.ChangeShapes Go.WideShapes Go.ChangeAt Go.RowKit Go.Lib

theorem cut_any {w : World} {B p width most n K : Nat} {v : Value} {g : Nat → Int} (h : Win w B p width most v n g) {now : Int} (h0 : 0 ≤ now) (h1 : now ≤ 9223372036854775807) (hK : Cut g n (now - (width : Int) + 1) K) :
    Calls Try.prog 21 #[.pointer (some ⟨p, 0, none⟩), .int .i64 now] w fun e w' => (∃ v, e = .returned v) ∧ ∃ v', v'.ownBlock = v.ownBlock ∧ Tk w' B p width most v' (n - K) (fun i => g (K + i)) ∧ But (ownT p v) w w' := by
  rcases h.tk.list.2 with ⟨rfl, rfl⟩ | ⟨q, cap, cur, rfl, _⟩
  · obtain rfl : K = 0 := by have := hK.le; omega
    refine (cut_nil h h0 h1).mono fun e w' ⟨a, b, c⟩ => ⟨a, _, rfl, ?_, c.mono (fun _ _ e => .inl e)⟩
    have e : (fun i => g (0 + i)) = g := by funext i; rw [Nat.zero_add]
    rw [e]; exact b
  · refine (cut_row h h0 h1 hK).mono fun e w' ⟨a, b, c⟩ => ⟨a, .slice (some ⟨q, 0, none⟩) (n - K) cap, rfl, b, c.mono (fun i _ e => ?_)⟩
    rcases e with e | e
    · exact .inl e
    · exact .inr (by rw [e]; rfl)
set_option maxRecDepth 100000 in
set_option maxHeartbeats 2000000 in
theorem take_no {w : World} {B p width most n : Nat} {v : Value} {g : Nat → Int} (h : Win w B p width most v n g) {now : Int} (ha : ¬ Askd g n now) :
    Calls Try.prog 16 #[.pointer (some ⟨p, 0, none⟩), .int .i64 now] w fun e w' => e = .returned (.int .i64 2) ∧ ∃ m, w' = w.drewN m := by
  have F1 := fits_no h ha
  clear h ha
  go_enter Try.func16, Try.ntmps16
  go_wp2_with fail
  refine F1.mono ?_
  rintro e w1 ⟨rfl, m1, rfl⟩
  go_wp2_with fail
  go_ret
  exact ⟨rfl, _, rfl⟩
theorem takeN {w : World} {r : Value} (h : NoWin w r) (now : Int) : Calls Try.prog 16 #[r, .int .i64 now] w fun e w' => e = .returned (.int .i64 1) ∧ w' = w := by
  have F1 := fitsN h now
  go_enter Try.func16, Try.ntmps16
  go_wp2_with fail
  refine F1.mono ?_
  rintro e w1 ⟨rfl, rfl⟩
  go_wp2_with fail
  go_ret
  exact ⟨rfl, rfl⟩
set_option maxRecDepth 100000 in
set_option maxHeartbeats 2000000 in
theorem take_full {w : World} {B p width most n : Nat} {v : Value} {g : Nat → Int} (h : Win w B p width most v n g) {now : Int} (ha : Askd g n now) (hc : Cnt g n width now most) :
    Calls Try.prog 16 #[.pointer (some ⟨p, 0, none⟩), .int .i64 now] w fun e w' => e = .returned (.int .i64 60) ∧ ∃ m, w' = w.drewN m := by
  have F1 := fits_ok h ha
  have F2 := fun w m0 (h : Win w B p width most v n g) => count_any (h.drewN m0) now (by have := ha.2.1; omega) hc
  clear ha hc
  go_enter Try.func16, Try.ntmps16
  go_wp2_with fail
  refine F1.mono ?_
  rintro e w1 ⟨rfl, m1, hw1⟩
  have h1 := h.drewN m1
  rw [← hw1] at h1
  have c1 := h1.tk.cmost
  have F3 := fun m0 => F2 w1 m0 h1
  have HW : Hid (w1 = w.drewN m1) := hw1
  clear hw1 h h1 F1 F2
  go_wp2_with fail
  go_quiet (first | (go_at_call 13; exact Calls.quiet_of (F3 _)))
  go_wp2_with fail
  go_ret
  exact ⟨rfl, _, by rw [HW.out, World.drewN_drewN]⟩
/-- Ticks with one more behind them, in a list that grew by append. -/
theorem Tk.more {w w' : World} {B p width most n : Nat} {v v' : Value} {g : Nat → Int} {x : Int} (h : Tk w B p width most v n g) (hg : w.grownBy w' v.ownBlock) (hat : v'.ownBlock = v.ownBlock ∨ ∃ k, v'.ownBlock = some k ∧ w.heap.size ≤ k)
    (hown : w'.ownsRow B 3 1 v' (n + 1) (vals (fun i => .int .i64 (g i)) n ++ [.int .i64 x])) :
    Tk (w'.setCell ⟨p, 2, none⟩ v') B p width most v' (n + 1) (upd g n x) ∧ But (ownT p v) w (w'.setCell ⟨p, 2, none⟩ v') ∧ ∀ k, ownT p v' k → ownT p v k ∨ w.heap.size ≤ k := by
  have hp := (h.there (.inl rfl)).2
  have B1 : But (fun k => v.ownBlock = some k) w w' := But.of_grown hg
  have BQ : But (fun k => k = p) w' (w'.setCell ⟨p, 2, none⟩ v') := But.setCell (S := fun k => k = p) (But.refl _ w') p 2 _ (fun _ => rfl)
  have hne : v'.ownBlock ≠ some p := by
    rcases hat with e | ⟨k, e, hk⟩
    · rw [e]; exact h.apart
    · rw [e]; intro e'; injection e' with e'; omega
  have ev : vals (fun i => .int .i64 (upd g n x i)) (n + 1) = vals (fun i => .int .i64 (g i)) n ++ [.int .i64 x] := by
    rw [vals_succ, upd_same]
    congr 1
    exact vals_same (fun i hi => by rw [upd_other _ _ (by omega)])
  rw [← ev] at hown
  refine ⟨⟨?_, ?_, ?_, ?_, ?_, hne, h.least⟩, (B1.mono (fun _ _ e => .inr e)).trans BQ (fun _ _ e => .inl e), fun k hk => ?_⟩
  · rw [World.cell?_setCell_other _ _ _ _ (by simp), B1.cell hp h.apart]; exact h.cwidth
  · rw [World.cell?_setCell_other _ _ _ _ (by simp), B1.cell hp h.apart]; exact h.cmost
  · exact World.cell?_setCell_same' _ _ _ (by rw [B1.cell hp h.apart, h.clist]; rfl)
  · intro j; rw [World.frozen?_setCell, B1.frozen hp h.apart]; exact h.thaw j
  · exact own_kept hown BQ (fun k hk e => hne (by rw [← e]; exact hk))
  · rcases hk with e | e
    · exact .inl (.inl e)
    · rcases hat with e' | ⟨k', e', hk'⟩
      · exact .inl (.inr (e'.symm.trans e))
      · rw [e'] at e
        injection e with e
        exact .inr (by omega)
set_option maxRecDepth 100000 in
set_option maxHeartbeats 4000000 in
theorem take_ok {w : World} {B p width most n c K : Nat} {v : Value} {g : Nat → Int} (h : Win w B p width most v n g) {now : Int} (ha : Askd g n now) (hc : Cnt g n width now c) (hK : Cut g n (now - (width : Int) + 1) K) (hcK : c + K = n) (hcm : c < most) :
    Calls Try.prog 16 #[.pointer (some ⟨p, 0, none⟩), .int .i64 now] w fun e w' => e = .returned (.int .i64 0) ∧
      ∃ v', Win w' B p width most v' (n - K + 1) (tookG g n K now) ∧ But (ownT p v) w w' ∧ ∀ k, ownT p v' k → ownT p v k ∨ w.heap.size ≤ k := by
  have F1 := fits_ok h ha
  have F2 := fun w m0 (h : Win w B p width most v n g) => count_any (h.drewN m0) now (by have := ha.2.1; omega) hc
  have F4 := fun w (h : Win w B p width most v n g) => cut_any h ha.1 (by have := ha.2.1; omega) hK
  have t1 : ((c : Int) == (most : Int)) = false := beq_false_of_ne (by omega)
  have t2 : ¬ c = most := by omega
  have hsz := h.sized
  have hm2 := hsz.m2
  have hfit := h.fits
  have HR : Hid (Rise (n - K + 1) (tookG g n K now)) := h.rise.took ha K
  obtain ⟨i0, hi0, hz0, hzs, hzb⟩ := info_parts infoN
  have HH : Hid (Win w B p width most v n g) := h
  clear ha hc hK
  go_enter Try.func16, Try.ntmps16
  go_wp2_with fail
  refine F1.mono ?_
  rintro e w1 ⟨rfl, m1, hw1⟩
  have h1 := h.drewN m1
  rw [← hw1] at h1
  have c1 := h1.tk.cmost
  have F3 := fun m0 => F2 w1 m0 h1
  have F5 := fun m0 => F4 (w1.drewN m0) (h1.drewN m0)
  have HW : Hid (w1 = w.drewN m1) := hw1
  clear hw1 h h1 F1 F2 F4
  go_wp2_with fail
  go_quiet (first | (go_at_call 13; exact Calls.quiet_of (F3 _)))
  go_wp2_with fail
  refine (F5 _).mono ?_
  rintro e w2 ⟨⟨r, rfl⟩, v2, hv2, T2, B2⟩
  have B2' : But (ownT p v) w w2 := by
    rw [HW.out] at B2
    exact (But.of_below (S := ownT p v) (below_drewN _ _ _)).trans ((But.of_below (S := ownT p v) (below_drewN _ _ _)).trans B2 (fun _ _ e => e)) (fun _ _ e => e)
  have HB : Hid (But (ownT p v) w w2) := B2'
  have HV : Hid (v2.ownBlock = v.ownBlock) := hv2
  obtain ⟨a2, cap2, hs2⟩ := own_shape T2.list
  have k2 := T2.clist
  have z2 := T2.thaw 2
  have hp := T2.there (.inl rfl)
  rw [hs2] at k2
  have hown := own_below T2.list ((Below.refl _ w2).alloc (Nat.le_refl _) (.cells #[.int .i64 now] 3))
  have hcn := cell_one_new w2 (.int .i64 now) 3
  rw [hs2] at hown
  clear B2 B2' hv2 F3 F5 c1
  go_wp2_with (at_builtin; refine wpList_append_own_at _ rfl _ _ 22 rfl B 3 i0 (.int .i64 0) 1 8 Try.underlying22 hi0 hz0 hzs hzb rfl (by decide) _ _ _ rfl hown ⟨w2.heap.size, 0, none⟩ 1 1 [.int .i64 now] rfl rfl ?hnews ?hone ?h63 ?hbytes ?hbase ?_)
  case hone => simp [Value.oneCell']
  case hnews => exact hcn
  case h63 => unfold maxLen; omega
  case hbytes => omega
  case hbase => simp; omega
  intro v' w' hown' hgrow _ hat
  have T3 := T2.below ((Below.refl _ w2).alloc (Nat.le_refl _) (.cells #[.int .i64 now] 3))
  rw [← hs2] at hgrow hat
  have hat' : v'.ownBlock = v2.ownBlock ∨ ∃ k, v'.ownBlock = some k ∧ (w2.alloc (.cells #[.int .i64 now] 3)).heap.size ≤ k := by
    rcases hat with e | e
    · exact .inl e
    · exact .inr ⟨_, e, by simp⟩
  have HM := T3.more hgrow hat' hown'
  have e1 := ((But.of_grown hgrow).cell (o := 2) (T3.there (.inl rfl)).2 T3.apart).trans T3.clist
  have e2 := ((But.of_grown hgrow).frozen (o := 2) (T3.there (.inl rfl)).2 T3.apart).trans (T3.thaw 2)
  rw [hs2] at e1
  have HM' : Hid (Tk (w'.setCell ⟨p, 2, none⟩ v') B p width most v' (n - K + 1) (upd (fun i => g (K + i)) (n - K) now) ∧ But (ownT p v2) (w2.alloc (.cells #[.int .i64 now] 3)) (w'.setCell ⟨p, 2, none⟩ v') ∧ ∀ k, ownT p v' k → ownT p v2 k ∨ (w2.alloc (.cells #[.int .i64 now] 3)).heap.size ≤ k) := HM
  obtain ⟨b', cap', hsh⟩ := ownsRow_succ hown'
  clear hown hown' hgrow hat hat' HM T2 T3 hcn k2 z2 hi0 hz0 hzs hzb hs2
  subst hsh
  go_wp2_with fail
  go_ret
  obtain ⟨M1, M2, M3⟩ := HM'.out
  have hz := HB.out.size
  have ho : ∀ k, ownT p v2 k → ownT p v k := fun k hk => by
    rcases hk with e | e
    · exact .inl e
    · exact .inr (HV.out.symm.trans e)
  refine ⟨rfl, _, ⟨M1, HR.out, hsz, by omega⟩, ?_, fun k hk => ?_⟩
  · exact (HB.out.trans (But.of_below (S := ownT p v) ((Below.refl _ w2).alloc (Nat.le_refl _) _)) (fun _ _ e => e)).trans M2 (fun k _ hk => ho k hk)
  · rcases M3 k hk with e | e
    · exact .inl (ho k e)
    · right; simp at e; omega
end Go.Proofs.Ytphdjjhocdgofaa
