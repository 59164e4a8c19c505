/-
  The contract of the cursor's beginning: it passes what each message begins with, or gives up.
-/
import Derived.Test.YtcgojnofkbjinaaDoorWireTake
import Derived.Test.YtcgojnofkbjinaaDoorOrder
import Derived.Deep.RegionHeld3
namespace Go.Proofs.YtcgojnofkbjinaaDoor
open Go.ChangeShapes Go.WideShapes Go.ChangeAt Go.RowKit Go.Lib

/-- The beginning as a text. -/
abbrev beginS : ByteArray := ⟨#[56, 61, 70, 73, 88, 46, 52, 46, 52, 1, 57, 61]⟩
theorem one_ext (s : ByteArray) {k : Nat} (h : k < s.size) : s.extract k (k + 1) = mk [s[k]'h] := by
  rw [ext_list, drop_byte s h, show k + 1 - k = 1 by omega]
  rfl
theorem beg_step (s : ByteArray) {k : Nat} (h : k < s.size) (h12 : k < 12) : begR (beginL.drop k) (s.data.toList.drop k) = if s.extract k (k + 1) = beginS.extract k (k + 1) then begR (beginL.drop (k + 1)) (s.data.toList.drop (k + 1)) else 101 := by
  have hb : beginS.size = 12 := rfl
  have e1 : beginL.drop k = (beginS[k]'(by rw [hb]; exact h12)) :: beginL.drop (k + 1) := drop_byte beginS (by rw [hb]; exact h12)
  rw [e1, drop_byte s h, begR, one_ext s h, one_ext beginS (by rw [hb]; exact h12)]
  by_cases e : s[k]'h = beginS[k]'(by rw [hb]; exact h12)
  · rw [if_pos e, if_pos (by rw [e])]
  · rw [if_neg e, if_neg (fun c => e (by
      have := congrArg (fun x : ByteArray => x.data.toList) c
      simpa [mk] using this))]
theorem beg_short (s : ByteArray) {k : Nat} (h : s.size ≤ k) (h12 : k < 12) : begR (beginL.drop k) (s.data.toList.drop k) = 100 := by
  have hb : beginS.size = 12 := rfl
  have e1 : beginL.drop k = (beginS[k]'(by rw [hb]; exact h12)) :: beginL.drop (k + 1) := drop_byte beginS (by rw [hb]; exact h12)
  have e2 : s.data.toList.drop k = [] := List.drop_eq_nil_of_le (by rw [← size_eq]; exact h)
  rw [e1, e2]
  rfl
theorem But.drewL {S : Nat → Prop} {a b : World} {n : Nat} (h : But S (a.drewN n) b) : But S a b := ⟨h.os, h.tape, h.output, h.size, h.block⟩
theorem wrap_one (k : Nat) (h : k ≤ 1000000000) : IntKind.i64.wrap ((k : Int) + 1) = (k : Int) + 1 := by
  rw [IntKind.wrap_i64]
  omega
theorem begin_slice (k : Nat) (h : k < 12) : ∀ w, (Instr.slice 9 (.string beginS) (some (.int .i64 (k : Int))) (some (.int .i64 ((k : Int) + 1))) none).run Tryd.prog w = .ok (.string (beginS.extract k (k + 1))) w := by
  intro w
  have := run_slice_string (P := Tryd.prog) 9 beginS .i64 .i64 (k : Int) ((k : Int) + 1) Tryd.underlying9 (by omega) (by omega) (by show (k : Int) + 1 ≤ 12; omega) (w := w)
  exact this
set_option maxRecDepth 1000000 in
set_option maxHeartbeats 4000000 in
theorem beginning_any (b : Nat) (s : ByteArray) (w : World) (hc : Cur w b s 0) (hs : s.size ≤ maxLen) :
    Calls Tryd.prog 25 #[.pointer (some ⟨b, 0, none⟩)] w fun e w' => But (fun j => j = b) w w' ∧
      ((begR beginL s.data.toList = 0 ∧ e = .returned (.tuple #[]) ∧ Cur w' b s 12) ∨ (begR beginL s.data.toList ≠ 0 ∧ e = gaveUp (begR beginL s.data.toList))) := by
  obtain ⟨E, hE⟩ : ∃ E, begR beginL s.data.toList = E := ⟨_, rfl⟩
  rw [hE]
  go_enter Tryd.func25, Tryd.ntmps25
  go_wp2_with fail
  go_loopw [3] (fun i wr => ∃ k : Nat, i = .int .i64 (k : Int) ∧ k ≤ 12 ∧ (k ≤ s.size) ∧ begR (beginL.drop k) (s.data.toList.drop k) = E ∧ Cur wr b s k ∧ But (fun j => j = b) w wr) (fun i _ => 12 - (RowKit.intOf i).toNat)
  case atStart => exact ⟨0, rfl, by omega, by omega, by simpa using hE, hc, But.refl _ _⟩
  case round =>
    clear hE hc
    obtain ⟨k, rfl, hk, hks, hg, hc, HB⟩ := hrel
    by_cases hp : k < 12
    · have t0 : (k : Int) < 12 := by omega
      by_cases hz : k < s.size
      · have F : ∀ w, Cur w b s k → Calls Tryd.prog 26 #[.pointer (some ⟨b, 0, none⟩), .int .i64 1] w fun e w' => e = .returned (.string (s.extract k (k + 1))) ∧ Cur w' b s (k + 1) ∧ But (fun j => j = b) w w' := fun w hc => take_ok b s k 1 w hc (by omega) hs
        have c0 := hc.text
        rw [beg_step s hz hp] at hg
        have hl : beginS.size = 12 := rfl
        by_cases he : s.extract k (k + 1) = beginS.extract k (k + 1)
        · rw [if_pos he] at hg
          have HG : Hid (begR (beginL.drop (k + 1)) (s.data.toList.drop (k + 1)) = E) := hg
          have t1 : ((s.extract k (k + 1)).toList == (beginS.extract k (k + 1)).toList) = true := by
            rw [beq_bytes, decide_eq_true he]
          clear hg he
          have hw := wrap_one k (by omega)
          have hsl := begin_slice k hp
          go_wp2_with fail
          go_region_held3 (fun w' => w'.cell? ⟨b, 0, none⟩ = some (.string s)) (first | go_keep | exact hc1.text) ((go_at_call 26; refine (F _ (hc.drewN 1)).mono ?_; rintro e w1 ⟨rfl, hc1, hb1⟩))
          have HB1 := HB.trans hb1.drewL (fun _ _ h => h)
          clear hw hsl hb1
          go_wp2_with fail
          go_roundw
          case rel => exact ⟨k + 1, by simp, by omega, by omega, HG.out, hc1, HB1⟩
          case measure => simp [RowKit.intOf]; omega
        · rw [if_neg he] at hg
          have HG : Hid (101 = E) := hg
          have t1 : ((s.extract k (k + 1)).toList == (beginS.extract k (k + 1)).toList) = false := by
            rw [beq_bytes, decide_eq_false he]
          clear hg he
          have hw := wrap_one k (by omega)
          have hsl := begin_slice k hp
          go_wp2_with fail
          go_region_held3 (fun w' => w'.cell? ⟨b, 0, none⟩ = some (.string s)) (first | go_keep | exact hc1.text) ((go_at_call 26; refine (F _ (hc.drewN 1)).mono ?_; rintro e w1 ⟨rfl, hc1, hb1⟩))
          have HB1 := HB.trans hb1.drewL (fun _ _ h => h)
          clear hw hsl hb1
          go_wp2_with fail
          exact ⟨rfl, HB1, .inr ⟨by rw [← HG.out]; decide, by rw [← HG.out]; rfl⟩⟩
      · have F : ∀ w, Cur w b s k → Calls Tryd.prog 26 #[.pointer (some ⟨b, 0, none⟩), .int .i64 1] w fun e w' => e = gaveUp 100 ∧ ∃ m, w' = w.drewN m := fun w hc => take_short b s k 1 w hc (by omega) hks hs
        rw [beg_short s (by omega) hp] at hg
        have HG : Hid (100 = E) := hg
        clear hg
        have hw := wrap_one k (by omega)
        have hsl := begin_slice k hp
        go_wp2_with fail
        -- the order is drawn, but all that may come ahead of the call yields: the call is what gives up
        refine wp_region_any (by kernel_rfl) ?_
        change wpAny _ _ _ _ _ _ _ (World.drew _)
        refine wpAny_take (i := 0) (v := ?v0) rfl (by kernel_rfl) (by kernel_rfl) (by kernel_rfl) (fun _ _ _ h => h) (Or.inl ⟨by rfl, ?h0⟩) ?_
        case h0 => intro w; go_simp; try with_reducible rfl
        refine wpAny_take (i := 2) (v := ?v2) rfl (by kernel_rfl) (by kernel_rfl) (by kernel_rfl) (fun _ _ _ h => h) (Or.inl ⟨by rfl, ?h2⟩) ?_
        case h2 => intro w; go_simp; try with_reducible rfl
        refine wpAny_take (i := 3) (v := ?v3) rfl (by kernel_rfl) (by kernel_rfl) (by kernel_rfl) (fun _ _ _ h => h) (Or.inl ⟨by rfl, ?h3⟩) ?_
        case h3 => intro w; go_simp; try with_reducible rfl
        refine wpAny_take (i := 4) (v := ?v4) rfl (by kernel_rfl) (by kernel_rfl) (by kernel_rfl) (fun _ _ _ h => h) (Or.inl ⟨by rfl, ?h4⟩) ?_
        case h4 => intro w; go_simp; try with_reducible rfl
        refine wpAny_take (i := 5) (v := ?v5) rfl (by kernel_rfl) (by kernel_rfl) (by kernel_rfl) (fun _ _ _ h => h) (Or.inl ⟨by rfl, ?h5⟩) ?_
        case h5 => intro w; go_simp; try with_reducible rfl
        refine wpAny_ready (rs := [1]) (by kernel_rfl) (by simp) ?_
        refine AllReady.cons rfl (fun K hK => ?_) AllReady.nil
        go_simp
        go_wp2_with fail
        refine (F _ (hc.drewN 1)).mono ?_
        rintro e w1 ⟨rfl, m1, rfl⟩
        exact ⟨rfl, (HB.drewN _).drewN _, .inr ⟨by rw [← HG.out]; decide, by rw [← HG.out]⟩⟩
    · obtain rfl : k = 12 := by omega
      have HG : Hid (0 = E) := by
        have : beginL.drop 12 = [] := rfl
        rw [this, begR] at hg
        exact hg
      clear hg
      go_wp2_with fail
      go_end0
      exact ⟨HB, .inl ⟨HG.out.symm, rfl, hc⟩⟩
end Go.Proofs.YtcgojnofkbjinaaDoor
