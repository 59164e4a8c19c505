/-
  The contract of the cursor's length: it reads the body's length, or gives up.
-/
import Derived.Test.YtcgojnofkbjinaaDoorWireBegin
import Derived.Test.YtcgojnofkbjinaaDoorSumRead
namespace Go.Proofs.YtcgojnofkbjinaaDoor
open Go.ChangeShapes Go.WideShapes Go.ChangeAt Go.RowKit Go.Lib

/-- The digits D that were read so far, k of them, say num. -/
def Said (D : List UInt8) (k num : Nat) : Prop := (k = 0 ∧ num = 0 ∧ D = []) ∨ (0 < k ∧ 1 ≤ num ∧ num ≤ 4096 ∧ decDigits num = D)
theorem length_one (c : UInt8) : lengthE [c] = if c.toNat = 48 then (0, 112) else readA 4096 [c] 0 := by
  unfold lengthE
  rw [List.getD_cons_zero]
  by_cases h : c = 48
  · rw [if_pos h, if_pos (by rw [h]; rfl)]
  · rw [if_neg h, if_neg (fun e : c.toNat = 48 => h (UInt8.toNat_inj.1 e))]
theorem length_more {num : Nat} (h1 : 1 ≤ num) (h2 : num ≤ 4096) (c : UInt8) : lengthE (decDigits num ++ [c]) = readA 4096 [c] num := by
  unfold lengthE
  obtain ⟨d, r, e, hd⟩ := dec_head h1
  have : ¬ (decDigits num ++ [c]).getD 0 48 = 48 := by
    rw [e, List.cons_append, List.getD_cons_zero]
    intro k
    exact hd (by rw [k]; rfl)
  rw [if_neg this, dec_read 4096 num [c] h2]
theorem len_ways {D : List UInt8} {k num : Nat} (h : Said D k num) (c : UInt8) (l : List UInt8) (hn : ¬ (0 < k ∧ c.toNat = 1)) :
    (lengthE (D ++ [c]) = (0, 112) ∧ lenR (c :: l) k num = (0, 0, 102)) ∨ ∃ m, lengthE (D ++ [c]) = (m, 0) ∧ lenR (c :: l) k num = lenR l (k + 1) m ∧ Said (D ++ [c]) (k + 1) m ∧ num < m := by
  rw [lenR, if_neg hn]
  by_cases g2 : c.toNat < 48 ∨ 57 < c.toNat ∨ (k = 0 ∧ c.toNat = 48)
  · left
    rw [if_pos g2]
    refine ⟨?_, rfl⟩
    rcases h with ⟨rfl, rfl, rfl⟩ | ⟨h0, h1, h2, rfl⟩
    · rw [List.nil_append, length_one]
      by_cases e : c.toNat = 48
      · rw [if_pos e]
      · rw [if_neg e, readA, if_pos (by omega)]
    · rw [length_more h1 h2, readA, if_pos (by omega)]
  · rw [if_neg g2]
    by_cases g3 : 4096 < 10 * num + (c.toNat - 48)
    · left
      rw [if_pos g3]
      refine ⟨?_, rfl⟩
      rcases h with ⟨rfl, rfl, rfl⟩ | ⟨h0, h1, h2, rfl⟩
      · omega
      · rw [length_more h1 h2, readA, if_neg (by omega), if_pos g3]
    · right
      rw [if_neg g3]
      have ec : c = UInt8.ofNat (48 + (c.toNat - 48)) := by
        apply UInt8.toNat_inj.1
        rw [byte_ofNat (by omega)]
        omega
      rcases h with ⟨rfl, rfl, rfl⟩ | ⟨h0, h1, h2, rfl⟩
      · refine ⟨10 * 0 + (c.toNat - 48), ?_, rfl, .inr ⟨by omega, by omega, by omega, ?_⟩, by omega⟩
        · rw [List.nil_append, length_one, if_neg (by omega), readA, if_neg (by omega), if_neg (by omega), readA]
        · rw [decDigits_one (by omega), List.nil_append, show 10 * 0 + (c.toNat - 48) = c.toNat - 48 by omega, ← ec]
      · refine ⟨10 * num + (c.toNat - 48), ?_, rfl, .inr ⟨by omega, by omega, by omega, ?_⟩, by omega⟩
        · rw [length_more h1 h2, readA, if_neg (by omega), if_neg g3, readA]
        · rw [dec_step (by omega), show (10 * num + (c.toNat - 48)) / 10 = num by omega, show (10 * num + (c.toNat - 48)) % 10 = c.toNat - 48 by omega, ← ec]
theorem one_text (s : ByteArray) {a : Nat} (h : a < s.size) : (s.extract a (a + 1) = ⟨#[1]⟩) ↔ (s[a]'h).toNat = 1 := by
  rw [one_ext s h]
  constructor
  · intro e
    have := congrArg (fun x : ByteArray => x.data.toList) e
    simp [mk] at this
    rw [this]
    rfl
  · intro e
    have : s[a]'h = 1 := UInt8.toNat_inj.1 e
    rw [this]
    rfl
theorem one_list : (⟨#[1]⟩ : ByteArray).toList = [1] := by decide +kernel
/-- The digits so far and one byte more. -/
theorem ext_more (s : ByteArray) (f k : Nat) (h : f + k < s.size) : (s.extract f (f + k + 1)).data.toList = (s.data.toList.drop f).take k ++ [s[f + k]'h] := by
  rw [ext_list, mk_list, show f + k + 1 - f = k + 1 by omega, List.take_add_one]
  congr 1
  have h' : k < (s.data.toList.drop f).length := by rw [List.length_drop, ← size_eq]; omega
  rw [List.getElem?_eq_getElem h', List.getElem_drop]
  rfl
set_option maxRecDepth 1000000 in
set_option maxHeartbeats 4000000 in
theorem length_any (b : Nat) (s : ByteArray) (f : Nat) (w : World) (hc : Cur w b s f) (hf : f ≤ s.size) (hs : s.size ≤ 1000000) :
    Calls Tryd.prog 27 #[.pointer (some ⟨b, 0, none⟩)] w fun e w' => But (fun j => j = b) w w' ∧
      (((lenR (s.data.toList.drop f) 0 0).2.2 = 0 ∧ e = .returned (.int .i64 ((lenR (s.data.toList.drop f) 0 0).1 : Int)) ∧ Cur w' b s (f + (lenR (s.data.toList.drop f) 0 0).2.1)) ∨ ((lenR (s.data.toList.drop f) 0 0).2.2 ≠ 0 ∧ e = gaveUp (lenR (s.data.toList.drop f) 0 0).2.2)) := by
  obtain ⟨N, B, E, hR⟩ : ∃ N B E, lenR (s.data.toList.drop f) 0 0 = (N, B, E) := ⟨_, _, _, rfl⟩
  rw [hR]
  dsimp only
  have hsm : s.size ≤ maxLen := by unfold maxLen; omega
  have c1 := hc.place
  go_enter Tryd.func27, Tryd.ntmps27
  go_wp2_with fail
  go_loopw [4] (fun i wr => ∃ k num a : Nat, i = .int .i64 (num : Int) ∧ a = f + k ∧ a ≤ s.size ∧ num ≤ 4096 ∧ Said ((s.data.toList.drop f).take k) k num ∧ lenR (s.data.toList.drop a) k num = (N, B, E) ∧ Cur wr b s a ∧ But (fun j => j = b) w wr) (fun i _ => 4096 - (RowKit.intOf i).toNat)
  case atStart => exact ⟨0, 0, f, rfl, rfl, hf, by omega, .inl ⟨rfl, rfl, rfl⟩, hR, hc, But.refl _ _⟩
  case round =>
    clear hR hc c1
    obtain ⟨k, num, a, rfl, ha, hk, hn, hd, hg, hc, HB⟩ := hrel
    by_cases hz : a < s.size
    · obtain ⟨a1, h1⟩ : ∃ a1, a + 1 = a1 := ⟨_, rfl⟩
      have F : ∀ w, Cur w b s a → Calls Tryd.prog 26 #[.pointer (some ⟨b, 0, none⟩), .int .i64 1] w fun e w' => e = .returned (.string (s.extract a a1)) ∧ Cur w' b s a1 ∧ But (fun j => j = b) w w' := fun w hc => h1 ▸ take_ok b s a 1 w hc (by omega) hsm
      rw [drop_byte s hz] at hg
      have H1 := one_text s hz
      rw [h1] at H1
      by_cases hq : 0 < k ∧ (s[a]'hz).toNat = 1
      · have t1 : (s.extract a a1).toList = [1] := by rw [H1.2 hq.2]; exact one_list
        have t2 : (0 : Int) < (num : Int) := by
          rcases hd with ⟨e, _⟩ | ⟨_, e, _⟩
          · omega
          · omega
        rw [lenR, if_pos hq] at hg
        simp only [Prod.mk.injEq] at hg
        have HG : Hid (num = N ∧ k + 1 = B ∧ 0 = E) := hg
        have HA : Hid (a1 = f + (k + 1)) := by show a1 = f + (k + 1); omega
        clear hg H1 hd hq h1 ha
        go_wp2_with fail
        refine (F _ hc).mono ?_
        rintro e w1 ⟨rfl, hc1, hb1⟩
        go_wp2_with fail
        go_ret
        obtain ⟨rfl, rfl, rfl⟩ := HG.out
        exact ⟨HB.trans hb1 (fun _ _ h => h), .inl ⟨rfl, rfl, by rw [← HA.out]; exact hc1⟩⟩
      · have hw := len_ways hd (s[a]'hz) (s.data.toList.drop (a + 1)) hq
        have hx := ext_more s f k (by omega)
        have G := fun w => readLength_any (s.extract f a1) w (by rw [size_eq, ext_list, mk_list, List.length_take, List.length_drop, ← size_eq]; omega)
        have ea : (s[f + k]'(by omega)) = s[a]'hz := by congr 1; omega
        rw [show f + k + 1 = a1 by omega, ea] at hx
        rw [hx] at G
        have t1 : ¬ ((s.extract a a1).toList = [1] ∧ 0 < num) := by
          rintro ⟨e1, e2⟩
          apply hq
          refine ⟨?_, H1.1 (bytes_ext (e1.trans one_list.symm))⟩
          rcases hd with ⟨_, e, _⟩ | ⟨e, _, _⟩
          · omega
          · exact e
        have b1 : (f : Int) ≤ (a1 : Int) := by omega
        have b2 : (a1 : Int) ≤ (s.size : Int) := by omega
        have H0 : Hid (a1 = a + 1 ∧ a = f + k ∧ (s.data.toList.drop f).take k ++ [s[a]'hz] = (s.data.toList.drop f).take (k + 1)) := by
          refine ⟨h1.symm, ha, ?_⟩
          rw [← hx, ext_list, mk_list]
          congr 1
          omega
        rcases hw with ⟨e1, e2⟩ | ⟨m, e1, e2, e3, e4⟩
        · rw [e2] at hg
          rw [e1] at G
          simp only [Prod.mk.injEq] at hg
          have HG : Hid (0 = N ∧ 0 = B ∧ 102 = E) := hg
          clear hg H1 hd hq h1 ha e1 e2 hx ea
          by_cases e1 : (s.extract a a1).toList = [1]
          · have e2 : ¬ (0 : Int) < (num : Int) := fun e => t1 ⟨e1, by omega⟩
            clear t1
            go_wp2_with fail
            refine (F _ hc).mono ?_
            rintro e w1 ⟨rfl, hc1, hb1⟩
            have c0 := hc1.text
            have c1 := hc1.place
            have HB1 := HB.trans hb1 (fun _ _ h => h)
            clear hb1 hc HB
            go_wp2_with fail
            go_quiet ((go_at_call 36; exact Calls.quiet_of_same (G _)))
            go_wp2_with fail
            obtain ⟨rfl, rfl, rfl⟩ := HG.out
            exact ⟨rfl, HB1.drewN _, .inr ⟨by decide, rfl⟩⟩
          · clear t1
            go_wp2_with fail
            refine (F _ hc).mono ?_
            rintro e w1 ⟨rfl, hc1, hb1⟩
            have c0 := hc1.text
            have c1 := hc1.place
            have HB1 := HB.trans hb1 (fun _ _ h => h)
            clear hb1 hc HB
            go_wp2_with fail
            go_quiet ((go_at_call 36; exact Calls.quiet_of_same (G _)))
            go_wp2_with fail
            obtain ⟨rfl, rfl, rfl⟩ := HG.out
            exact ⟨rfl, HB1.drewN _, .inr ⟨by decide, rfl⟩⟩
        · rw [e2, h1] at hg
          rw [e1] at G
          have HG : Hid (lenR (s.data.toList.drop a1) (k + 1) m = (N, B, E)) := hg
          have HD : Hid (Said ((s.data.toList.drop f).take (k + 1)) (k + 1) m) := by
            have := H0.out.2.2
            rw [this] at e3
            exact e3
          have hm : m ≤ 4096 := by
            rcases e3 with ⟨x, _⟩ | ⟨_, _, x, _⟩
            · omega
            · exact x
          clear hg H1 hd hq h1 ha e1 e2 e3 hx ea
          by_cases e1 : (s.extract a a1).toList = [1]
          · have e2 : ¬ (0 : Int) < (num : Int) := fun e => t1 ⟨e1, by omega⟩
            clear t1
            go_wp2_with fail
            refine (F _ hc).mono ?_
            rintro e w1 ⟨rfl, hc1, hb1⟩
            have c0 := hc1.text
            have c1 := hc1.place
            have HB1 := HB.trans hb1 (fun _ _ h => h)
            clear hb1 hc HB
            go_wp2_with fail
            go_quiet ((go_at_call 36; exact Calls.quiet_of_same (G _)))
            go_wp2_with fail
            go_roundw
            case rel => exact ⟨k + 1, m, a1, rfl, by have := H0.out.1; have := H0.out.2.1; omega, by omega, hm, HD.out, HG.out, hc1.drewN _, HB1.drewN _⟩
            case measure => simp [RowKit.intOf]; omega
          · clear t1
            go_wp2_with fail
            refine (F _ hc).mono ?_
            rintro e w1 ⟨rfl, hc1, hb1⟩
            have c0 := hc1.text
            have c1 := hc1.place
            have HB1 := HB.trans hb1 (fun _ _ h => h)
            clear hb1 hc HB
            go_wp2_with fail
            go_quiet ((go_at_call 36; exact Calls.quiet_of_same (G _)))
            go_wp2_with fail
            go_roundw
            case rel => exact ⟨k + 1, m, a1, rfl, by have := H0.out.1; have := H0.out.2.1; omega, by omega, hm, HD.out, HG.out, hc1.drewN _, HB1.drewN _⟩
            case measure => simp [RowKit.intOf]; omega
    · have F : ∀ w, Cur w b s a → Calls Tryd.prog 26 #[.pointer (some ⟨b, 0, none⟩), .int .i64 1] w fun e w' => e = gaveUp 100 ∧ ∃ m, w' = w.drewN m := fun w hc => take_short b s a 1 w hc (by omega) hk hsm
      have e0 : s.data.toList.drop a = [] := List.drop_eq_nil_of_le (by rw [← size_eq]; omega)
      rw [e0, lenR] at hg
      simp only [Prod.mk.injEq] at hg
      have HG : Hid (0 = N ∧ 0 = B ∧ 100 = E) := hg
      clear hg e0 hd ha
      go_wp2_with fail
      refine (F _ hc).mono ?_
      rintro e w1 ⟨rfl, m1, rfl⟩
      obtain ⟨rfl, rfl, rfl⟩ := HG.out
      exact ⟨rfl, HB.drewN _, .inr ⟨by decide, rfl⟩⟩
end Go.Proofs.YtcgojnofkbjinaaDoor
