/-
  The contract of the cursor's message: the body of the message that it reads, or it gives up.
-/
import Derived.Test.YtcgojnofkbjinaaDoorWireLen
import Derived.Test.YtcgojnofkbjinaaDoorWireTrail
import Derived.Test.YtcgojnofkbjinaaDoorTagFields
namespace Go.Proofs.YtcgojnofkbjinaaDoor
open Go.ChangeShapes Go.WideShapes Go.ChangeAt Go.RowKit Go.Lib

set_option maxRecDepth 1000000 in
set_option maxHeartbeats 4000000 in
theorem message_begin (b : Nat) (s : ByteArray) (w : World) (hc : Cur w b s 0) (hs : s.size ≤ 100000) (E : Nat) (hE : begR beginL s.data.toList = E) (h0 : E ≠ 0) :
    Calls Tryd.prog 16 #[.pointer (some ⟨b, 0, none⟩)] w fun e w' => But (fun j => j = b) w w' ∧ e = gaveUp E := by
  have F := beginning_any b s w hc (by unfold maxLen; omega)
  rw [hE] at F
  have F1 : Calls Tryd.prog 25 #[.pointer (some ⟨b, 0, none⟩)] w fun e w' => But (fun j => j = b) w w' ∧ e = gaveUp E := F.mono (by
    rintro e w' ⟨hb, ⟨h, _⟩ | ⟨_, h⟩⟩
    · exact absurd h h0
    · exact ⟨hb, h⟩)
  clear F hE h0
  go_enter Tryd.func16, Tryd.ntmps16
  go_wp2_with fail
  refine F1.mono ?_
  rintro e w1 ⟨hb, rfl⟩
  exact ⟨rfl, hb, rfl⟩
/-- The cursor passes the beginning. -/
theorem begin_ok (b : Nat) (s : ByteArray) (w : World) (hc : Cur w b s 0) (hs : s.size ≤ 100000) (hE : begR beginL s.data.toList = 0) :
    Calls Tryd.prog 25 #[.pointer (some ⟨b, 0, none⟩)] w fun e w' => e = .returned (.tuple #[]) ∧ But (fun j => j = b) w w' ∧ Cur w' b s 12 := by
  refine (beginning_any b s w hc (by unfold maxLen; omega)).mono ?_
  rintro e w' ⟨hb, ⟨_, h1, h2⟩ | ⟨h, _⟩⟩
  · exact ⟨h1, hb, h2⟩
  · exact absurd hE h
set_option maxRecDepth 1000000 in
set_option maxHeartbeats 4000000 in
theorem message_length (b : Nat) (s : ByteArray) (w : World) (hc : Cur w b s 0) (hs : s.size ≤ 100000) (hE : begR beginL s.data.toList = 0) (h12 : 12 ≤ s.size) (E : Nat) (hL : (lenR (s.data.toList.drop 12) 0 0).2.2 = E) (h0 : E ≠ 0) :
    Calls Tryd.prog 16 #[.pointer (some ⟨b, 0, none⟩)] w fun e w' => But (fun j => j = b) w w' ∧ e = gaveUp E := by
  have F1 := begin_ok b s w hc hs hE
  have F2 : ∀ w, Cur w b s 12 → Calls Tryd.prog 27 #[.pointer (some ⟨b, 0, none⟩)] w fun e w' => But (fun j => j = b) w w' ∧ e = gaveUp E := fun w hc => (length_any b s 12 w hc h12 (by omega)).mono (by
    rw [hL]
    rintro e w' ⟨hb, ⟨h, _⟩ | ⟨_, h⟩⟩
    · exact absurd h h0
    · exact ⟨hb, h⟩)
  clear hE h0 hL
  go_enter Tryd.func16, Tryd.ntmps16
  go_wp2_with fail
  refine F1.mono ?_
  rintro e w1 ⟨rfl, hb, hc1⟩
  go_wp2_with fail
  refine (F2 _ hc1).mono ?_
  rintro e w2 ⟨hb2, rfl⟩
  exact ⟨rfl, hb.trans hb2 (fun _ _ h => h), rfl⟩
/-- The cursor reads the length. -/
theorem length_ok (b : Nat) (s : ByteArray) (w : World) (hc : Cur w b s 12) (hs : s.size ≤ 100000) (h12 : 12 ≤ s.size) (N p : Nat) (hL : lenR (s.data.toList.drop 12) 0 0 = (N, p, 0)) :
    Calls Tryd.prog 27 #[.pointer (some ⟨b, 0, none⟩)] w fun e w' => e = .returned (.int .i64 (N : Int)) ∧ But (fun j => j = b) w w' ∧ Cur w' b s (12 + p) := by
  refine (length_any b s 12 w hc h12 (by omega)).mono ?_
  rw [hL]
  rintro e w' ⟨hb, ⟨_, h1, h2⟩ | ⟨h, _⟩⟩
  · exact ⟨h1, hb, h2⟩
  · exact absurd rfl h
set_option maxRecDepth 1000000 in
set_option maxHeartbeats 4000000 in
theorem message_short (b : Nat) (s : ByteArray) (w : World) (hc : Cur w b s 0) (hs : s.size ≤ 100000) (hE : begR beginL s.data.toList = 0) (h12 : 12 ≤ s.size) (N p : Nat) (hL : lenR (s.data.toList.drop 12) 0 0 = (N, p, 0)) (hp : 12 + p ≤ s.size) (h : s.size < 12 + p + N) :
    Calls Tryd.prog 16 #[.pointer (some ⟨b, 0, none⟩)] w fun e w' => But (fun j => j = b) w w' ∧ e = gaveUp 100 := by
  have F1 := begin_ok b s w hc hs hE
  have F2 := fun w hc => length_ok b s w hc hs h12 N p hL
  have F3 := fun w hc => take_short b s (12 + p) N w hc (by omega) hp (by unfold maxLen; omega)
  clear hE hL
  go_enter Tryd.func16, Tryd.ntmps16
  go_wp2_with fail
  refine F1.mono ?_
  rintro e w1 ⟨rfl, hb, hc1⟩
  go_wp2_with fail
  refine (F2 _ hc1).mono ?_
  rintro e w2 ⟨rfl, hb2, hc2⟩
  go_wp2_with fail
  refine (F3 _ hc2).mono ?_
  rintro e w3 ⟨rfl, m, rfl⟩
  exact ⟨rfl, (hb.trans hb2 (fun _ _ h => h)).drewN _, rfl⟩
set_option maxRecDepth 1000000 in
set_option maxHeartbeats 4000000 in
theorem message_short7 (b : Nat) (s : ByteArray) (w : World) (hc : Cur w b s 0) (hs : s.size ≤ 100000) (hE : begR beginL s.data.toList = 0) (h12 : 12 ≤ s.size) (N p p1 p2 : Nat) (hL : lenR (s.data.toList.drop 12) 0 0 = (N, p, 0)) (hp1 : 12 + p = p1) (hp2 : p1 + N = p2) (hp : p2 ≤ s.size) (h : s.size < p2 + 7) :
    Calls Tryd.prog 16 #[.pointer (some ⟨b, 0, none⟩)] w fun e w' => But (fun j => j = b) w w' ∧ e = gaveUp 100 := by
  have F1 := begin_ok b s w hc hs hE
  have F2 := fun w hc => length_ok b s w hc hs h12 N p hL
  rw [hp1] at F2
  have F3 := fun w hc => take_ok b s p1 N w hc (by omega) (by unfold maxLen; omega)
  rw [hp2] at F3
  have F4 : ∀ w, Cur w b s p2 → Calls Tryd.prog 26 #[.pointer (some ⟨b, 0, none⟩), .int .i64 7] w fun e w' => e = gaveUp 100 ∧ ∃ m, w' = w.drewN m := fun w hc => take_short b s p2 7 w hc (by omega) hp (by unfold maxLen; omega)
  have b1 : (0 : Int) ≤ (p2 : Int) := by omega
  have b2 : (p2 : Int) ≤ (s.size : Int) := by omega
  clear hE hL hp1 hp2
  go_enter Tryd.func16, Tryd.ntmps16
  go_wp2_with fail
  refine F1.mono ?_
  rintro e w1 ⟨rfl, hb, hc1⟩
  go_wp2_with fail
  refine (F2 _ hc1).mono ?_
  rintro e w2 ⟨rfl, hb2, hc2⟩
  go_wp2_with fail
  refine (F3 _ hc2).mono ?_
  rintro e w3 ⟨rfl, hc3, hb3⟩
  have c0 := hc3.text
  have c1 := hc3.place
  have HB := (hb.trans hb2 (fun _ _ h => h)).trans hb3 (fun _ _ h => h)
  clear hb hb2 hb3 hc1 hc2 F1 F2 F3
  go_wp2_with fail
  go_quiet (fail)
  go_wp2_with fail
  refine (F4 _ (hc3.drewN _)).mono ?_
  rintro e w4 ⟨rfl, m, rfl⟩
  exact ⟨rfl, (HB.drewN _).drewN _, rfl⟩
set_option maxRecDepth 1000000 in
set_option maxHeartbeats 4000000 in
theorem message_sum (b : Nat) (s : ByteArray) (w : World) (hc : Cur w b s 0) (hs : s.size ≤ 100000) (hE : begR beginL s.data.toList = 0) (h12 : 12 ≤ s.size) (N p p1 p2 p3 : Nat) (hL : lenR (s.data.toList.drop 12) 0 0 = (N, p, 0)) (hp1 : 12 + p = p1) (hp2 : p1 + N = p2) (hp3 : p2 + 7 = p3) (hp : p3 ≤ s.size) (T : ByteArray) (hT : mk (trailL (s.extract 0 p2).data.toList) = T) (h : s.extract p2 p3 ≠ T) :
    Calls Tryd.prog 16 #[.pointer (some ⟨b, 0, none⟩)] w fun e w' => But (fun j => j = b) w w' ∧ e = gaveUp 103 := by
  have F1 := begin_ok b s w hc hs hE
  have F2 := fun w hc => length_ok b s w hc hs h12 N p hL
  rw [hp1] at F2
  have F3 := fun w hc => take_ok b s p1 N w hc (by omega) (by unfold maxLen; omega)
  rw [hp2] at F3
  have F4 : ∀ w, Cur w b s p2 → Calls Tryd.prog 26 #[.pointer (some ⟨b, 0, none⟩), .int .i64 7] w fun e w' => e = .returned (.string (s.extract p2 p3)) ∧ Cur w' b s p3 ∧ But (fun j => j = b) w w' := fun w hc => hp3 ▸ take_ok b s p2 7 w hc (by omega) (by unfold maxLen; omega)
  have F5 := fun w => trailer_any (s.extract 0 p2) w (by rw [size_eq, ext_list, mk_list, List.length_take, List.length_drop, ← size_eq]; unfold maxLen; omega)
  have b1 : (0 : Int) ≤ (p2 : Int) := by omega
  have b2 : (p2 : Int) ≤ (s.size : Int) := by omega
  rw [hT] at F5
  have t1 : ((s.extract p2 p3).toList == T.toList) = false := by rw [beq_bytes]; exact decide_eq_false h
  clear hE hL hp1 hp2 hp3 hT h
  go_enter Tryd.func16, Tryd.ntmps16
  go_wp2_with fail
  refine F1.mono ?_
  rintro e w1 ⟨rfl, hb, hc1⟩
  go_wp2_with fail
  refine (F2 _ hc1).mono ?_
  rintro e w2 ⟨rfl, hb2, hc2⟩
  go_wp2_with fail
  refine (F3 _ hc2).mono ?_
  rintro e w3 ⟨rfl, hc3, hb3⟩
  have c0 := hc3.text
  have c1 := hc3.place
  have HB := (hb.trans hb2 (fun _ _ h => h)).trans hb3 (fun _ _ h => h)
  clear hb hb2 hb3 hc1 hc2 F1 F2 F3
  go_wp2_with fail
  go_quiet (fail)
  go_wp2_with fail
  refine (F4 _ (hc3.drewN _)).mono ?_
  rintro e w4 ⟨rfl, hc4, hb4⟩
  have HB4 := (HB.drewN _).trans hb4 (fun _ _ h => h)
  clear hb4 hc3 c0 c1 HB F4
  go_wp2_with fail
  refine (F5 _).mono ?_
  rintro e w5 ⟨rfl, hb5⟩
  have HB5 := HB4.trans (But.of_below (S := fun j => j = b) hb5) (fun _ _ h => h)
  have hc5 := hc4.still hb5
  clear hb5 hc4 HB4 F5
  go_wp2_with fail
  exact ⟨rfl, HB5, rfl⟩
set_option maxRecDepth 1000000 in
set_option maxHeartbeats 4000000 in
theorem message_fields (b : Nat) (s : ByteArray) (w : World) (hc : Cur w b s 0) (hs : s.size ≤ 100000) (hE : begR beginL s.data.toList = 0) (h12 : 12 ≤ s.size) (N p p1 p2 p3 : Nat) (hL : lenR (s.data.toList.drop 12) 0 0 = (N, p, 0)) (hp1 : 12 + p = p1) (hp2 : p1 + N = p2) (hp3 : p2 + 7 = p3) (hp : p3 ≤ s.size) (T : ByteArray) (hT : mk (trailL (s.extract 0 p2).data.toList) = T) (h : s.extract p2 p3 = T) (E : Nat) (hF : (fieldsL (s.extract p1 p2).data.toList).2.2 = E) (h0 : E ≠ 0) :
    Calls Tryd.prog 16 #[.pointer (some ⟨b, 0, none⟩)] w fun e w' => But (fun j => j = b) w w' ∧ e = gaveUp E := by
  have F1 := begin_ok b s w hc hs hE
  have F2 := fun w hc => length_ok b s w hc hs h12 N p hL
  rw [hp1] at F2
  have F3 := fun w hc => take_ok b s p1 N w hc (by omega) (by unfold maxLen; omega)
  rw [hp2] at F3
  have F4 : ∀ w, Cur w b s p2 → Calls Tryd.prog 26 #[.pointer (some ⟨b, 0, none⟩), .int .i64 7] w fun e w' => e = .returned (.string (s.extract p2 p3)) ∧ Cur w' b s p3 ∧ But (fun j => j = b) w w' := fun w hc => hp3 ▸ take_ok b s p2 7 w hc (by omega) (by unfold maxLen; omega)
  have F5 := fun w => trailer_any (s.extract 0 p2) w (by rw [size_eq, ext_list, mk_list, List.length_take, List.length_drop, ← size_eq]; unfold maxLen; omega)
  have b1 : (0 : Int) ≤ (p2 : Int) := by omega
  have b2 : (p2 : Int) ≤ (s.size : Int) := by omega
  have F6 := fun w => fields_any (s.extract p1 p2) w (by rw [size_eq, ext_list, mk_list, List.length_take, List.length_drop, ← size_eq]; omega)
  rw [hT] at F5
  rw [hF] at F6
  have t1 : ((s.extract p2 p3).toList == T.toList) = true := by rw [beq_bytes]; exact decide_eq_true h
  have t2 : ((E : Int) == 0) = false := beq_false_of_ne (by omega)
  generalize (fieldsL (s.extract p1 p2).data.toList).2.1 = A at F6
  generalize (fieldsL (s.extract p1 p2).data.toList).1 = L at F6
  clear hE hL hp1 hp2 hp3 hT h hF h0
  go_enter Tryd.func16, Tryd.ntmps16
  go_wp2_with fail
  refine F1.mono ?_
  rintro e w1 ⟨rfl, hb, hc1⟩
  go_wp2_with fail
  refine (F2 _ hc1).mono ?_
  rintro e w2 ⟨rfl, hb2, hc2⟩
  go_wp2_with fail
  refine (F3 _ hc2).mono ?_
  rintro e w3 ⟨rfl, hc3, hb3⟩
  have c0 := hc3.text
  have c1 := hc3.place
  have HB := (hb.trans hb2 (fun _ _ h => h)).trans hb3 (fun _ _ h => h)
  clear hb hb2 hb3 hc1 hc2 F1 F2 F3
  go_wp2_with fail
  go_quiet (fail)
  go_wp2_with fail
  refine (F4 _ (hc3.drewN _)).mono ?_
  rintro e w4 ⟨rfl, hc4, hb4⟩
  have HB4 := (HB.drewN _).trans hb4 (fun _ _ h => h)
  clear hb4 hc3 c0 c1 HB F4
  go_wp2_with fail
  refine (F5 _).mono ?_
  rintro e w5 ⟨rfl, hb5⟩
  have HB5 := HB4.trans (But.of_below (S := fun j => j = b) hb5) (fun _ _ h => h)
  have hc5 := hc4.still hb5
  clear hb5 hc4 HB4 F5
  go_wp2_with fail
  refine (F6 _).mono ?_
  rintro e w6 ⟨v, rfl, hg⟩
  have HB6 := HB5.trans (But.of_below (S := fun j => j = b) hg.below) (fun _ _ h => h)
  clear hg HB5 hc5 F6
  go_wp2_with fail
  exact ⟨rfl, HB6, rfl⟩
set_option maxRecDepth 1000000 in
set_option maxHeartbeats 4000000 in
theorem message_ok (b : Nat) (s : ByteArray) (w : World) (hc : Cur w b s 0) (hs : s.size ≤ 100000) (hE : begR beginL s.data.toList = 0) (h12 : 12 ≤ s.size) (N p p1 p2 p3 : Nat) (hL : lenR (s.data.toList.drop 12) 0 0 = (N, p, 0)) (hp1 : 12 + p = p1) (hp2 : p1 + N = p2) (hp3 : p2 + 7 = p3) (hp : p3 ≤ s.size) (T : ByteArray) (hT : mk (trailL (s.extract 0 p2).data.toList) = T) (h : s.extract p2 p3 = T) (hF : (fieldsL (s.extract p1 p2).data.toList).2.2 = 0) :
    Calls Tryd.prog 16 #[.pointer (some ⟨b, 0, none⟩)] w fun e w' => But (fun j => j = b) w w' ∧ e = .returned (.string (s.extract p1 p2)) ∧ Cur w' b s p3 := by
  have F1 := begin_ok b s w hc hs hE
  have F2 := fun w hc => length_ok b s w hc hs h12 N p hL
  rw [hp1] at F2
  have F3 := fun w hc => take_ok b s p1 N w hc (by omega) (by unfold maxLen; omega)
  rw [hp2] at F3
  have F4 : ∀ w, Cur w b s p2 → Calls Tryd.prog 26 #[.pointer (some ⟨b, 0, none⟩), .int .i64 7] w fun e w' => e = .returned (.string (s.extract p2 p3)) ∧ Cur w' b s p3 ∧ But (fun j => j = b) w w' := fun w hc => hp3 ▸ take_ok b s p2 7 w hc (by omega) (by unfold maxLen; omega)
  have F5 := fun w => trailer_any (s.extract 0 p2) w (by rw [size_eq, ext_list, mk_list, List.length_take, List.length_drop, ← size_eq]; unfold maxLen; omega)
  have b1 : (0 : Int) ≤ (p2 : Int) := by omega
  have b2 : (p2 : Int) ≤ (s.size : Int) := by omega
  have hz : (s.extract p1 p2).size ≤ 1000000 := by rw [size_eq, ext_list, mk_list, List.length_take, List.length_drop, ← size_eq]; omega
  have F6 := fun w => fields_any (s.extract p1 p2) w hz
  have F7 := fun w => clone_any (s.extract p1 p2) w (by omega)
  rw [hT] at F5
  rw [hF] at F6
  have t1 : ((s.extract p2 p3).toList == T.toList) = true := by rw [beq_bytes]; exact decide_eq_true h
  generalize (fieldsL (s.extract p1 p2).data.toList).2.1 = A at F6
  generalize (fieldsL (s.extract p1 p2).data.toList).1 = L at F6
  clear hE hL hp1 hp2 hp3 hT h hF hz
  go_enter Tryd.func16, Tryd.ntmps16
  go_wp2_with fail
  refine F1.mono ?_
  rintro e w1 ⟨rfl, hb, hc1⟩
  go_wp2_with fail
  refine (F2 _ hc1).mono ?_
  rintro e w2 ⟨rfl, hb2, hc2⟩
  go_wp2_with fail
  refine (F3 _ hc2).mono ?_
  rintro e w3 ⟨rfl, hc3, hb3⟩
  have c0 := hc3.text
  have c1 := hc3.place
  have HB := (hb.trans hb2 (fun _ _ h => h)).trans hb3 (fun _ _ h => h)
  clear hb hb2 hb3 hc1 hc2 F1 F2 F3
  go_wp2_with fail
  go_quiet (fail)
  go_wp2_with fail
  refine (F4 _ (hc3.drewN _)).mono ?_
  rintro e w4 ⟨rfl, hc4, hb4⟩
  have HB4 := (HB.drewN _).trans hb4 (fun _ _ h => h)
  clear hb4 hc3 c0 c1 HB F4
  go_wp2_with fail
  refine (F5 _).mono ?_
  rintro e w5 ⟨rfl, hb5⟩
  have HB5 := HB4.trans (But.of_below (S := fun j => j = b) hb5) (fun _ _ h => h)
  have hc5 := hc4.still hb5
  clear hb5 hc4 HB4 F5
  go_wp2_with fail
  refine (F6 _).mono ?_
  rintro e w6 ⟨v, rfl, hg⟩
  have HB6 := HB5.trans (But.of_below (S := fun j => j = b) hg.below) (fun _ _ h => h)
  have hc6 := hc5.still hg.below
  clear hg HB5 hc5 F6
  go_wp2_with fail
  refine (F7 _).mono ?_
  rintro e w7 ⟨rfl, hb7⟩
  have HB7 := HB6.trans (But.of_below (S := fun j => j = b) hb7) (fun _ _ h => h)
  have hc7 := hc6.still hb7
  clear hb7 HB6 hc6 F7
  go_wp2_with fail
  go_ret
  exact ⟨HB7, rfl, hc7⟩
end Go.Proofs.YtcgojnofkbjinaaDoor
