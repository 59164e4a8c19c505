/-
  The fourteenth reference's DecodeReply: what every way wants, the ways that end early, the way of the word 9.
-/
import Derived.Test.YtdbkoflejimibaaGreatDoorJP
import Derived.Test.YtdbkoflejimibaaGreatDoorJI
namespace Go.Proofs.YtdbkoflejimibaaGreatDoor.PP.R
open Go.ChangeShapes Go.WideShapes Go.ChangeAt Go.RowKit Go.Lib

/-- The block of the result. -/
abbrev outR (w : World) : World := (w.alloc (.cells #[.int .i64 0, .int .i64 0, .string ⟨#[]⟩, .string ⟨#[]⟩, .int .i64 0, .int .i64 0, .string ⟨#[]⟩] 35))
theorem outR_below (w : World) : Below w.heap.size w (outR w) := (Below.refl _ w).alloc (Nat.le_refl _) _
theorem outR_size (w : World) : (outR w).heap.size = w.heap.size + 1 := by simp
theorem boxR_at (w : World) (t : ThP) : ThAt nm (w.alloc (.cells #[.int .i64 (t.2 0), .int .i64 (t.2 1), .string (t.1 2), .string (t.1 3), .int .i64 (t.2 4), .int .i64 (t.2 5), .string (t.1 6)] 35)) w.heap.size t := by
  refine ⟨fun j hj => ?_, fun j => by simp⟩
  rcases (show j = 0 ∨ j = 1 ∨ j = 2 ∨ j = 3 ∨ j = 4 ∨ j = 5 ∨ j = 6 by omega) with rfl | rfl | rfl | rfl | rfl | rfl | rfl <;> simp [cellT, nm]
theorem outR_at (w : World) : ThAt nm (outR w) w.heap.size (zeroT 0) := boxR_at w (zeroT 0)
/-- Where the reference stands once its own is made. -/
theorem rs_begin {w w1 : World} {fb : Nat} {v : Value} {F : List Fd} {y : List Int × Int × Int} (h : RSt (outR w).heap.size (fun j => (outR w).heap.size ≤ j) (outR w) w1 fb v F y) (t0 : ThP) : w.heap.size < w1.heap.size ∧ RS nm (w.heap.size + 1) (outR w) (w.heap.size + 1) (w1.alloc (.cells #[.int .i64 (t0.2 0), .int .i64 (t0.2 1), .string (t0.1 2), .string (t0.1 3), .int .i64 (t0.2 4), .int .i64 (t0.2 5), .string (t0.1 6)] 35)) fb w1.heap.size v F y t0 := by
  obtain ⟨u1, F1⟩ := h
  have hsz := outR_size w
  have sz : w.heap.size < w1.heap.size := by have := F1.but.size; omega
  refine ⟨sz, ?_⟩
  have bb : Below w1.heap.size w1 (w1.alloc (.cells #[.int .i64 (t0.2 0), .int .i64 (t0.2 1), .string (t0.1 2), .string (t0.1 3), .int .i64 (t0.2 4), .int .i64 (t0.2 5), .string (t0.1 6)] 35)) := (Below.refl _ w1).alloc (Nat.le_refl _) _
  have F2 := F1.still bb
  have lf := F1.lt
  rw [hsz] at F1 F2
  have lo1 := F1.lo
  refine ⟨⟨u1, F2.base ⟨by omega, by omega⟩ (fun g hg => ⟨(F2.own.lt g hg).1, by have := (F1.own.lt g hg).2; omega⟩), fun e => by have := (F1.own.lt _ e).2; omega⟩, boxR_at w1 t0, by omega, fun e => by have := (F1.ownv.lt _ e).2; omega, ⟨Nat.le_refl _, by omega⟩, ?_⟩
  have b2 : Below (w.heap.size + 1) (outR w) w1 := F1.but.below (by omega) (fun i h => h)
  exact b2.trans (bb.mono (by omega))
theorem rst_below {w w1 : World} {fb : Nat} {v : Value} {F : List Fd} {y : List Int × Int × Int} (h : RSt (outR w).heap.size (fun j => (outR w).heap.size ≤ j) (outR w) w1 fb v F y) : Below (w.heap.size + 1) (outR w) w1 := by
  obtain ⟨u1, F1⟩ := h
  have hsz := outR_size w
  rw [hsz] at F1
  exact F1.but.below (by omega) (fun i h => h)
theorem lo_size {w y : World} (h : Below (w.heap.size + 1) (outR w) y) : w.heap.size + 1 ≤ y.heap.size := by
  have := h.size
  have := outR_size w
  omega
set_option maxRecDepth 100000 in
set_option maxHeartbeats 8000000 in
theorem refDecode_read (s : ByteArray) (w : World) (hs : s.size ≤ 1000000) (hE : readE s.data.toList ≠ 0) :
    Calls Tryz.prog 8 #[.string s] w (DecOk s.data.toList w) := by
  have RD := fun w => refRead_any s w hs
  obtain ⟨E, hEE⟩ : ∃ E, readE s.data.toList = E := ⟨_, rfl⟩
  have HD : Hid (decT s.data.toList = (0, (E : Int))) := by show decT s.data.toList = _; unfold decT; rw [if_pos hE, hEE]
  have HRD : Hid (∀ w e w', RRead s.data.toList w e w' → (e = .returned (.tuple #[.pointer none, .int .i64 (E : Int)]) ∧ Below w.heap.size w w')) := fun w e w' h => by
    rcases h with ⟨_, h1, h2⟩ | ⟨h1, _⟩
    · rw [hEE] at h1; exact ⟨h1, h2⟩
    · exact absurd h1 hE
  have HN : Hid (E ≠ 0) := by show E ≠ 0; rw [← hEE]; exact hE
  have te : ((E : Int) == 0) = false := beq_false_of_ne (by have := HN.out; omega)
  clear hE hEE
  have B0 : Hid (Below w.heap.size w (outR w)) := outR_below w
  have C0 : Hid (ThAt nm (outR w) w.heap.size (zeroT 0)) := outR_at w
  go_enter Tryz.func8, Tryz.ntmps8
  go_wp2_with fail
  refine (RD _).mono ?_
  intro e w1 hrd
  obtain ⟨rfl, b1⟩ := HRD.out _ _ _ hrd
  have C1 : Hid (ThAt nm w1 w.heap.size (zeroT 0)) := C0.out.still b1
  have HB1 : Hid (Below w.heap.size w w1) := B0.out.trans (b1.mono B0.out.size)
  clear b1 RD hrd HRD
  obtain ⟨r0, r1, r2, r3, r4, r5, r6⟩ := ThAt.zero C1.out
  have z := C1.out.fz
  have P : Hid (ThAt nm (put0 w1 w.heap.size) w.heap.size (zeroT 0)) := put_at C1.out (zeroT 0)
  have PB : Hid (But (fun j => j = w.heap.size) w1 (put0 w1 w.heap.size)) := put_but w1 w.heap.size (zeroT 0)
  go_wp2_with fail
  have P' := P.out
  have PB' := PB.out
  unfold put0 at P' PB'
  clear P PB
  generalize hW9 : World.setCell _ ⟨w.heap.size, 6, none⟩ _ = W9 at *
  obtain ⟨p0, p1, p2, p3, p4, p5, p6⟩ := ThAt.zero P'
  refine bodyPost_ret (v := .tuple #[.agg #[.int .i64 0, .int .i64 0, .string ⟨#[]⟩, .string ⟨#[]⟩, .int .i64 0, .int .i64 0, .string ⟨#[]⟩], .int .i64 0, .int .i64 (E : Int)]) (by simp [results, Tryz.results8, go_sem, p0, p1, p2, p3, p4, p5, p6]) rfl ?_
  exact ⟨zeroT 0, by rw [HD.out]; rfl, zero_same (by rw [HD.out]; have := HN.out; show (E : Int) ≠ 0; omega), HB1.out.trans (PB'.below HB1.out.size (fun i e => by have e' : i = w.heap.size := e; omega))⟩
set_option maxHeartbeats 4000000 in
theorem refWord_any (k : Int) (h1 : 1 ≤ k) (h6 : k ≤ 6) (w : World) : Calls Tryz.prog 25 #[.int .i64 k] w fun e w' => e = .returned (.string (wordK k)) ∧ Below w.heap.size w w' := by
  have B : Hid (Below w.heap.size w (w.alloc (.cells #[.string ⟨#[]⟩, .string ⟨#[48]⟩, .string ⟨#[52]⟩, .string ⟨#[53]⟩, .string ⟨#[56]⟩, .string ⟨#[70]⟩, .string ⟨#[72]⟩] 92))) := (Below.refl _ w).alloc (Nat.le_refl _) _
  rcases six ⟨h1, h6⟩ with rfl | rfl | rfl | rfl | rfl | rfl
  all_goals
    clear h1 h6
    go_enter Tryz.func25, Tryz.ntmps25
    go_wp2_with fail
    go_ret
    exact ⟨rfl, B.out⟩
theorem word_is {tk : ByteArray} (h : kindOf tk ≠ 0) : tk = wordK (kindOf tk) := by
  unfold kindOf at *
  split at h
  · rename_i e; rw [if_pos e, e]; decide
  rename_i e1
  rw [if_neg e1]
  split at h
  · rename_i e; rw [if_pos e, e]; decide
  rename_i e2
  rw [if_neg e2]
  split at h
  · rename_i e; rw [if_pos e, e]; decide
  rename_i e3
  rw [if_neg e3]
  split at h
  · rename_i e; rw [if_pos e, e]; decide
  rename_i e4
  rw [if_neg e4]
  split at h
  · rename_i e; rw [if_pos e, e]; decide
  rename_i e5
  rw [if_neg e5]
  split at h
  · rename_i e; rw [if_pos e, e]; decide
  · exact absurd rfl h
theorem word_iff {sd : ByteArray} {k : Int} (h1 : 1 ≤ k) (h6 : k ≤ 6) : wordK k = sd ↔ kindOf sd = k := by
  constructor
  · rintro rfl
    exact kind_word ⟨h1, h6⟩
  · intro e
    have := word_is (tk := sd) (by omega)
    rw [e] at this
    exact this.symm
/-- The kind that was found among the first words. -/
def bestK (sd : ByteArray) (k : Int) : Int := if kindOf sd < k then kindOf sd else 0
theorem best_1 (sd : ByteArray) : bestK sd 1 = 0 := by
  have := kind_range sd
  unfold bestK
  split
  · omega
  · rfl
theorem best_7 (sd : ByteArray) : bestK sd 7 = kindOf sd := by
  have := kind_range sd
  unfold bestK
  rw [if_pos (by omega)]
theorem best_eq {sd : ByteArray} {k : Int} (h : kindOf sd = k) : bestK sd (k + 1) = k := by
  unfold bestK
  rw [if_pos (by omega)]
  exact h
theorem best_ne {sd : ByteArray} {k : Int} (h : kindOf sd ≠ k) : bestK sd (k + 1) = bestK sd k := by
  unfold bestK
  by_cases e : kindOf sd < k
  · rw [if_pos e, if_pos (by omega)]
  · rw [if_neg e, if_neg (by omega)]
theorem upd_upd (g : Nat → Int) (a b : Int) : upd (upd g 0 a) 0 b = upd g 0 b := by
  funext j
  unfold upd
  split <;> rfl
/-- The word of a report was told just if the form has no error behind it. -/
theorem said_err (l : List Fd) : said l ≠ noText ↔ (runS (x0F l) ((head3 ++ [rep1]).map Pl.want)).2.2 = 0 := by
  constructor
  · intro h
    have e : runS (x0F l) ((head3 ++ [rep1]).map Pl.want) = stepW (runS (x0F l) (head3.map Pl.want)) (150, .name) := rfl
    rw [e]
    unfold said gotN at h
    generalize runS (x0F l) (head3.map Pl.want) = x at *
    obtain ⟨L, a, er⟩ := x
    dsimp only at h
    unfold stepW askS
    unfold askV at h
    dsimp only
    by_cases he : er = 0
    · rw [if_pos he] at h ⊢
      cases hL : L 150 with
      | none =>
        rw [hL] at h
        exact absurd rfl h
      | some q =>
        obtain ⟨s, b⟩ := q
        rw [hL] at h
        dsimp only at h ⊢
        by_cases hv : nameVE s = 0
        · rw [if_pos hv]
        · rw [if_neg hv] at h
          exact absurd rfl h
    · rw [if_neg he] at h
      exact absurd rfl h
  · intro h
    exact vld_ne (said_run (q := []) h).2
/-- What was read of a report is what its body says. -/
theorem told7 {l : List Fd} {K : Int} (h7 : K ≠ 7) (h : (runS (x0F l) ((listK K).map Pl.want)).2.2 = 0) : Same (fil (tailK K) (runS (x0F l) ((head3 ++ [rep1]).map Pl.want)) ((fil head3 (x0F l) (zeroT 7)).2.1, upd (fil head3 (x0F l) (zeroT 7)).2.2 0 K)).2 (tolds (listK K) l (zeroT K)) := by
  rw [list_tail h7] at h
  have e1 := fil_told (l := l) (tailK K) (head3 ++ [rep1]) ((fil head3 (x0F l) (zeroT 7)).2.1, upd (fil head3 (x0F l) (zeroT 7)).2.2 0 K) (by rw [List.append_assoc]; exact h)
  have e3 : (fil head3 (x0F l) (zeroT 7)).2 = tolds head3 l (zeroT 7) := fil_told (l := l) head3 [] (zeroT 7) (by
    by_cases c : (runS (x0F l) (head3.map Pl.want)).2.2 = 0
    · exact c
    · rw [List.map_append, runS_append, runS_err c] at h
      exact absurd h c)
  rw [e1, list_tail h7, e3]
  rcases kinds K with ⟨n5, n6, _⟩ | e | e | e
  · unfold tailK
    rw [if_neg n5, if_neg n6]
    simp [Same, tolds, Pl.told, upd, zeroT]
  · rw [e, show tailK 5 = [⟨32, false, 4, 1, 1099511627776⟩, ⟨31, false, 5, 1, 1099511627776⟩] from rfl]
    simp [Same, tolds, Pl.told, upd, zeroT]
  · rw [e, show tailK 6 = [⟨19, true, 6, 0, 0⟩] from rfl]
    simp [Same, tolds, Pl.told, upd, zeroT]
  · exact absurd e h7
set_option maxRecDepth 100000 in
set_option maxHeartbeats 16000000 in
theorem refDecode_none (s : ByteArray) (w : World) (hs : s.size ≤ 1000000) (hE : readE s.data.toList = 0) (hk : textOf (fieldsL s.data.toList).1 35 ≠ ⟨#[56]⟩ ∧ textOf (fieldsL s.data.toList).1 35 ≠ ⟨#[57]⟩) :
    Calls Tryz.prog 8 #[.string s] w (DecOk s.data.toList w) := by
  have RD := fun w => refRead_any s w hs
  obtain ⟨_, ⟨V35, rest, hl⟩, hnd⟩ := read_head hE
  have h35 : textOf (fieldsL s.data.toList).1 35 = V35 := textOf_mem hnd (by rw [hl]; simp)
  have TS := text_small s.data.toList
  obtain ⟨F, hF⟩ : ∃ F, (fieldsL s.data.toList).1 = F := ⟨_, rfl⟩
  have hF35 : textOf F 35 = V35 := by rw [← hF]; exact h35
  rw [h35] at hk
  have HD : Hid (decT s.data.toList = (35, 120)) := by
    show decT s.data.toList = _
    unfold decT decE
    rw [if_neg (by omega), hF, hF35, if_neg hk.2, if_neg hk.1]
  have q1 : ¬ V35.toList = [56] := fun e => hk.1 ((bytes_iff V35 ⟨#[56]⟩).1 (e.trans (by decide +kernel)))
  have q2 : ¬ V35.toList = [57] := fun e => hk.2 ((bytes_iff V35 ⟨#[57]⟩).1 (e.trans (by decide +kernel)))
  have p1 : (V35.toList == [56]) = false := beq_false_of_ne q1
  have p2 : (V35.toList == [57]) = false := beq_false_of_ne q2
  have HRD : Hid (∀ w e w', RRead s.data.toList w e w' → ∃ fb v, e = .returned (.tuple #[.pointer (some ⟨fb, 0, none⟩), .int .i64 0]) ∧ RSt w.heap.size (fun j => w.heap.size ≤ j) w w' fb v F ([], 0, 0)) := fun w e w' h => by
    rcases h with ⟨h1, _⟩ | ⟨_, fb, v, h1, h2⟩
    · exact absurd hE h1
    · rw [hF] at h2; exact ⟨fb, v, h1, h2⟩
  rw [hF] at hl hnd TS
  have HND : Hid ((F.map Prod.fst).Nodup) := hnd
  have HTS : Hid (∀ t s, textO F t = some s → s.size ≤ 100000) := TS
  clear h35 hF hF35 hnd TS hE
  clear hk
  have B0 : Hid (Below w.heap.size w (outR w)) := outR_below w
  have C0 : Hid (ThAt nm (outR w) w.heap.size (zeroT 0)) := outR_at w
  go_enter Tryz.func8, Tryz.ntmps8
  go_wp2_with fail
  refine (RD _).mono ?_
  intro e w1 hrd
  obtain ⟨fb, v, rfl, hS1⟩ := HRD.out _ _ _ hrd
  have K1 := refKind_any hS1 (by simp) _ rest hl
  clear RD hrd HRD hS1
  go_wp2_with fail
  refine K1.mono ?_
  rintro e w2 ⟨rfl, hS2⟩
  clear K1
  have BQ : Below (w.heap.size + 1) (outR w) w2 := rst_below hS2
  have C2 : Hid (ThAt nm w2 w.heap.size (zeroT 0)) := C0.out.still (by rw [outR_size]; exact BQ)
  have HB2 : Hid (Below w.heap.size w w2) := B0.out.trans (BQ.mono (by omega))
  clear BQ hS2 HND HTS
  obtain ⟨r0, r1, r2, r3, r4, r5, r6⟩ := ThAt.zero C2.out
  have z := C2.out.fz
  have P : Hid (ThAt nm (put0 w2 w.heap.size) w.heap.size (zeroT 0)) := put_at C2.out (zeroT 0)
  have PB : Hid (But (fun j => j = w.heap.size) w2 (put0 w2 w.heap.size)) := put_but w2 w.heap.size (zeroT 0)
  go_wp2_with fail
  have P' := P.out
  have PB' := PB.out
  unfold put0 at P' PB'
  clear P PB
  generalize hW9 : World.setCell _ ⟨w.heap.size, 6, none⟩ _ = W9 at *
  obtain ⟨p0, p1, p2, p3, p4, p5, p6⟩ := ThAt.zero P'
  refine bodyPost_ret (v := .tuple #[.agg #[.int .i64 0, .int .i64 0, .string ⟨#[]⟩, .string ⟨#[]⟩, .int .i64 0, .int .i64 0, .string ⟨#[]⟩], .int .i64 35, .int .i64 120]) (by simp [results, Tryz.results8, go_sem, p0, p1, p2, p3, p4, p5, p6]) rfl ?_
  exact ⟨zeroT 0, by rw [HD.out]; rfl, zero_same (by rw [HD.out]; simp), HB2.out.trans (PB'.below HB2.out.size (fun i e => by have e' : i = w.heap.size := e; omega))⟩
set_option maxRecDepth 100000 in
set_option maxHeartbeats 16000000 in
theorem refDecode_9 (s : ByteArray) (w : World) (hs : s.size ≤ 1000000) (hE : readE s.data.toList = 0) (hk : textOf (fieldsL s.data.toList).1 35 = ⟨#[57]⟩) :
    Calls Tryz.prog 8 #[.string s] w (DecOk s.data.toList w) := by
  have RD := fun w => refRead_any s w hs
  obtain ⟨_, ⟨V35, rest, hl⟩, hnd⟩ := read_head hE
  have h35 : textOf (fieldsL s.data.toList).1 35 = V35 := textOf_mem hnd (by rw [hl]; simp)
  have TS := text_small s.data.toList
  obtain ⟨F, hF⟩ : ∃ F, (fieldsL s.data.toList).1 = F := ⟨_, rfl⟩
  have hF35 : textOf F 35 = V35 := by rw [← hF]; exact h35
  rw [h35] at hk
  have HDT : Hid (decT s.data.toList = doneE (runS (x0F F) ((listK 7).map Pl.want)) (F.map Prod.fst)) := by
    show decT s.data.toList = _
    unfold decT decE
    rw [if_neg (by omega), hF, hF35, if_pos hk]
  have HAK : Hid ((decT s.data.toList).2 = 0 → decA s.data.toList = tolds (listK 7) F (zeroT 7)) := fun h => by
    unfold decA decK
    rw [if_pos h, hF, hF35, if_pos hk]
  subst hk
  have hk : True := trivial
  have HRD : Hid (∀ w e w', RRead s.data.toList w e w' → ∃ fb v, e = .returned (.tuple #[.pointer (some ⟨fb, 0, none⟩), .int .i64 0]) ∧ RSt w.heap.size (fun j => w.heap.size ≤ j) w w' fb v F ([], 0, 0)) := fun w e w' h => by
    rcases h with ⟨h1, _⟩ | ⟨_, fb, v, h1, h2⟩
    · exact absurd hE h1
    · rw [hF] at h2; exact ⟨fb, v, h1, h2⟩
  rw [hF] at hl hnd TS
  have HND : Hid ((F.map Prod.fst).Nodup) := hnd
  have HTS : Hid (∀ t s, textO F t = some s → s.size ≤ 100000) := TS
  clear h35 hF hF35 hnd TS hE
  clear hk
  have B0 : Hid (Below w.heap.size w (outR w)) := outR_below w
  have C0 : Hid (ThAt nm (outR w) w.heap.size (zeroT 0)) := outR_at w
  go_enter Tryz.func8, Tryz.ntmps8
  go_wp2_with fail
  refine (RD _).mono ?_
  intro e w1 hrd
  obtain ⟨fb, v, rfl, hS1⟩ := HRD.out _ _ _ hrd
  have K1 := refKind_any hS1 (by simp) _ rest hl
  clear RD hrd HRD hS1
  go_wp2_with fail
  refine K1.mono ?_
  rintro e w2 ⟨rfl, hS2⟩
  clear K1
  have Q2 : Hid (RP nm (w.heap.size + 1) (outR w) (w.heap.size + 1) (w2.alloc (.cells #[.int .i64 7, .int .i64 0, .string ⟨#[]⟩, .string ⟨#[]⟩, .int .i64 0, .int .i64 0, .string ⟨#[]⟩] 35)) fb w2.heap.size v F [] (zeroT 7) []) := (rs_begin hS2 (zeroT 7)).2
  clear hS2
  have F0 := Q2.out.int (by decide) HTS.out 34 1 1 1099511627776 (by decide) rfl rfl
  go_wp2_with fail
  refine F0.mono ?_
  rintro e y0 ⟨x0, o0, rfl, c0, z0, k0, P0⟩
  have j0 : y0.cell? ⟨w2.heap.size, 0, none⟩ = some (.int .i64 7) := k0
  have R0 : Hid (RP nm (w.heap.size + 1) (outR w) (w.heap.size + 1) (y0.setCell ⟨w2.heap.size, 1, none⟩ (.int .i64 x0)) fb w2.heap.size v F [] (zeroT 7) [⟨34, false, 1, 1, 1099511627776⟩]) := P0
  clear F0 P0 k0 Q2
  have F1 := R0.out.name (by decide) HTS.out 11 2 0 0 (by decide) rfl rfl
  go_wp2_with fail
  refine F1.mono ?_
  rintro e y1 ⟨x1, o1, rfl, c1, z1, k1, P1⟩
  have j1 : y1.cell? ⟨w2.heap.size, 0, none⟩ = some (.int .i64 7) := k1
  have R1 : Hid (RP nm (w.heap.size + 1) (outR w) (w.heap.size + 1) (y1.setCell ⟨w2.heap.size, 2, none⟩ (.string x1)) fb w2.heap.size v F [] (zeroT 7) [⟨34, false, 1, 1, 1099511627776⟩, ⟨11, true, 2, 0, 0⟩]) := P1
  clear F1 P1 k1 R0 c0 z0 j0
  have DN := RP.done R1.out HND.out
  have HBR : Hid (Below (w.heap.size + 1) (outR w) (y1.setCell ⟨w2.heap.size, 2, none⟩ (.string x1))) := RS.below R1.out
  obtain ⟨DT, DE, hDD⟩ : ∃ DT DE, doneE (runS (x0F F) ((listK 7).map Pl.want)) (F.map Prod.fst) = (DT, DE) := ⟨_, _, rfl⟩
  have HY : Hid ((doneE (runS (x0F F) ((listK 7).map Pl.want)) (F.map Prod.fst)).2 = 0 → DE = 0) := fun h => by rw [hDD] at h; exact h
  have HYB : Hid (DE = 0 → (doneE (runS (x0F F) ((listK 7).map Pl.want)) (F.map Prod.fst)).2 = 0) := fun h => by rw [hDD]; exact h
  have e1 : doneE (runS (x0F F) ((([] : List Pl) ++ ([⟨34, false, 1, 1, 1099511627776⟩, ⟨11, true, 2, 0, 0⟩] : List Pl)).map Pl.want)) (F.map Prod.fst) = (DT, DE) := hDD
  rw [e1] at DN
  dsimp only at DN
  clear e1
  have HDD : Hid (decT s.data.toList = (DT, DE)) := by show decT s.data.toList = _; rw [HDT.out]; exact hDD
  clear hDD R1
  go_wp2_with fail
  refine DN.mono ?_
  rintro e w9 ⟨u, rfl, T9, hu, b9⟩
  have HB9 : Hid (Below (w.heap.size + 1) (outR w) w9) := HBR.out.trans (b9.mono (lo_size HBR.out))
  have C9 : Hid (ThAt nm w9 w.heap.size (zeroT 0)) := C0.out.still (by rw [outR_size]; exact HB9.out)
  have HBW : Hid (Below w.heap.size w w9) := B0.out.trans (HB9.out.mono (by omega))
  have HT9 : Hid (ThAt nm w9 w2.heap.size u) := T9
  have HU : Hid (u = (fil (listK 7) (x0F F) (zeroT 7)).2) := hu
  clear DN T9 hu b9 HBR HB9 c1 z1 j1
  by_cases hDE : DE = 0
  case neg =>
    have te : (DE == 0) = false := beq_false_of_ne hDE
    have HN : Hid (DE ≠ 0) := hDE
    clear hDE
    obtain ⟨r0, r1, r2, r3, r4, r5, r6⟩ := ThAt.zero C9.out
    have z := C9.out.fz
    have P : Hid (ThAt nm (put0 w9 w.heap.size) w.heap.size (zeroT 0)) := put_at C9.out (zeroT 0)
    have PB : Hid (But (fun j => j = w.heap.size) w9 (put0 w9 w.heap.size)) := put_but w9 w.heap.size (zeroT 0)
    go_wp2_with fail
    have P' := P.out
    have PB' := PB.out
    unfold put0 at P' PB'
    clear P PB
    generalize hW9 : World.setCell _ ⟨w.heap.size, 6, none⟩ _ = W9 at *
    obtain ⟨p0, p1, p2, p3, p4, p5, p6⟩ := ThAt.zero P'
    refine bodyPost_ret (v := .tuple #[.agg #[.int .i64 0, .int .i64 0, .string ⟨#[]⟩, .string ⟨#[]⟩, .int .i64 0, .int .i64 0, .string ⟨#[]⟩], .int .i64 DT, .int .i64 DE]) (by simp [results, Tryz.results8, go_sem, p0, p1, p2, p3, p4, p5, p6]) rfl ?_
    exact ⟨zeroT 0, by rw [HDD.out]; rfl, zero_same (by rw [HDD.out]; exact HN.out), HBW.out.trans (PB'.below HBW.out.size (fun i e => by have e' : i = w.heap.size := e; omega))⟩
  case pos =>
    have h0 : (decT s.data.toList).2 = 0 := by rw [HDD.out]; exact hDE
    have HSM : Hid (Same u (decA s.data.toList)) := by
      show Same u _
      rw [HAK.out h0, HU.out]
      have := fil_told (l := F) (listK 7) [] (zeroT 7) ((done_run (HYB.out hDE)).1)
      rw [show runS (x0F F) (([] : List Pl).map Pl.want) = x0F F from rfl] at this
      rw [this]
      exact Same.refl _
    have HZ : Hid (decT s.data.toList = (0, 0)) := (decT_zero h0).1
    clear h0
    subst hDE
    obtain ⟨r0, r1, r2, r3, r4, r5, r6⟩ := ThAt.zero C9.out
    have z := C9.out.fz
    obtain ⟨d0, d1, d2, d3, d4, d5, d6⟩ := ThAt.all HT9.out
    have P : Hid (ThAt nm (put7 w9 w.heap.size u) w.heap.size u) := put_at C9.out u
    have PB : Hid (But (fun j => j = w.heap.size) w9 (put7 w9 w.heap.size u)) := put_but w9 w.heap.size u
    go_wp2_with fail
    have P' := P.out
    have PB' := PB.out
    unfold put7 at P' PB'
    clear P PB
    generalize hW9 : World.setCell _ ⟨w.heap.size, 6, none⟩ _ = W9 at *
    obtain ⟨p0, p1, p2, p3, p4, p5, p6⟩ := ThAt.all P'
    refine bodyPost_ret (v := .tuple #[.agg #[.int .i64 (u.2 0), .int .i64 (u.2 1), .string (u.1 2), .string (u.1 3), .int .i64 (u.2 4), .int .i64 (u.2 5), .string (u.1 6)], .int .i64 0, .int .i64 0]) (by simp [results, Tryz.results8, go_sem, p0, p1, p2, p3, p4, p5, p6]) rfl ?_
    exact ⟨u, by rw [HZ.out]; rfl, HSM.out, HBW.out.trans (PB'.below HBW.out.size (fun i e => by have e' : i = w.heap.size := e; omega))⟩
end Go.Proofs.YtdbkoflejimibaaGreatDoor.PP.R
