/-
  The contract of ask's Decode, for every text.
-/
import Derived.Test.YtepkmbpadhfbmaaGreatDoorGH
namespace Go.Proofs.YtepkmbpadhfbmaaGreatDoor
open Go.ChangeShapes Go.WideShapes Go.ChangeAt Go.RowKit Go.Lib

/-- A block that holds an ask and may be written. -/
def CelA (w : World) (r : Nat) (k : Int) (i t c s : ByteArray) (sd q p al st en ra sh : Int) (cv : Value) : Prop := AskAt w r k i t c s sd q p al st en ra sh cv ∧ ∀ j, w.frozen? ⟨r, j, none⟩ = false
theorem CelA.box (w : World) (k : Int) (i t c s : ByteArray) (sd q p al st en ra sh : Int) (cv : Value) : CelA (boxA w k i t c s sd q p al st en ra sh cv) w.heap.size k i t c s sd q p al st en ra sh cv := ⟨AskAt.box w k i t c s sd q p al st en ra sh cv, fun j => by simp⟩
theorem CelA.but {w w' : World} {r : Nat} {S : Nat → Prop} {k : Int} {i t c s : ByteArray} {sd q p al st en ra sh : Int} {cv : Value} (h : CelA w r k i t c s sd q p al st en ra sh cv) (hB : But S w w') (hS : ¬ S r) : CelA w' r k i t c s sd q p al st en ra sh cv := by
  obtain ⟨h, f⟩ := h
  have lb := h.lt
  obtain ⟨d0, d1, d2, d3, d4, d5, d6, d7, d8, d9, d10, d11, d12, d13⟩ := h
  exact ⟨⟨(hB.cell lb hS).trans d0, (hB.cell lb hS).trans d1, (hB.cell lb hS).trans d2, (hB.cell lb hS).trans d3, (hB.cell lb hS).trans d4, (hB.cell lb hS).trans d5, (hB.cell lb hS).trans d6, (hB.cell lb hS).trans d7, (hB.cell lb hS).trans d8, (hB.cell lb hS).trans d9, (hB.cell lb hS).trans d10, (hB.cell lb hS).trans d11, (hB.cell lb hS).trans d12, (hB.cell lb hS).trans d13⟩, fun j => (hB.frozen lb hS).trans (f j)⟩
theorem CelA.still {w w' : World} {r : Nat} {k : Int} {i t c s : ByteArray} {sd q p al st en ra sh : Int} {cv : Value} (h : CelA w r k i t c s sd q p al st en ra sh cv) (hB : Below w.heap.size w w') : CelA w' r k i t c s sd q p al st en ra sh cv := h.but (But.of_below (S := fun _ => False) hB) id
theorem CelA.put {w : World} {r : Nat} {k' : Int} {i' t' c' s' : ByteArray} {sd' q' p' al' st' en' ra' sh' : Int} {cv' : Value} (h : CelA w r k' i' t' c' s' sd' q' p' al' st' en' ra' sh' cv') (k : Int) (i t c s : ByteArray) (sd q p al st en ra sh : Int) (cv : Value) : CelA (put14 w r k i t c s sd q p al st en ra sh cv) r k i t c s sd q p al st en ra sh cv :=
  ⟨put_at h.1 k i t c s sd q p al st en ra sh cv, fun j => by unfold put14; simp only [World.frozen?_setCell]; exact h.2 j⟩
theorem done_any {n0 : Nat} {w : World} {fb bm n : Nat} {tv : Value} {tags : List Int} {x : StP} (h : Frm n0 w fb bm n tv tags x.1 x.2.1 x.2.2) (hr : ∀ t ∈ tags, -9223372036854775808 ≤ t ∧ t ≤ 9223372036854775807) :
    Calls Tryz.prog 33 #[.pointer (some ⟨fb, 0, none⟩)] w fun e w' => e = .returned (.tuple #[.int .i64 (doneE x tags).1, .int .i64 (doneE x tags).2]) ∧ Below w.heap.size w w' := by
  unfold doneE
  by_cases e : x.2.2 = 0
  · rw [if_pos e]
    rw [e] at h
    exact (done_ok h hr).mono fun e w' ⟨he, hw⟩ => ⟨he, by rw [hw]; exact Below.refl _ _⟩
  · rw [if_neg e]
    exact done_err h e
/-- What Decode answers of a text. -/
def DecOk (l : List UInt8) (w : World) (e : Ending) (w' : World) : Prop := ∃ k i t c s sd q p al st en ra sh a d cz, e = .returned (.tuple #[.agg #[.int .i64 k, .string i, .string t, .string c, .string s, .int .i64 sd, .int .i64 q, .int .i64 p, .int .i64 al, .int .i64 st, .int .i64 en, .int .i64 ra, .int .i64 sh, .slice a cz.length d], .int .i64 (decT l).1, .int .i64 (decT l).2]) ∧ ReadAs (decA l) k i t c s sd q p al st en ra sh cz ∧ (∃ base, w.heap.size ≤ base ∧ w'.ownsRow base 3 1 (.slice a cz.length d) cz.length (its cz)) ∧ Below w.heap.size w w'
theorem zero_as {l : List UInt8} (h : (decT l).2 ≠ 0) : ReadAs (decA l) 0 ⟨#[]⟩ ⟨#[]⟩ ⟨#[]⟩ ⟨#[]⟩ 0 0 0 0 0 0 0 0 [] := by
  have e : decA l = zeroA := if_neg h
  rw [e]
  exact ⟨rfl, rfl⟩
set_option maxHeartbeats 8000000 in
theorem decode_read (s : ByteArray) (w : World) (hs : s.size ≤ 1000000) (hE : readE s.data.toList ≠ 0) :
    Calls Tryz.prog 12 #[.string s] w (DecOk s.data.toList w) := by
  have RD := fun w => read_any s w hs
  obtain ⟨E, hEE⟩ : ∃ E, readE s.data.toList = E := ⟨_, rfl⟩
  have HD : Hid (decT s.data.toList = (0, (E : Int))) := by show decT s.data.toList = _; unfold decT; rw [if_pos hE, hEE]
  rw [hEE] at RD hE
  have te : ((E : Int) == 0) = false := beq_false_of_ne (by omega)
  have HE : Hid (E ≠ 0) := hE
  clear hE hEE
  have B0 : Hid (Below w.heap.size w (w.alloc (.cells #[.int .i64 0, .string ⟨#[]⟩, .string ⟨#[]⟩, .string ⟨#[]⟩, .string ⟨#[]⟩, .int .i64 0, .int .i64 0, .int .i64 0, .int .i64 0, .int .i64 0, .int .i64 0, .int .i64 0, .int .i64 0, (.slice none 0 0)] 24))) := (Below.refl _ w).alloc (Nat.le_refl _) _
  have C0 : Hid (CelA (w.alloc (.cells #[.int .i64 0, .string ⟨#[]⟩, .string ⟨#[]⟩, .string ⟨#[]⟩, .string ⟨#[]⟩, .int .i64 0, .int .i64 0, .int .i64 0, .int .i64 0, .int .i64 0, .int .i64 0, .int .i64 0, .int .i64 0, (.slice none 0 0)] 24)) w.heap.size 0 ⟨#[]⟩ ⟨#[]⟩ ⟨#[]⟩ ⟨#[]⟩ 0 0 0 0 0 0 0 0 (.slice none 0 0)) := CelA.box w 0 ⟨#[]⟩ ⟨#[]⟩ ⟨#[]⟩ ⟨#[]⟩ 0 0 0 0 0 0 0 0 (.slice none 0 0)
  go_enter Tryz.func12, Tryz.ntmps12
  go_wp2_with fail
  refine (RD _).mono ?_
  rintro e w1 (⟨_, rfl, b1⟩ | ⟨e0, _⟩)
  · have C1 : Hid (CelA w1 w.heap.size 0 ⟨#[]⟩ ⟨#[]⟩ ⟨#[]⟩ ⟨#[]⟩ 0 0 0 0 0 0 0 0 (.slice none 0 0)) := C0.out.still b1
    have HB1 : Hid (Below w.heap.size w w1) := B0.out.trans (b1.mono B0.out.size)
    clear b1 RD
    obtain ⟨r9, z9⟩ := C1.out
    obtain ⟨r0, r1, r2, r3, r4, r5, r6, r7, r8, r9, r10, r11, r12, r13⟩ := r9
    have P : Hid (AskAt (put14 w1 w.heap.size 0 ⟨#[]⟩ ⟨#[]⟩ ⟨#[]⟩ ⟨#[]⟩ 0 0 0 0 0 0 0 0 (.slice none 0 0)) w.heap.size 0 ⟨#[]⟩ ⟨#[]⟩ ⟨#[]⟩ ⟨#[]⟩ 0 0 0 0 0 0 0 0 (.slice none 0 0)) := put_at C1.out.1 0 ⟨#[]⟩ ⟨#[]⟩ ⟨#[]⟩ ⟨#[]⟩ 0 0 0 0 0 0 0 0 (.slice none 0 0)
    have PB : Hid (But (fun j => j = w.heap.size) w1 (put14 w1 w.heap.size 0 ⟨#[]⟩ ⟨#[]⟩ ⟨#[]⟩ ⟨#[]⟩ 0 0 0 0 0 0 0 0 (.slice none 0 0))) := put_but _ _ _ _ _ _ _ _ _ _ _ _ _ _ _ _
    go_wp2_with fail
    have P' := P.out
    have PB' := PB.out
    unfold put14 at P' PB'
    clear P PB
    generalize hW9 : World.setCell _ ⟨w.heap.size, 13, none⟩ _ = W9 at *
    obtain ⟨p0, p1, p2, p3, p4, p5, p6, p7, p8, p9, p10, p11, p12, p13⟩ := P'
    refine bodyPost_ret (v := .tuple #[.agg #[.int .i64 0, .string ⟨#[]⟩, .string ⟨#[]⟩, .string ⟨#[]⟩, .string ⟨#[]⟩, .int .i64 0, .int .i64 0, .int .i64 0, .int .i64 0, .int .i64 0, .int .i64 0, .int .i64 0, .int .i64 0, (.slice none 0 0)], .int .i64 0, .int .i64 (E : Int)]) (by simp [results, Tryz.results12, go_sem, p0, p1, p2, p3, p4, p5, p6, p7, p8, p9, p10, p11, p12, p13]) rfl ?_
    exact ⟨0, ⟨#[]⟩, ⟨#[]⟩, ⟨#[]⟩, ⟨#[]⟩, 0, 0, 0, 0, 0, 0, 0, 0, none, 0, [], by rw [HD.out]; rfl, zero_as (by rw [HD.out]; have := HE.out; show (E : Int) ≠ 0; omega), ⟨w.heap.size, Nat.le_refl _, World.ownsRow_nil _ _ _ _⟩, HB1.out.trans (PB'.below HB1.out.size (fun i e => by omega))⟩
  · exact absurd e0 HE.out
theorem small_fields (l : List UInt8) : SmallL (lookF (fieldsL l).1) := by
  intro t s b h
  obtain ⟨new, n, h1, _, _, _, h5, _⟩ := fieldsA_one 64 l [] 0
  have e : (fieldsL l).1 = new := by unfold fieldsL; rw [h1]; simp
  rw [e] at h
  unfold lookF at h
  cases hf : new.find? (fun f => f.1 == t) with
  | none => rw [hf] at h; simp at h
  | some f =>
    rw [hf] at h
    simp only [Option.some.injEq, Prod.mk.injEq] at h
    have hm := List.mem_of_find?_eq_some hf
    obtain ⟨_, _, a3, _⟩ := formE_ok (ok_form (h5 f hm))
    have := a3.2.1
    rw [← h.1, size_eq]
    omega
theorem read_head {l : List UInt8} (h : readE l = 0) : (fieldsL l).2.2 = 0 ∧ (∃ V r, (fieldsL l).1 = (35, V) :: r) ∧ ((fieldsL l).1.map Prod.fst).Nodup := by
  unfold readE at h
  by_cases h0 : (fieldsL l).2.2 = 0
  · rw [if_neg (by omega)] at h
    by_cases h1 : ((fieldsL l).1.map Prod.fst).head? = some 35
    · rw [if_pos h1] at h
      refine ⟨h0, ?_, ?_⟩
      · cases hl : (fieldsL l).1 with
        | nil => rw [hl] at h1; simp at h1
        | cons f r =>
          rw [hl] at h1
          obtain ⟨T, V⟩ := f
          simp at h1
          exact ⟨V, r, by rw [h1]⟩
      · by_cases hn : ((fieldsL l).1.map Prod.fst).Nodup
        · exact hn
        · rw [if_neg hn] at h
          simp at h
    · rw [if_neg h1] at h
      simp at h
  · rw [if_pos h0] at h
    exact absurd h h0
theorem kind_text {l : List UInt8} (h : readE l = 0) : lookF (fieldsL l).1 35 = some (textOf (fieldsL l).1 35, true) := by
  obtain ⟨_, ⟨V, r, e⟩, hn⟩ := read_head h
  have m : ((35 : Int), V) ∈ (fieldsL l).1 := by rw [e]; simp
  rw [textOf_mem hn m, lookF_mem hn m]
  rfl
set_option maxHeartbeats 8000000 in
theorem decode_kind (s : ByteArray) (w : World) (hs : s.size ≤ 1000000) (hl : Let w) (hE : readE s.data.toList = 0) (hk : kindOf (textOf (fieldsL s.data.toList).1 35) = 0) :
    Calls Tryz.prog 12 #[.string s] w (DecOk s.data.toList w) := by
  have RD := fun w => read_any s w hs
  have HD : Hid (decT s.data.toList = (35, 120)) := by show decT s.data.toList = _; unfold decT decE; rw [if_neg (by omega), if_pos hk]
  have LK := kind_text hE
  have KO := fun w h => kindOf_any (textOf (fieldsL s.data.toList).1 35) w h
  rw [hk] at KO
  generalize (fieldsL s.data.toList).1 = F at *
  have HE : Hid (readE s.data.toList = 0) := hE
  clear hE hk
  have B0 : Hid (Below w.heap.size w (w.alloc (.cells #[.int .i64 0, .string ⟨#[]⟩, .string ⟨#[]⟩, .string ⟨#[]⟩, .string ⟨#[]⟩, .int .i64 0, .int .i64 0, .int .i64 0, .int .i64 0, .int .i64 0, .int .i64 0, .int .i64 0, .int .i64 0, (.slice none 0 0)] 24))) := (Below.refl _ w).alloc (Nat.le_refl _) _
  have C0 : Hid (CelA (w.alloc (.cells #[.int .i64 0, .string ⟨#[]⟩, .string ⟨#[]⟩, .string ⟨#[]⟩, .string ⟨#[]⟩, .int .i64 0, .int .i64 0, .int .i64 0, .int .i64 0, .int .i64 0, .int .i64 0, .int .i64 0, .int .i64 0, (.slice none 0 0)] 24)) w.heap.size 0 ⟨#[]⟩ ⟨#[]⟩ ⟨#[]⟩ ⟨#[]⟩ 0 0 0 0 0 0 0 0 (.slice none 0 0)) := CelA.box w 0 ⟨#[]⟩ ⟨#[]⟩ ⟨#[]⟩ ⟨#[]⟩ 0 0 0 0 0 0 0 0 (.slice none 0 0)
  go_enter Tryz.func12, Tryz.ntmps12
  go_wp2_with fail
  refine (RD _).mono ?_
  rintro e w1 (⟨e0, _, _⟩ | ⟨_, n0, fb, bm, tv, rfl, hn0, b1, F1⟩)
  · exact absurd HE.out e0
  · have C1 : Hid (CelA w1 w.heap.size 0 ⟨#[]⟩ ⟨#[]⟩ ⟨#[]⟩ ⟨#[]⟩ 0 0 0 0 0 0 0 0 (.slice none 0 0)) := C0.out.still b1
    have HB1 : Hid (Below w.heap.size w w1) := B0.out.trans (b1.mono B0.out.size)
    have K1 := kind_yes F1 _ true LK
    have K2 := KO w1 (hl.still HB1.out)
    generalize textOf F 35 = tk at *
    clear b1 RD F1 KO
    go_wp2_with fail
    refine K1.mono ?_
    rintro e w2 ⟨rfl, rfl⟩
    go_wp2_with fail
    refine K2.mono ?_
    rintro e w2 ⟨rfl, rfl⟩
    obtain ⟨r9, z9⟩ := C1.out
    obtain ⟨r0, r1, r2, r3, r4, r5, r6, r7, r8, r9, r10, r11, r12, r13⟩ := r9
    have P : Hid (AskAt (put14 w2 w.heap.size 0 ⟨#[]⟩ ⟨#[]⟩ ⟨#[]⟩ ⟨#[]⟩ 0 0 0 0 0 0 0 0 (.slice none 0 0)) w.heap.size 0 ⟨#[]⟩ ⟨#[]⟩ ⟨#[]⟩ ⟨#[]⟩ 0 0 0 0 0 0 0 0 (.slice none 0 0)) := put_at C1.out.1 0 ⟨#[]⟩ ⟨#[]⟩ ⟨#[]⟩ ⟨#[]⟩ 0 0 0 0 0 0 0 0 (.slice none 0 0)
    have PB : Hid (But (fun j => j = w.heap.size) w2 (put14 w2 w.heap.size 0 ⟨#[]⟩ ⟨#[]⟩ ⟨#[]⟩ ⟨#[]⟩ 0 0 0 0 0 0 0 0 (.slice none 0 0))) := put_but _ _ _ _ _ _ _ _ _ _ _ _ _ _ _ _
    go_wp2_with fail
    have P' := P.out
    have PB' := PB.out
    unfold put14 at P' PB'
    clear P PB
    generalize hW9 : World.setCell _ ⟨w.heap.size, 13, none⟩ _ = W9 at *
    obtain ⟨p0, p1, p2, p3, p4, p5, p6, p7, p8, p9, p10, p11, p12, p13⟩ := P'
    refine bodyPost_ret (v := .tuple #[.agg #[.int .i64 0, .string ⟨#[]⟩, .string ⟨#[]⟩, .string ⟨#[]⟩, .string ⟨#[]⟩, .int .i64 0, .int .i64 0, .int .i64 0, .int .i64 0, .int .i64 0, .int .i64 0, .int .i64 0, .int .i64 0, (.slice none 0 0)], .int .i64 35, .int .i64 120]) (by simp [results, Tryz.results12, go_sem, p0, p1, p2, p3, p4, p5, p6, p7, p8, p9, p10, p11, p12, p13]) rfl ?_
    exact ⟨0, ⟨#[]⟩, ⟨#[]⟩, ⟨#[]⟩, ⟨#[]⟩, 0, 0, 0, 0, 0, 0, 0, 0, none, 0, [], by rw [HD.out]; rfl, zero_as (by rw [HD.out]; simp), ⟨w.heap.size, Nat.le_refl _, World.ownsRow_nil _ _ _ _⟩, HB1.out.trans (PB'.below HB1.out.size (fun i e => by omega))⟩
theorem done_put {n0 : Nat} {w w1 w4 : World} {fb bm n r m : Nat} {tv : Value} {tags : List Int} {x : StP} {k' : Int} {i' t' c' s' : ByteArray} {sd' q' p' al' st' en' ra' sh' : Int} {cv' : Value} {k : Int} {i t c s : ByteArray} {sd q p al st en ra sh : Int} {cv : Value} {cz : List Int} (R : Red w1 n0 w4 fb bm n tv tags x cv cz) (C : CelA w4 r k' i' t' c' s' sd' q' p' al' st' en' ra' sh' cv') (hr : ∀ t ∈ tags, -9223372036854775808 ≤ t ∧ t ≤ 9223372036854775807) (lr : r < n0) (rm : m ≤ r) (hb : Below m w w4) (h1 : r < w1.heap.size) :
    Calls Tryz.prog 33 #[.pointer (some ⟨fb, 0, none⟩)] (put14 w4 r k i t c s sd q p al st en ra sh cv) fun e w' => e = .returned (.tuple #[.int .i64 (doneE x tags).1, .int .i64 (doneE x tags).2]) ∧ CelA w' r k i t c s sd q p al st en ra sh cv ∧ (∃ base, r < base ∧ w'.ownsRow base 3 1 cv cz.length (its cz)) ∧ Below m w w' := by
  have PB := put_but w4 r k i t c s sd q p al st en ra sh cv
  have l1 := R.frm.lof
  have l2 := R.frm.lom
  obtain ⟨base, hbase, own⟩ := R.own
  refine (done_any (R.frm.keepS PB (by omega) (by omega) (fun g hg e => by have := (R.frm.own.lt g hg).1; omega)) hr).mono ?_
  rintro e w' ⟨rfl, b⟩
  exact ⟨rfl, (C.put k i t c s sd q p al st en ra sh cv).still b, ⟨base, by omega, own_below (own_kept own PB (fun g hg e => by have := (own.lt g hg).1; omega)) b⟩, hb.trans ((PB.below (n := m) (by have := C.1.lt; omega) (fun i e => by omega)).trans (b.mono (by have := PB.size; have := C.1.lt; omega)))⟩
set_option maxHeartbeats 8000000 in
theorem decode_main (s : ByteArray) (w : World) (hs : s.size ≤ 1000000) (hl : Let w) (hE : readE s.data.toList = 0) (K : Int) (hk : kindOf (textOf (fieldsL s.data.toList).1 35) = K) (hk0 : K ≠ 0) :
    Calls Tryz.prog 12 #[.string s] w (DecOk s.data.toList w) := by
  have RD := fun w => read_any s w hs
  have LK := kind_text hE
  have SM := small_fields s.data.toList
  obtain ⟨RG, h64⟩ := fields_range s.data.toList
  have KO := fun w h => kindOf_any (textOf (fieldsL s.data.toList).1 35) w h
  rw [hk] at KO
  have k15 := kind_range (textOf (fieldsL s.data.toList).1 35)
  rw [hk] at k15
  obtain ⟨F, hF⟩ : ∃ F, (fieldsL s.data.toList).1 = F := ⟨_, rfl⟩
  rw [hF] at RD LK SM RG h64 KO hk
  have HDT : Hid (decT s.data.toList = if (doneE (decS K F) (F.map Prod.fst)).2 ≠ 0 then doneE (decS K F) (F.map Prod.fst) else wholeE (askOf K F)) := by
    show decT s.data.toList = _
    unfold decT decE
    rw [if_neg (by omega), hF, hk, if_neg hk0]
  have HAK : Hid ((decT s.data.toList).2 = 0 → decA s.data.toList = askOf K F) := fun h => by
    unfold decA
    rw [if_pos h, hF, hk]
  have RT : ∀ t ∈ F.map Prod.fst, -9223372036854775808 ≤ t ∧ t ≤ 9223372036854775807 := fun t ht => by
    obtain ⟨f, hf, rfl⟩ := List.mem_map.1 ht
    have := RG f hf
    omega
  have HE : Hid (readE s.data.toList = 0) := hE
  have g0 : (K == 0) = false := beq_false_of_ne hk0
  have HR : Hid (1 ≤ K ∧ K ≤ 5) := ⟨by omega, by omega⟩
  clear hE hk hF RG hk0 k15
  have B0 : Hid (Below w.heap.size w (w.alloc (.cells #[.int .i64 0, .string ⟨#[]⟩, .string ⟨#[]⟩, .string ⟨#[]⟩, .string ⟨#[]⟩, .int .i64 0, .int .i64 0, .int .i64 0, .int .i64 0, .int .i64 0, .int .i64 0, .int .i64 0, .int .i64 0, (.slice none 0 0)] 24))) := (Below.refl _ w).alloc (Nat.le_refl _) _
  have C0 : Hid (CelA (w.alloc (.cells #[.int .i64 0, .string ⟨#[]⟩, .string ⟨#[]⟩, .string ⟨#[]⟩, .string ⟨#[]⟩, .int .i64 0, .int .i64 0, .int .i64 0, .int .i64 0, .int .i64 0, .int .i64 0, .int .i64 0, .int .i64 0, (.slice none 0 0)] 24)) w.heap.size 0 ⟨#[]⟩ ⟨#[]⟩ ⟨#[]⟩ ⟨#[]⟩ 0 0 0 0 0 0 0 0 (.slice none 0 0)) := CelA.box w 0 ⟨#[]⟩ ⟨#[]⟩ ⟨#[]⟩ ⟨#[]⟩ 0 0 0 0 0 0 0 0 (.slice none 0 0)
  go_enter Tryz.func12, Tryz.ntmps12
  go_wp2_with fail
  refine (RD _).mono ?_
  rintro e w1 (⟨e0, _, _⟩ | ⟨_, n0, fb, bm, tv, rfl, hn0, b1, F1⟩)
  · exact absurd HE.out e0
  · have C1 : Hid (CelA w1 w.heap.size 0 ⟨#[]⟩ ⟨#[]⟩ ⟨#[]⟩ ⟨#[]⟩ 0 0 0 0 0 0 0 0 (.slice none 0 0)) := C0.out.still b1
    have HB1 : Hid (Below w.heap.size w w1) := B0.out.trans (b1.mono B0.out.size)
    have K1 := kind_yes F1 _ true LK
    have K2 := KO w1 (hl.still HB1.out)
    have R1 := readAsk_any F1 SM (by omega) K HR.out.1 HR.out.2
    have lr : w.heap.size < n0 := by simp at hn0; omega
    have lf := F1.lof
    have lm := F1.lom
    clear b1 RD KO F1 LK hn0
    generalize textOf F 35 = tk at *
    go_wp2_with fail
    refine K1.mono ?_
    rintro e w2 ⟨rfl, rfl⟩
    go_wp2_with fail
    refine K2.mono ?_
    rintro e w2 ⟨rfl, rfl⟩
    clear K1 K2
    go_wp2_with fail
    refine R1.mono ?_
    rintro e w4 ⟨n4, vi, vt, vc, vs, vd, vq, vp, va, vb, ve, vr, vh, va9, vd9, cz, rfl, RED, RA⟩
    clear R1
    have C4 : CelA w4 w.heap.size 0 ⟨#[]⟩ ⟨#[]⟩ ⟨#[]⟩ ⟨#[]⟩ 0 0 0 0 0 0 0 0 (.slice none 0 0) := C1.out.but RED.below (fun e => by rcases e with e | e <;> omega)
    have HB4 : Below w.heap.size w w4 := HB1.out.trans (RED.below.below HB1.out.size (fun i e => by rcases e with e | e <;> omega))
    have D1 := done_put (k := K) (i := vi) (t := vt) (c := vc) (s := vs) (sd := vd) (q := vq) (p := vp) (al := va) (st := vb) (en := ve) (ra := vr) (sh := vh) RED C4 RT lr (Nat.le_refl _) HB4 C1.out.1.lt
    obtain ⟨⟨a0, a1, a2, a3, a4, a5, a6, a7, a8, a9, a10, a11, a12, a13⟩, z4⟩ := C4
    have HRD : Hid ((decS K F).2.2 = 0 → ReadAs (askOf K F) K vi vt vc vs vd vq vp va vb ve vr vh cz) := RA
    have HY : Hid ((doneE (decS K F) (F.map Prod.fst)).2 = 0 → (decS K F).2.2 = 0) := fun h => (done_run h).1
    obtain ⟨DT, DE, hDD⟩ : ∃ DT DE, doneE (decS K F) (F.map Prod.fst) = (DT, DE) := ⟨_, _, rfl⟩
    rw [hDD] at D1 HDT HY
    dsimp only at D1 HDT HY
    have HDD : Hid (doneE (decS K F) (F.map Prod.fst) = (DT, DE)) := hDD
    unfold put14 at D1
    clear RED RA HB4 hDD SM h64 RT
    go_wp2_with fail
    refine D1.mono ?_
    rintro e w6 ⟨rfl, C6a, OWa, HB6a⟩
    have C6 : Hid (CelA w6 w.heap.size K vi vt vc vs vd vq vp va vb ve vr vh (.slice va9 cz.length vd9)) := C6a
    have OW : Hid (∃ base, w.heap.size < base ∧ w6.ownsRow base 3 1 (.slice va9 cz.length vd9) cz.length (its cz)) := OWa
    have HB6 : Hid (Below w.heap.size w w6) := HB6a
    clear C6a OWa HB6a D1 a0 a1 a2 a3 a4 a5 a6 a7 a8 a9 a10 a11 a12 a13 z4
    by_cases hDE : DE = 0
    case neg =>
      have te : (DE == 0) = false := beq_false_of_ne hDE
      have HD : Hid (decT s.data.toList = (DT, DE)) := by
        have := HDT.out
        rw [if_pos hDE] at this
        exact this
      have HN : Hid (DE ≠ 0) := hDE
      clear hDE
      obtain ⟨r9, z9⟩ := C6.out
      obtain ⟨r0, r1, r2, r3, r4, r5, r6, r7, r8, r9, r10, r11, r12, r13⟩ := r9
      have P : Hid (AskAt (put14 w6 w.heap.size 0 ⟨#[]⟩ ⟨#[]⟩ ⟨#[]⟩ ⟨#[]⟩ 0 0 0 0 0 0 0 0 (.slice none 0 0)) w.heap.size 0 ⟨#[]⟩ ⟨#[]⟩ ⟨#[]⟩ ⟨#[]⟩ 0 0 0 0 0 0 0 0 (.slice none 0 0)) := put_at C6.out.1 0 ⟨#[]⟩ ⟨#[]⟩ ⟨#[]⟩ ⟨#[]⟩ 0 0 0 0 0 0 0 0 (.slice none 0 0)
      have PB : Hid (But (fun j => j = w.heap.size) w6 (put14 w6 w.heap.size 0 ⟨#[]⟩ ⟨#[]⟩ ⟨#[]⟩ ⟨#[]⟩ 0 0 0 0 0 0 0 0 (.slice none 0 0))) := put_but _ _ _ _ _ _ _ _ _ _ _ _ _ _ _ _
      go_wp2_with fail
      have P' := P.out
      have PB' := PB.out
      unfold put14 at P' PB'
      clear P PB
      generalize hW9 : World.setCell _ ⟨w.heap.size, 13, none⟩ _ = W9 at *
      obtain ⟨p0, p1, p2, p3, p4, p5, p6, p7, p8, p9, p10, p11, p12, p13⟩ := P'
      refine bodyPost_ret (v := .tuple #[.agg #[.int .i64 0, .string ⟨#[]⟩, .string ⟨#[]⟩, .string ⟨#[]⟩, .string ⟨#[]⟩, .int .i64 0, .int .i64 0, .int .i64 0, .int .i64 0, .int .i64 0, .int .i64 0, .int .i64 0, .int .i64 0, (.slice none 0 0)], .int .i64 DT, .int .i64 DE]) (by simp [results, Tryz.results12, go_sem, p0, p1, p2, p3, p4, p5, p6, p7, p8, p9, p10, p11, p12, p13]) rfl ?_
      exact ⟨0, ⟨#[]⟩, ⟨#[]⟩, ⟨#[]⟩, ⟨#[]⟩, 0, 0, 0, 0, 0, 0, 0, 0, none, 0, [], by rw [HD.out]; rfl, zero_as (by rw [HD.out]; exact HN.out), ⟨w.heap.size, Nat.le_refl _, World.ownsRow_nil _ _ _ _⟩, HB6.out.trans (PB'.below HB6.out.size (fun i e => by omega))⟩
    have HRA : Hid (ReadAs (askOf K F) K vi vt vc vs vd vq vp va vb ve vr vh cz) := HRD.out (HY.out hDE)
    have HY0 : Hid ((decS K F).2.2 = 0) := HY.out hDE
    subst hDE
    have HW : Hid (decT s.data.toList = wholeE (askOf K F)) := by
      have := HDT.out
      rw [if_neg (by simp)] at this
      exact this
    clear HRD HY HDT HDD
    by_cases hK1 : K = 1
    case neg =>
      have g1 : (K == 1) = false := beq_false_of_ne hK1
      have hal : va = 0 := by
        have e := HRA.out.eq
        have e2 : (askOf K F).algo = va := by rw [e]
        rw [← e2]
        exact if_neg hK1
      have HD : Hid (decT s.data.toList = (0, 0)) := by
        rw [HW.out]
        unfold wholeE
        rw [if_neg (fun e => hK1 e.1), if_neg (fun e => by have := e.1; rw [show (askOf K F).algo = 0 from if_neg hK1] at this; omega)]
        rfl
      have ga : (va == 2) = false := beq_false_of_ne (by omega)
      clear hK1 hal
      obtain ⟨r9, z9⟩ := C6.out
      obtain ⟨r0, r1, r2, r3, r4, r5, r6, r7, r8, r9, r10, r11, r12, r13⟩ := r9
      have P : Hid (AskAt (put14 w6 w.heap.size K vi vt vc vs vd vq vp va vb ve vr vh (.slice va9 cz.length vd9)) w.heap.size K vi vt vc vs vd vq vp va vb ve vr vh (.slice va9 cz.length vd9)) := put_at C6.out.1 K vi vt vc vs vd vq vp va vb ve vr vh (.slice va9 cz.length vd9)
      have PB : Hid (But (fun j => j = w.heap.size) w6 (put14 w6 w.heap.size K vi vt vc vs vd vq vp va vb ve vr vh (.slice va9 cz.length vd9))) := put_but _ _ _ _ _ _ _ _ _ _ _ _ _ _ _ _
      go_wp2_with fail
      have P' := P.out
      have PB' := PB.out
      unfold put14 at P' PB'
      clear P PB
      generalize hW9 : World.setCell _ ⟨w.heap.size, 13, none⟩ _ = W9 at *
      obtain ⟨p0, p1, p2, p3, p4, p5, p6, p7, p8, p9, p10, p11, p12, p13⟩ := P'
      refine bodyPost_ret (v := .tuple #[.agg #[.int .i64 K, .string vi, .string vt, .string vc, .string vs, .int .i64 vd, .int .i64 vq, .int .i64 vp, .int .i64 va, .int .i64 vb, .int .i64 ve, .int .i64 vr, .int .i64 vh, (.slice va9 cz.length vd9)], .int .i64 0, .int .i64 0]) (by simp [results, Tryz.results12, go_sem, p0, p1, p2, p3, p4, p5, p6, p7, p8, p9, p10, p11, p12, p13]) rfl ?_
      have hA : decA s.data.toList = askOf K F := HAK.out (by rw [HD.out])
      obtain ⟨base, hbase, own⟩ := OW.out
      exact ⟨K, vi, vt, vc, vs, vd, vq, vp, va, vb, ve, vr, vh, va9, vd9, cz, by rw [HD.out], by rw [hA]; exact HRA.out, ⟨base, by omega, own_kept own PB' (fun g hg e => by have := (own.lt g hg).1; omega)⟩, HB6.out.trans (PB'.below HB6.out.size (fun i e => by omega))⟩
    have bnd : (0 ≤ vb ∧ vb ≤ 1099511627776) ∧ 0 ≤ ve ∧ ve ≤ 1099511627776 := by
      have e := HRA.out.eq
      have e1 : (askOf K F).start = vb := by rw [e]
      have e2 : (askOf K F).stop = ve := by rw [e]
      subst hK1
      have hh := HY0.out
      unfold decS at hh
      rw [if_pos rfl] at hh
      have fit := runS_fresh_ok (headW 1) (head_ok hh)
      have f1 := int_back (fits_text (fit (5002, .int 0 1099511627776) (by unfold headW; rw [if_pos rfl]; simp)))
      have f2 := int_back (fits_text (fit (5003, .int 0 1099511627776) (by unfold headW; rw [if_pos rfl]; simp)))
      have s1 : (askOf 1 F).start = ((intVE (textOf F 5002) 0 1099511627776).1 : Int) := by
        show (if (1 : Int) = 1 then ((intVE (textOf F 5002) 0 1099511627776).1 : Int) else 0) = _
        rw [if_pos rfl]
      have s2 : (askOf 1 F).stop = ((intVE (textOf F 5003) 0 1099511627776).1 : Int) := by
        show (if (1 : Int) = 1 ∨ (1 : Int) = 3 then ((intVE (textOf F 5003) 0 1099511627776).1 : Int) else 0) = _
        rw [if_pos (.inl rfl)]
      rw [← e1, ← e2, s1, s2]
      exact ⟨⟨f1.1, f1.2.1⟩, f2.1, f2.2.1⟩
    have g1 : (K == 1) = true := beq_iff_eq.2 hK1
    have SP := fun w => rightSpan_any K vi vt vc vs vd vq vp va vb ve vr vh (.slice va9 cz.length vd9) w (by omega) (by omega)
    have HW2 : Hid (decT s.data.toList = if inB (ve - vb) 1 1073741824 = false then (5003, 282) else if va = 2 ∧ curB cz = false then (5006, 30) else (0, 0)) := by
      rw [HW.out]
      have e := HRA.out.eq
      have e1 : (askOf K F).start = vb := by rw [e]
      have e2 : (askOf K F).stop = ve := by rw [e]
      have e3 : (askOf K F).algo = va := by rw [e]
      have e4 : (askOf K F).kind = 1 := hK1
      unfold wholeE
      rw [e1, e2, e3, e4, ← HRA.out.cur]
      by_cases c : 1 ≤ ve - vb ∧ ve - vb ≤ 1073741824
      · rw [if_neg (fun x => x.2 c), inB_true.2 c, if_neg (by simp : ¬ (true = false))]
        rfl
      · rw [if_pos ⟨rfl, c⟩, if_pos (inB_false.2 (by omega))]
        rfl
    clear HW hK1 bnd HY0
    cases hsp : inB (ve - vb) 1 1073741824
    case false =>
      rw [hsp] at SP
      have HD : Hid (decT s.data.toList = (5003, 282)) := by rw [HW2.out, if_pos hsp]; rfl
      obtain ⟨⟨a0, a1, a2, a3, a4, a5, a6, a7, a8, a9, a10, a11, a12, a13⟩, z6⟩ := C6.out
      clear hsp HW2
      go_wp2_with fail
      refine (SP _).mono ?_
      rintro e w7 ⟨rfl, b7⟩
      have C7 : Hid (CelA w7 w.heap.size K vi vt vc vs vd vq vp va vb ve vr vh (.slice va9 cz.length vd9)) := C6.out.still b7
      have HB7 : Hid (Below w.heap.size w w7) := HB6.out.trans (b7.mono HB6.out.size)
      clear b7 a0 a1 a2 a3 a4 a5 a6 a7 a8 a9 a10 a11 a12 a13 z6
      obtain ⟨r9, z9⟩ := C7.out
      obtain ⟨r0, r1, r2, r3, r4, r5, r6, r7, r8, r9, r10, r11, r12, r13⟩ := r9
      have P : Hid (AskAt (put14 w7 w.heap.size 0 ⟨#[]⟩ ⟨#[]⟩ ⟨#[]⟩ ⟨#[]⟩ 0 0 0 0 0 0 0 0 (.slice none 0 0)) w.heap.size 0 ⟨#[]⟩ ⟨#[]⟩ ⟨#[]⟩ ⟨#[]⟩ 0 0 0 0 0 0 0 0 (.slice none 0 0)) := put_at C7.out.1 0 ⟨#[]⟩ ⟨#[]⟩ ⟨#[]⟩ ⟨#[]⟩ 0 0 0 0 0 0 0 0 (.slice none 0 0)
      have PB : Hid (But (fun j => j = w.heap.size) w7 (put14 w7 w.heap.size 0 ⟨#[]⟩ ⟨#[]⟩ ⟨#[]⟩ ⟨#[]⟩ 0 0 0 0 0 0 0 0 (.slice none 0 0))) := put_but _ _ _ _ _ _ _ _ _ _ _ _ _ _ _ _
      go_wp2_with fail
      have P' := P.out
      have PB' := PB.out
      unfold put14 at P' PB'
      clear P PB
      generalize hW9 : World.setCell _ ⟨w.heap.size, 13, none⟩ _ = W9 at *
      obtain ⟨p0, p1, p2, p3, p4, p5, p6, p7, p8, p9, p10, p11, p12, p13⟩ := P'
      refine bodyPost_ret (v := .tuple #[.agg #[.int .i64 0, .string ⟨#[]⟩, .string ⟨#[]⟩, .string ⟨#[]⟩, .string ⟨#[]⟩, .int .i64 0, .int .i64 0, .int .i64 0, .int .i64 0, .int .i64 0, .int .i64 0, .int .i64 0, .int .i64 0, (.slice none 0 0)], .int .i64 5003, .int .i64 282]) (by simp [results, Tryz.results12, go_sem, p0, p1, p2, p3, p4, p5, p6, p7, p8, p9, p10, p11, p12, p13]) rfl ?_
      exact ⟨0, ⟨#[]⟩, ⟨#[]⟩, ⟨#[]⟩, ⟨#[]⟩, 0, 0, 0, 0, 0, 0, 0, 0, none, 0, [], by rw [HD.out]; rfl, zero_as (by rw [HD.out]; simp), ⟨w.heap.size, Nat.le_refl _, World.ownsRow_nil _ _ _ _⟩, HB7.out.trans (PB'.below HB7.out.size (fun i e => by omega))⟩
    rw [hsp] at SP
    have HW3 : Hid (decT s.data.toList = if va = 2 ∧ curB cz = false then (5006, 30) else (0, 0)) := by rw [HW2.out, if_neg (by rw [hsp]; simp)]; rfl
    obtain ⟨⟨a0, a1, a2, a3, a4, a5, a6, a7, a8, a9, a10, a11, a12, a13⟩, z6⟩ := C6.out
    clear hsp HW2
    go_wp2_with fail
    refine (SP _).mono ?_
    rintro e w7 ⟨rfl, b7⟩
    have C7 : Hid (CelA w7 w.heap.size K vi vt vc vs vd vq vp va vb ve vr vh (.slice va9 cz.length vd9)) := C6.out.still b7
    have HB7 : Hid (Below w.heap.size w w7) := HB6.out.trans (b7.mono HB6.out.size)
    have OW7 : Hid (∃ base, w.heap.size < base ∧ w7.ownsRow base 3 1 (.slice va9 cz.length vd9) cz.length (its cz)) := by
      obtain ⟨base, hbase, own⟩ := OW.out
      exact ⟨base, hbase, own_below own b7⟩
    clear b7 a0 a1 a2 a3 a4 a5 a6 a7 a8 a9 a10 a11 a12 a13 z6 SP
    by_cases hv : va = 2
    case neg =>
      have ga : (va == 2) = false := beq_false_of_ne hv
      have HD : Hid (decT s.data.toList = (0, 0)) := by rw [HW3.out, if_neg (fun e => hv e.1)]; rfl
      clear hv HW3
      obtain ⟨r9, z9⟩ := C7.out
      obtain ⟨r0, r1, r2, r3, r4, r5, r6, r7, r8, r9, r10, r11, r12, r13⟩ := r9
      have P : Hid (AskAt (put14 w7 w.heap.size K vi vt vc vs vd vq vp va vb ve vr vh (.slice va9 cz.length vd9)) w.heap.size K vi vt vc vs vd vq vp va vb ve vr vh (.slice va9 cz.length vd9)) := put_at C7.out.1 K vi vt vc vs vd vq vp va vb ve vr vh (.slice va9 cz.length vd9)
      have PB : Hid (But (fun j => j = w.heap.size) w7 (put14 w7 w.heap.size K vi vt vc vs vd vq vp va vb ve vr vh (.slice va9 cz.length vd9))) := put_but _ _ _ _ _ _ _ _ _ _ _ _ _ _ _ _
      go_wp2_with fail
      have P' := P.out
      have PB' := PB.out
      unfold put14 at P' PB'
      clear P PB
      generalize hW9 : World.setCell _ ⟨w.heap.size, 13, none⟩ _ = W9 at *
      obtain ⟨p0, p1, p2, p3, p4, p5, p6, p7, p8, p9, p10, p11, p12, p13⟩ := P'
      refine bodyPost_ret (v := .tuple #[.agg #[.int .i64 K, .string vi, .string vt, .string vc, .string vs, .int .i64 vd, .int .i64 vq, .int .i64 vp, .int .i64 va, .int .i64 vb, .int .i64 ve, .int .i64 vr, .int .i64 vh, (.slice va9 cz.length vd9)], .int .i64 0, .int .i64 0]) (by simp [results, Tryz.results12, go_sem, p0, p1, p2, p3, p4, p5, p6, p7, p8, p9, p10, p11, p12, p13]) rfl ?_
      have hA : decA s.data.toList = askOf K F := HAK.out (by rw [HD.out])
      obtain ⟨base, hbase, own⟩ := OW7.out
      exact ⟨K, vi, vt, vc, vs, vd, vq, vp, va, vb, ve, vr, vh, va9, vd9, cz, by rw [HD.out], by rw [hA]; exact HRA.out, ⟨base, by omega, own_kept own PB' (fun g hg e => by have := (own.lt g hg).1; omega)⟩, HB7.out.trans (PB'.below HB7.out.size (fun i e => by omega))⟩
    have ga : (va == 2) = true := beq_iff_eq.2 hv
    have CK := check_any cz (.slice va9 cz.length vd9) w7 (by obtain ⟨base, _, own⟩ := OW7.out; exact its_row own)
    have HV : Hid (va = 2) := hv
    clear hv
    cases hc : curB cz
    case false =>
      rw [show curE cz = 30 by unfold curE; rw [hc]; rfl] at CK
      have HD : Hid (decT s.data.toList = (5006, 30)) := by rw [HW3.out, if_pos ⟨HV.out, hc⟩]; rfl
      obtain ⟨⟨a0, a1, a2, a3, a4, a5, a6, a7, a8, a9, a10, a11, a12, a13⟩, z7⟩ := C7.out
      clear hc HW3
      go_wp2_with fail
      refine CK.mono ?_
      rintro e w8 ⟨rfl, b8⟩
      have C8 : Hid (CelA w8 w.heap.size K vi vt vc vs vd vq vp va vb ve vr vh (.slice va9 cz.length vd9)) := C7.out.still b8
      have HB8 : Hid (Below w.heap.size w w8) := HB7.out.trans (b8.mono HB7.out.size)
      clear b8 a0 a1 a2 a3 a4 a5 a6 a7 a8 a9 a10 a11 a12 a13 z7
      obtain ⟨r9, z9⟩ := C8.out
      obtain ⟨r0, r1, r2, r3, r4, r5, r6, r7, r8, r9, r10, r11, r12, r13⟩ := r9
      have P : Hid (AskAt (put14 w8 w.heap.size 0 ⟨#[]⟩ ⟨#[]⟩ ⟨#[]⟩ ⟨#[]⟩ 0 0 0 0 0 0 0 0 (.slice none 0 0)) w.heap.size 0 ⟨#[]⟩ ⟨#[]⟩ ⟨#[]⟩ ⟨#[]⟩ 0 0 0 0 0 0 0 0 (.slice none 0 0)) := put_at C8.out.1 0 ⟨#[]⟩ ⟨#[]⟩ ⟨#[]⟩ ⟨#[]⟩ 0 0 0 0 0 0 0 0 (.slice none 0 0)
      have PB : Hid (But (fun j => j = w.heap.size) w8 (put14 w8 w.heap.size 0 ⟨#[]⟩ ⟨#[]⟩ ⟨#[]⟩ ⟨#[]⟩ 0 0 0 0 0 0 0 0 (.slice none 0 0))) := put_but _ _ _ _ _ _ _ _ _ _ _ _ _ _ _ _
      go_wp2_with fail
      have P' := P.out
      have PB' := PB.out
      unfold put14 at P' PB'
      clear P PB
      generalize hW9 : World.setCell _ ⟨w.heap.size, 13, none⟩ _ = W9 at *
      obtain ⟨p0, p1, p2, p3, p4, p5, p6, p7, p8, p9, p10, p11, p12, p13⟩ := P'
      refine bodyPost_ret (v := .tuple #[.agg #[.int .i64 0, .string ⟨#[]⟩, .string ⟨#[]⟩, .string ⟨#[]⟩, .string ⟨#[]⟩, .int .i64 0, .int .i64 0, .int .i64 0, .int .i64 0, .int .i64 0, .int .i64 0, .int .i64 0, .int .i64 0, (.slice none 0 0)], .int .i64 5006, .int .i64 30]) (by simp [results, Tryz.results12, go_sem, p0, p1, p2, p3, p4, p5, p6, p7, p8, p9, p10, p11, p12, p13]) rfl ?_
      exact ⟨0, ⟨#[]⟩, ⟨#[]⟩, ⟨#[]⟩, ⟨#[]⟩, 0, 0, 0, 0, 0, 0, 0, 0, none, 0, [], by rw [HD.out]; rfl, zero_as (by rw [HD.out]; simp), ⟨w.heap.size, Nat.le_refl _, World.ownsRow_nil _ _ _ _⟩, HB8.out.trans (PB'.below HB8.out.size (fun i e => by omega))⟩
    rw [show curE cz = 0 by unfold curE; rw [hc]; rfl] at CK
    have HD : Hid (decT s.data.toList = (0, 0)) := by rw [HW3.out, if_neg (by rw [hc]; simp)]; rfl
    obtain ⟨⟨a0, a1, a2, a3, a4, a5, a6, a7, a8, a9, a10, a11, a12, a13⟩, z7⟩ := C7.out
    clear hc HW3
    go_wp2_with fail
    refine CK.mono ?_
    rintro e w8 ⟨rfl, b8⟩
    have C8 : Hid (CelA w8 w.heap.size K vi vt vc vs vd vq vp va vb ve vr vh (.slice va9 cz.length vd9)) := C7.out.still b8
    have HB8 : Hid (Below w.heap.size w w8) := HB7.out.trans (b8.mono HB7.out.size)
    have OW8 : Hid (∃ base, w.heap.size < base ∧ w8.ownsRow base 3 1 (.slice va9 cz.length vd9) cz.length (its cz)) := by
      obtain ⟨base, hbase, own⟩ := OW7.out
      exact ⟨base, hbase, own_below own b8⟩
    clear b8 a0 a1 a2 a3 a4 a5 a6 a7 a8 a9 a10 a11 a12 a13 z7
    obtain ⟨r9, z9⟩ := C8.out
    obtain ⟨r0, r1, r2, r3, r4, r5, r6, r7, r8, r9, r10, r11, r12, r13⟩ := r9
    have P : Hid (AskAt (put14 w8 w.heap.size K vi vt vc vs vd vq vp va vb ve vr vh (.slice va9 cz.length vd9)) w.heap.size K vi vt vc vs vd vq vp va vb ve vr vh (.slice va9 cz.length vd9)) := put_at C8.out.1 K vi vt vc vs vd vq vp va vb ve vr vh (.slice va9 cz.length vd9)
    have PB : Hid (But (fun j => j = w.heap.size) w8 (put14 w8 w.heap.size K vi vt vc vs vd vq vp va vb ve vr vh (.slice va9 cz.length vd9))) := put_but _ _ _ _ _ _ _ _ _ _ _ _ _ _ _ _
    go_wp2_with fail
    have P' := P.out
    have PB' := PB.out
    unfold put14 at P' PB'
    clear P PB
    generalize hW9 : World.setCell _ ⟨w.heap.size, 13, none⟩ _ = W9 at *
    obtain ⟨p0, p1, p2, p3, p4, p5, p6, p7, p8, p9, p10, p11, p12, p13⟩ := P'
    refine bodyPost_ret (v := .tuple #[.agg #[.int .i64 K, .string vi, .string vt, .string vc, .string vs, .int .i64 vd, .int .i64 vq, .int .i64 vp, .int .i64 va, .int .i64 vb, .int .i64 ve, .int .i64 vr, .int .i64 vh, (.slice va9 cz.length vd9)], .int .i64 0, .int .i64 0]) (by simp [results, Tryz.results12, go_sem, p0, p1, p2, p3, p4, p5, p6, p7, p8, p9, p10, p11, p12, p13]) rfl ?_
    have hA : decA s.data.toList = askOf K F := HAK.out (by rw [HD.out])
    obtain ⟨base, hbase, own⟩ := OW8.out
    exact ⟨K, vi, vt, vc, vs, vd, vq, vp, va, vb, ve, vr, vh, va9, vd9, cz, by rw [HD.out], by rw [hA]; exact HRA.out, ⟨base, by omega, own_kept own PB' (fun g hg e => by have := (own.lt g hg).1; omega)⟩, HB8.out.trans (PB'.below HB8.out.size (fun i e => by omega))⟩
/-- Decode of any text. -/
theorem decode_any (s : ByteArray) (w : World) (hs : s.size ≤ 1000000) (hl : Let w) :
    Calls Tryz.prog 12 #[.string s] w (DecOk s.data.toList w) := by
  by_cases hE : readE s.data.toList = 0
  · by_cases hk : kindOf (textOf (fieldsL s.data.toList).1 35) = 0
    · exact decode_kind s w hs hl hE hk
    · exact decode_main s w hs hl hE _ rfl hk
  · exact decode_read s w hs hE
end Go.Proofs.YtepkmbpadhfbmaaGreatDoor
