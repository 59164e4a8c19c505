/-
  The contract of the reference's Decode, for every text.
-/
import Derived.Test.YtepkmbpadhfbmaaGreatDoorGP
import Derived.Test.YtepkmbpadhfbmaaGreatDoorGQ
import Derived.Test.YtepkmbpadhfbmaaGreatDoorGI
namespace Go.Proofs.YtepkmbpadhfbmaaGreatDoor
open Go.ChangeShapes Go.WideShapes Go.ChangeAt Go.RowKit Go.Lib

set_option maxHeartbeats 2000000 in
theorem refWord_any (j : Int) (h1 : 1 ≤ j) (h5 : j ≤ 5) (w : World) :
    Calls Tryz.prog 38 #[.int .i64 j] w fun e w' => e = .returned (.string (wordT j)) ∧ Below w.heap.size w w' := by
  rcases (show j = 1 ∨ j = 2 ∨ j = 3 ∨ j = 4 ∨ j = 5 by omega) with rfl | rfl | rfl | rfl | rfl
  · rw [show wordT 1 = ⟨#[68]⟩ by decide +kernel]
    go_enter Tryz.func38, Tryz.ntmps38
    go_wp2_with fail
    go_ret
    exact ⟨rfl, (Below.refl _ w).alloc (Nat.le_refl _) _⟩
  · rw [show wordT 2 = ⟨#[70]⟩ by decide +kernel]
    go_enter Tryz.func38, Tryz.ntmps38
    go_wp2_with fail
    go_ret
    exact ⟨rfl, (Below.refl _ w).alloc (Nat.le_refl _) _⟩
  · rw [show wordT 3 = ⟨#[71]⟩ by decide +kernel]
    go_enter Tryz.func38, Tryz.ntmps38
    go_wp2_with fail
    go_ret
    exact ⟨rfl, (Below.refl _ w).alloc (Nat.le_refl _) _⟩
  · rw [show wordT 4 = ⟨#[85, 80]⟩ by decide +kernel]
    go_enter Tryz.func38, Tryz.ntmps38
    go_wp2_with fail
    go_ret
    exact ⟨rfl, (Below.refl _ w).alloc (Nat.le_refl _) _⟩
  · rw [show wordT 5 = ⟨#[85, 82]⟩ by decide +kernel]
    go_enter Tryz.func38, Tryz.ntmps38
    go_wp2_with fail
    go_ret
    exact ⟨rfl, (Below.refl _ w).alloc (Nat.le_refl _) _⟩
theorem RS.still {M : Nat} {W0 : World} {m : Nat} {w w' : World} {fb b : Nat} {v : Value} {l : List Fd} {y : List Int × Int × Int} {k : Int} {i t c s : ByteArray} {sd q p al st en ra sh : Int} (h : RS M W0 m w fb b v l y k i t c s sd q p al st en ra sh (.slice none 0 0) []) (hb : Below w.heap.size w w') : RS M W0 m w' fb b v l y k i t c s sd q p al st en ra sh (.slice none 0 0) [] := by
  obtain ⟨u, F, _⟩ := h.frm
  exact h.next ⟨u, F.still hb⟩
/-- What the reference's Decode answers of a text. -/
def RDecOk (l : List UInt8) (w : World) (e : Ending) (w' : World) : Prop := ∃ k i t c s sd q p al st en ra sh a d, ∃ cz : List Nat, e = .returned (.tuple #[.agg #[.int .i64 k, .string i, .string t, .string c, .string s, .int .i64 sd, .int .i64 q, .int .i64 p, .int .i64 al, .int .i64 st, .int .i64 en, .int .i64 ra, .int .i64 sh, .slice a cz.length d], .int .i64 (decT l).1, .int .i64 (decT l).2]) ∧ ReadAs (decA l) k i t c s sd q p al st en ra sh (intsOf cz) ∧ Row w' (.slice a cz.length d) cz.length (fun i => .int .i64 ((cz.getD i 0 : Nat) : Int)) ∧ Below w.heap.size w w'
theorem row_nil13 (w : World) : Row w (.slice none 0 0) ([] : List Nat).length fun i => .int .i64 ((([] : List Nat).getD i 0 : Nat) : Int) := ⟨none, 0, rfl, Nat.le_refl _, by unfold maxLen; omega, fun i hi => absurd hi (by simp)⟩
theorem zero_as13 {l : List UInt8} (h : (decT l).2 ≠ 0) : ReadAs (decA l) 0 ⟨#[]⟩ ⟨#[]⟩ ⟨#[]⟩ ⟨#[]⟩ 0 0 0 0 0 0 0 0 (intsOf []) := zero_as h
theorem text_small (l : List UInt8) : ∀ t s, textO (fieldsL l).1 t = some s → s.size ≤ 100000 := by
  intro t s h
  obtain ⟨b, hb⟩ := look_some h
  obtain ⟨new, n, h1, _, _, _, h5, _⟩ := fieldsA_one 64 l [] 0
  have e : (fieldsL l).1 = new := by unfold fieldsL; rw [h1]; simp
  rw [e] at hb
  unfold lookF at hb
  cases hf : new.find? (fun f => f.1 == t) with
  | none => rw [hf] at hb; simp at hb
  | some f =>
    rw [hf] at hb
    simp only [Option.some.injEq, Prod.mk.injEq] at hb
    obtain ⟨_, _, a3, _⟩ := formE_ok (ok_form (h5 f (List.mem_of_find?_eq_some hf)))
    have := a3.2.1
    rw [← hb.1, size_eq]
    omega
theorem kind_is {tk : ByteArray} {j : Int} (h1 : 1 ≤ j) (h5 : j ≤ 5) : (wordT j = tk) ↔ kindOf tk = j := by
  constructor
  · rintro rfl
    exact kind_word h1 h5
  · intro h
    rw [← h]
    exact word_kind (by omega)
theorem RS.done {M : Nat} {W0 : World} {m : Nat} {w : World} {fb b : Nat} {v : Value} {l : List Fd} {y : List Int × Int × Int} {k : Int} {i t c s : ByteArray} {sd q p al st en ra sh : Int} {cv : Value} {cz : List Nat} (h : RS M W0 m w fb b v l y k i t c s sd q p al st en ra sh cv cz) :
    Calls Tryz.prog 42 #[.pointer (some ⟨fb, 0, none⟩)] w fun e w' => e = .returned (.tuple #[.int .i64 (doneR y l).1, .int .i64 (doneR y l).2]) ∧ AskAt w' b k i t c s sd q p al st en ra sh cv ∧ Row w' cv cz.length (fun i => .int .i64 ((cz.getD i 0 : Nat) : Int)) ∧ (∀ x o k d, cv = .slice (some ⟨x, o, none⟩) k d → b < x) ∧ Below w.heap.size w w' := by
  obtain ⟨u, F, _⟩ := h.frm
  obtain ⟨base, hbase, own, _⟩ := h.own
  have D : Calls Tryz.prog 42 #[.pointer (some ⟨fb, 0, none⟩)] w fun e w' => e = .returned (.tuple #[.int .i64 (doneR y l).1, .int .i64 (doneR y l).2]) ∧ Below w.heap.size w w' := by
    unfold doneR
    by_cases e : y.2.2 = 0
    · rw [if_pos e]
      rw [e] at F
      exact refDone_ok F
    · rw [if_neg e]
      exact refDone_err F e
  refine D.mono ?_
  rintro e w' ⟨rfl, b'⟩
  exact ⟨rfl, h.ask.still b' h.ask.lt, nts_row12 (own_below own b'), fun x o k d e => by have := (own.lt x (by rw [e]; rfl)).1; omega, b'⟩
theorem whole_mem {A : AskP} {k : Int} {i t c s : ByteArray} {sd q p al st en ra sh : Int} {cz : List Int} (h : ReadAs A k i t c s sd q p al st en ra sh cz) (hal : al = 2 → k = 1) : wholeE A = wholeB k al st en (curB cz) := by
  have e := h.eq
  have e1 : A.start = st := by rw [e]
  have e2 : A.stop = en := by rw [e]
  have e3 : A.algo = al := by rw [e]
  have e4 : A.kind = k := by rw [e]
  unfold wholeE wholeB
  rw [e1, e2, e3, e4, ← h.cur]
  exact ite_congr (propext ⟨fun x => ⟨x.1, inB_false.2 (by have := x.2; omega)⟩, fun x => ⟨x.1, fun c => by rw [inB_true.2 c] at x; simp at x⟩⟩) (fun _ => rfl) (fun _ => ite_congr (propext ⟨fun x => ⟨hal x.1, x⟩, fun x => x.2⟩) (fun _ => rfl) (fun _ => rfl))
theorem span_bound {K : Int} {F : List Fd} {k : Int} {i t c s : ByteArray} {sd q p al st en ra sh : Int} {cz : List Int} (hK : K = 1) (h0 : (decS K F).2.2 = 0) (h : ReadAs (askOf K F) k i t c s sd q p al st en ra sh cz) : -9223372036854775808 ≤ en - st ∧ en - st ≤ 9223372036854775807 := by
  have e := h.eq
  have e1 : (askOf K F).start = st := by rw [e]
  have e2 : (askOf K F).stop = en := by rw [e]
  subst hK
  unfold decS at h0
  rw [if_pos rfl] at h0
  have fit := runS_fresh_ok (headW 1) (head_ok h0)
  have f1 := int_back (fits_text (fit (5002, .int 0 1099511627776) (by unfold headW; rw [if_pos rfl]; simp)))
  have f2 := int_back (fits_text (fit (5003, .int 0 1099511627776) (by unfold headW; rw [if_pos rfl]; simp)))
  have s1 : (askOf 1 F).start = ((intVE (textOf F 5002) 0 1099511627776).1 : Int) := by
    show (if (1 : Int) = 1 then ((intVE (textOf F 5002) 0 1099511627776).1 : Int) else 0) = _
    rw [if_pos rfl]
  have s2 : (askOf 1 F).stop = ((intVE (textOf F 5003) 0 1099511627776).1 : Int) := by
    show (if (1 : Int) = 1 ∨ (1 : Int) = 3 then ((intVE (textOf F 5003) 0 1099511627776).1 : Int) else 0) = _
    rw [if_pos (.inl rfl)]
  rw [← e1, ← e2, s1, s2]
  omega
theorem row_as_ints {w : World} {v : Value} {L : List Nat} (h : Row w v L.length fun i => .int .i64 ((L.getD i 0 : Nat) : Int)) : Row w v (intsOf L).length fun i => .int .i64 ((intsOf L).getD i 0) := by
  rw [show (intsOf L).length = L.length by unfold intsOf; simp]
  refine h.same (fun i hi => ?_)
  unfold intsOf
  simp [hi]
theorem row_put {w w' : World} {r n : Nat} {a : Option Addr} {k d : Nat} {f : Nat → Value} (h : Row w (.slice a k d) n f) (hB : But (fun j => j = r) w w') (hr : ∀ b off, a = some ⟨b, off, none⟩ → b ≠ r) : Row w' (.slice a k d) n f := by
  obtain ⟨a', c', e, h1, h2, h3⟩ := h
  simp only [Value.slice.injEq] at e
  obtain ⟨rfl, e2, rfl⟩ := e
  refine ⟨a, d, by rw [e2], h1, h2, fun i hi => ?_⟩
  obtain ⟨b, off, ea, hc⟩ := h3 i hi
  exact ⟨b, off, ea, (hB.cell (World.block_lt_of_cell? _ _ hc) (hr b off ea)).trans hc⟩
set_option maxRecDepth 100000 in
set_option maxHeartbeats 16000000 in
theorem refDecode_read (tx : ByteArray) (w : World) (hs : tx.size ≤ 1000000) (hE : readE tx.data.toList ≠ 0) :
    Calls Tryz.prog 13 #[.string tx] w (RDecOk tx.data.toList w) := by
  have RD := fun w => refRead_any tx w hs
  obtain ⟨E, hEE⟩ : ∃ E, readE tx.data.toList = E := ⟨_, rfl⟩
  have HD : Hid (decT tx.data.toList = (0, (E : Int))) := by show decT tx.data.toList = _; unfold decT; rw [if_pos hE, hEE]
  have HRD : Hid (∀ w e w', RRead tx.data.toList w e w' → (e = .returned (.tuple #[.pointer none, .int .i64 (E : Int)]) ∧ Below w.heap.size w w')) := fun w e w' h => by
    rcases h with ⟨_, h1, h2⟩ | ⟨h1, _⟩
    · rw [hEE] at h1; exact ⟨h1, h2⟩
    · exact absurd h1 hE
  have HN : Hid (E ≠ 0) := by show E ≠ 0; rw [← hEE]; exact hE
  have te : ((E : Int) == 0) = false := beq_false_of_ne (by have := HN.out; omega)
  clear hE hEE
  have B0 : Hid (Below w.heap.size w (w.alloc (.cells #[.int .i64 0, .string ⟨#[]⟩, .string ⟨#[]⟩, .string ⟨#[]⟩, .string ⟨#[]⟩, .int .i64 0, .int .i64 0, .int .i64 0, .int .i64 0, .int .i64 0, .int .i64 0, .int .i64 0, .int .i64 0, (.slice none 0 0)] 32))) := (Below.refl _ w).alloc (Nat.le_refl _) _
  have C0 : Hid (CelA (w.alloc (.cells #[.int .i64 0, .string ⟨#[]⟩, .string ⟨#[]⟩, .string ⟨#[]⟩, .string ⟨#[]⟩, .int .i64 0, .int .i64 0, .int .i64 0, .int .i64 0, .int .i64 0, .int .i64 0, .int .i64 0, .int .i64 0, (.slice none 0 0)] 32)) w.heap.size 0 ⟨#[]⟩ ⟨#[]⟩ ⟨#[]⟩ ⟨#[]⟩ 0 0 0 0 0 0 0 0 (.slice none 0 0)) := ⟨AskAt.boxR w 0 ⟨#[]⟩ ⟨#[]⟩ ⟨#[]⟩ ⟨#[]⟩ 0 0 0 0 0 0 0 0 (.slice none 0 0), fun j => by simp⟩
  go_enter Tryz.func13, Tryz.ntmps13
  go_wp2_with fail
  refine (RD _).mono ?_
  intro e w1 hrd
  obtain ⟨rfl, b1⟩ := HRD.out _ _ _ hrd
  have C1 : Hid (CelA w1 w.heap.size 0 ⟨#[]⟩ ⟨#[]⟩ ⟨#[]⟩ ⟨#[]⟩ 0 0 0 0 0 0 0 0 (.slice none 0 0)) := C0.out.still b1
  have HB1 : Hid (Below w.heap.size w w1) := B0.out.trans (b1.mono B0.out.size)
  clear b1 RD hrd HRD
  obtain ⟨r9, z9⟩ := C1.out
  obtain ⟨r0, r1, r2, r3, r4, r5, r6, r7, r8, r9, r10, r11, r12, r13⟩ := r9
  have P : Hid (AskAt (put14 w1 w.heap.size 0 ⟨#[]⟩ ⟨#[]⟩ ⟨#[]⟩ ⟨#[]⟩ 0 0 0 0 0 0 0 0 (.slice none 0 0)) w.heap.size 0 ⟨#[]⟩ ⟨#[]⟩ ⟨#[]⟩ ⟨#[]⟩ 0 0 0 0 0 0 0 0 (.slice none 0 0)) := put_at C1.out.1 0 ⟨#[]⟩ ⟨#[]⟩ ⟨#[]⟩ ⟨#[]⟩ 0 0 0 0 0 0 0 0 (.slice none 0 0)
  have PB : Hid (But (fun j => j = w.heap.size) w1 (put14 w1 w.heap.size 0 ⟨#[]⟩ ⟨#[]⟩ ⟨#[]⟩ ⟨#[]⟩ 0 0 0 0 0 0 0 0 (.slice none 0 0))) := put_but _ _ _ _ _ _ _ _ _ _ _ _ _ _ _ _
  go_wp2_with fail
  have P' := P.out
  have PB' := PB.out
  unfold put14 at P' PB'
  clear P PB
  generalize hW9 : World.setCell _ ⟨w.heap.size, 13, none⟩ _ = W9 at *
  obtain ⟨p0, p1, p2, p3, p4, p5, p6, p7, p8, p9, p10, p11, p12, p13⟩ := P'
  refine bodyPost_ret (v := .tuple #[.agg #[.int .i64 0, .string ⟨#[]⟩, .string ⟨#[]⟩, .string ⟨#[]⟩, .string ⟨#[]⟩, .int .i64 0, .int .i64 0, .int .i64 0, .int .i64 0, .int .i64 0, .int .i64 0, .int .i64 0, .int .i64 0, (.slice none 0 0)], .int .i64 0, .int .i64 (E : Int)]) (by simp [results, Tryz.results13, go_sem, p0, p1, p2, p3, p4, p5, p6, p7, p8, p9, p10, p11, p12, p13]) rfl ?_
  exact ⟨0, ⟨#[]⟩, ⟨#[]⟩, ⟨#[]⟩, ⟨#[]⟩, 0, 0, 0, 0, 0, 0, 0, 0, none, 0, [], by rw [HD.out]; rfl, zero_as13 (by rw [HD.out]; have := HN.out; show (E : Int) ≠ 0; omega), row_nil13 _, HB1.out.trans (PB'.below HB1.out.size (fun i e => by omega))⟩
set_option maxRecDepth 100000 in
set_option maxHeartbeats 16000000 in
theorem refDecode_none (tx : ByteArray) (w : World) (hs : tx.size ≤ 1000000) (hE : readE tx.data.toList = 0) (hK0 : kindOf (textOf (fieldsL tx.data.toList).1 35) = 0) :
    Calls Tryz.prog 13 #[.string tx] w (RDecOk tx.data.toList w) := by
  have RD := fun w => refRead_any tx w hs
  obtain ⟨_, ⟨V35, rest, hl⟩, hnd⟩ := read_head hE
  have h35 : textOf (fieldsL tx.data.toList).1 35 = V35 := textOf_mem hnd (by rw [hl]; simp)
  have TS := text_small tx.data.toList
  obtain ⟨F, hF⟩ : ∃ F, (fieldsL tx.data.toList).1 = F := ⟨_, rfl⟩
  obtain ⟨K, hK⟩ : ∃ K, kindOf V35 = K := ⟨_, rfl⟩
  have k15 := kind_range V35
  rw [hK] at k15
  have HAK : Hid ((decT tx.data.toList).2 = 0 → decA tx.data.toList = askOf K F) := fun h => by
    unfold decA
    rw [if_pos h, h35, hF, hK]
  have HDT : Hid (decT tx.data.toList = if K = 0 then (35, 120) else if (doneE (decS K F) (F.map Prod.fst)).2 ≠ 0 then doneE (decS K F) (F.map Prod.fst) else wholeE (askOf K F)) := by
    show decT tx.data.toList = _
    unfold decT decE
    rw [if_neg (by omega), h35, hF, hK]
  have HRD : Hid (∀ w e w', RRead tx.data.toList w e w' → ∃ fb v, e = .returned (.tuple #[.pointer (some ⟨fb, 0, none⟩), .int .i64 0]) ∧ RSt w.heap.size (fun j => w.heap.size ≤ j) w w' fb v F ([], 0, 0)) := fun w e w' h => by
    rcases h with ⟨h1, _⟩ | ⟨_, fb, v, h1, h2⟩
    · exact absurd hE h1
    · rw [hF] at h2; exact ⟨fb, v, h1, h2⟩
  rw [hF] at hl hnd TS
  have HND : Hid ((F.map Prod.fst).Nodup) := hnd
  have HKK : Hid (kindOf V35 = K ∧ 0 ≤ K ∧ K ≤ 5) := ⟨hK, k15⟩
  have HTS : Hid (∀ t s, textO F t = some s → s.size ≤ 100000) := TS
  have HLN : Hid (∀ ws : List (Int × Want), ws.length ≤ 20 → (runR F ([35], 0, 0) ws).1.length ≤ 1000) := fun ws h => by
    have := runR_len F ws ([35], 0, 0)
    simp at this
    omega
  rw [h35, hK] at hK0
  clear h35 hF hK k15 hnd TS hE
  have B0 : Hid (Below w.heap.size w (w.alloc (.cells #[.int .i64 0, .string ⟨#[]⟩, .string ⟨#[]⟩, .string ⟨#[]⟩, .string ⟨#[]⟩, .int .i64 0, .int .i64 0, .int .i64 0, .int .i64 0, .int .i64 0, .int .i64 0, .int .i64 0, .int .i64 0, (.slice none 0 0)] 32))) := (Below.refl _ w).alloc (Nat.le_refl _) _
  have C0 : Hid (CelA (w.alloc (.cells #[.int .i64 0, .string ⟨#[]⟩, .string ⟨#[]⟩, .string ⟨#[]⟩, .string ⟨#[]⟩, .int .i64 0, .int .i64 0, .int .i64 0, .int .i64 0, .int .i64 0, .int .i64 0, .int .i64 0, .int .i64 0, (.slice none 0 0)] 32)) w.heap.size 0 ⟨#[]⟩ ⟨#[]⟩ ⟨#[]⟩ ⟨#[]⟩ 0 0 0 0 0 0 0 0 (.slice none 0 0)) := ⟨AskAt.boxR w 0 ⟨#[]⟩ ⟨#[]⟩ ⟨#[]⟩ ⟨#[]⟩ 0 0 0 0 0 0 0 0 (.slice none 0 0), fun j => by simp⟩
  go_enter Tryz.func13, Tryz.ntmps13
  go_wp2_with fail
  refine (RD _).mono ?_
  intro e w1 hrd
  obtain ⟨fb, v, rfl, u1, F1⟩ := HRD.out _ _ _ hrd
  have hsz : (w.alloc (.cells #[.int .i64 0, .string ⟨#[]⟩, .string ⟨#[]⟩, .string ⟨#[]⟩, .string ⟨#[]⟩, .int .i64 0, .int .i64 0, .int .i64 0, .int .i64 0, .int .i64 0, .int .i64 0, .int .i64 0, .int .i64 0, (.slice none 0 0)] 32)).heap.size = w.heap.size + 1 := by simp
  have HSZ : Hid (w.heap.size < w1.heap.size) := by show _ < _; have := F1.but.size; omega
  have Q0 : Hid (RS (w.heap.size + 1) (w.alloc (.cells #[.int .i64 0, .string ⟨#[]⟩, .string ⟨#[]⟩, .string ⟨#[]⟩, .string ⟨#[]⟩, .int .i64 0, .int .i64 0, .int .i64 0, .int .i64 0, .int .i64 0, .int .i64 0, .int .i64 0, .int .i64 0, (.slice none 0 0)] 32)) (w.heap.size + 1) (boxR w1 0 ⟨#[]⟩ ⟨#[]⟩ ⟨#[]⟩ ⟨#[]⟩ 0 0 0 0 0 0 0 0 (.slice none 0 0)) fb w1.heap.size v F ([], 0, 0) 0 ⟨#[]⟩ ⟨#[]⟩ ⟨#[]⟩ ⟨#[]⟩ 0 0 0 0 0 0 0 0 (.slice none 0 0) []) := by
    have bb := boxR_below w1 0 ⟨#[]⟩ ⟨#[]⟩ ⟨#[]⟩ ⟨#[]⟩ 0 0 0 0 0 0 0 0 (.slice none 0 0)
    have F2 := F1.still bb
    have lf := F1.lt
    rw [hsz] at F1 F2
    have lo1 := F1.lo
    refine ⟨⟨u1, F2.base ⟨by omega, by omega⟩ (fun g hg => ⟨(F2.own.lt g hg).1, by have := (F1.own.lt g hg).2; omega⟩), fun e => by have := (F1.own.lt _ e).2; omega⟩, AskAt.boxR w1 0 ⟨#[]⟩ ⟨#[]⟩ ⟨#[]⟩ ⟨#[]⟩ 0 0 0 0 0 0 0 0 (.slice none 0 0), fun j => by simp, by omega, fun e => by have := (F1.ownv.lt _ e).2; omega, ⟨Nat.le_refl _, by have := HSZ.out; omega⟩, ⟨w1.heap.size + 1, by omega, World.ownsRow_nil _ _ _ _, .inl rfl⟩, ?_⟩
    have b2 : Below (w.heap.size + 1) (w.alloc (.cells #[.int .i64 0, .string ⟨#[]⟩, .string ⟨#[]⟩, .string ⟨#[]⟩, .string ⟨#[]⟩, .int .i64 0, .int .i64 0, .int .i64 0, .int .i64 0, .int .i64 0, .int .i64 0, .int .i64 0, .int .i64 0, (.slice none 0 0)] 32)) w1 := F1.but.below (by omega) (fun i h => h)
    exact b2.trans (bb.mono (by have := HSZ.out; omega))
  obtain ⟨uK, FK, _⟩ := Q0.out.frm
  have K1 := refKind_any (w0 := boxR w1 0 ⟨#[]⟩ ⟨#[]⟩ ⟨#[]⟩ ⟨#[]⟩ 0 0 0 0 0 0 0 0 (.slice none 0 0)) ⟨uK, FK⟩ (by simp) V35 rest hl
  clear FK
  clear RD hrd HRD F1
  go_wp2_with fail
  refine K1.mono ?_
  rintro e w2 ⟨rfl, hS⟩
  have Q1 : Hid (RS (w.heap.size + 1) (w.alloc (.cells #[.int .i64 0, .string ⟨#[]⟩, .string ⟨#[]⟩, .string ⟨#[]⟩, .string ⟨#[]⟩, .int .i64 0, .int .i64 0, .int .i64 0, .int .i64 0, .int .i64 0, .int .i64 0, .int .i64 0, .int .i64 0, (.slice none 0 0)] 32)) (w.heap.size + 1) w2 fb w1.heap.size v F ([35], 0, 0) 0 ⟨#[]⟩ ⟨#[]⟩ ⟨#[]⟩ ⟨#[]⟩ 0 0 0 0 0 0 0 0 (.slice none 0 0) []) := Q0.out.next hS
  clear K1 hS Q0
  go_wp2_with fail
  go_loopw [9] (fun i wr => ∃ j : Nat, i = .int .i64 (j : Int) ∧ 1 ≤ j ∧ j ≤ 6 ∧ Hid (RS (w.heap.size + 1) (w.alloc (.cells #[.int .i64 0, .string ⟨#[]⟩, .string ⟨#[]⟩, .string ⟨#[]⟩, .string ⟨#[]⟩, .int .i64 0, .int .i64 0, .int .i64 0, .int .i64 0, .int .i64 0, .int .i64 0, .int .i64 0, .int .i64 0, (.slice none 0 0)] 32)) (w.heap.size + 1) wr fb w1.heap.size v F ([35], 0, 0) (if K < (j : Int) then K else 0) ⟨#[]⟩ ⟨#[]⟩ ⟨#[]⟩ ⟨#[]⟩ 0 0 0 0 0 0 0 0 (.slice none 0 0) [])) (fun i _ => 6 - (RowKit.intOf i).toNat)
  case atStart => exact ⟨1, rfl, by omega, by omega, by
    have := Q1.out
    have e : (if K < ((1 : Nat) : Int) then K else 0) = 0 := by have := HKK.out; split <;> omega
    rw [e]
    exact this⟩
  case round =>
    clear Q1
    obtain ⟨j, rfl, hj1, hj6, QJ⟩ := hrel
    by_cases hq : j < 6
    · have t0 : (j : Int) < 6 := by omega
      have WD := refWord_any (j : Int) (by omega) (by omega) wr
      have qb := beq_bytes (wordT (j : Int)) V35
      go_wp2_with fail
      refine WD.mono ?_
      rintro e w3 ⟨rfl, b3⟩
      have Q3 := QJ.out.still b3
      have HQ3 : Hid (RS (w.heap.size + 1) (w.alloc (.cells #[.int .i64 0, .string ⟨#[]⟩, .string ⟨#[]⟩, .string ⟨#[]⟩, .string ⟨#[]⟩, .int .i64 0, .int .i64 0, .int .i64 0, .int .i64 0, .int .i64 0, .int .i64 0, .int .i64 0, .int .i64 0, (.slice none 0 0)] 32)) (w.heap.size + 1) w3 fb w1.heap.size v F ([35], 0, 0) (if K < (j : Int) then K else 0) ⟨#[]⟩ ⟨#[]⟩ ⟨#[]⟩ ⟨#[]⟩ 0 0 0 0 0 0 0 0 (.slice none 0 0) []) := Q3
      clear WD b3
      by_cases hx : K = (j : Int)
      · rw [decide_eq_true ((kind_is (by omega) (by omega)).2 (by rw [HKK.out.1]; exact hx))] at qb
        have c0 := Q3.ask.1
        have z0 := Q3.fz 0
        have HX : Hid (K = (j : Int)) := hx
        have Q4 : Hid (RS (w.heap.size + 1) (w.alloc (.cells #[.int .i64 0, .string ⟨#[]⟩, .string ⟨#[]⟩, .string ⟨#[]⟩, .string ⟨#[]⟩, .int .i64 0, .int .i64 0, .int .i64 0, .int .i64 0, .int .i64 0, .int .i64 0, .int .i64 0, .int .i64 0, (.slice none 0 0)] 32)) (w.heap.size + 1) (w3.setCell ⟨w1.heap.size, 0, none⟩ (.int .i64 (j : Int))) fb w1.heap.size v F ([35], 0, 0) (if K < ((j + 1 : Nat) : Int) then K else 0) ⟨#[]⟩ ⟨#[]⟩ ⟨#[]⟩ ⟨#[]⟩ 0 0 0 0 0 0 0 0 (.slice none 0 0) []) := by
          have := Q3.set0 (j : Int)
          rw [show (if K < ((j + 1 : Nat) : Int) then K else 0) = (j : Int) by rw [if_pos (by omega)]; exact hx]
          exact this
        clear hx Q3
        generalize wordT (j : Int) = WJ at *
        generalize (if K < (j : Int) then K else 0) = KJ at *
        go_wp2_with fail
        go_roundw
        case rel => exact ⟨j + 1, by simp, by omega, by omega, Q4⟩
        case measure => simp [RowKit.intOf]; omega
      · rw [decide_eq_false (fun e => hx (by rw [← HKK.out.1]; exact (kind_is (by omega) (by omega)).1 e))] at qb
        have Q4 : Hid (RS (w.heap.size + 1) (w.alloc (.cells #[.int .i64 0, .string ⟨#[]⟩, .string ⟨#[]⟩, .string ⟨#[]⟩, .string ⟨#[]⟩, .int .i64 0, .int .i64 0, .int .i64 0, .int .i64 0, .int .i64 0, .int .i64 0, .int .i64 0, .int .i64 0, (.slice none 0 0)] 32)) (w.heap.size + 1) w3 fb w1.heap.size v F ([35], 0, 0) (if K < ((j + 1 : Nat) : Int) then K else 0) ⟨#[]⟩ ⟨#[]⟩ ⟨#[]⟩ ⟨#[]⟩ 0 0 0 0 0 0 0 0 (.slice none 0 0) []) := by
          show RS _ _ _ _ _ _ _ _ _ _ _ _ _ _ _ _ _ _ _ _ _ _ _ _
          rw [show (if K < ((j + 1 : Nat) : Int) then K else 0) = (if K < (j : Int) then K else 0) by
            by_cases h : K < (j : Int)
            · rw [if_pos h, if_pos (by omega)]
            · rw [if_neg h, if_neg (by omega)]]
          exact Q3
        clear hx Q3
        generalize wordT (j : Int) = WJ at *
        go_wp2_with fail
        go_roundw
        case rel => exact ⟨j + 1, by simp, by omega, by omega, Q4⟩
        case measure => simp [RowKit.intOf]; omega
    · obtain rfl : j = 6 := by omega
      have t0 : ¬ ((6 : Nat) : Int) < 6 := by omega
      have Q5 : Hid (RS (w.heap.size + 1) (w.alloc (.cells #[.int .i64 0, .string ⟨#[]⟩, .string ⟨#[]⟩, .string ⟨#[]⟩, .string ⟨#[]⟩, .int .i64 0, .int .i64 0, .int .i64 0, .int .i64 0, .int .i64 0, .int .i64 0, .int .i64 0, .int .i64 0, (.slice none 0 0)] 32)) (w.heap.size + 1) wr fb w1.heap.size v F ([35], 0, 0) K ⟨#[]⟩ ⟨#[]⟩ ⟨#[]⟩ ⟨#[]⟩ 0 0 0 0 0 0 0 0 (.slice none 0 0) []) := by
        have := QJ.out
        rw [if_pos (by have := HKK.out; omega)] at this
        exact this
      clear QJ
      have te : (K == 0) = true := beq_iff_eq.2 hK0
      have HD : Hid (decT tx.data.toList = (35, 120)) := by have := HDT.out; rw [if_pos hK0] at this; exact this
      have BQ := Q5.out.below
      have CC : Hid (CelA wr w.heap.size 0 ⟨#[]⟩ ⟨#[]⟩ ⟨#[]⟩ ⟨#[]⟩ 0 0 0 0 0 0 0 0 (.slice none 0 0)) := C0.out.still (by rw [show (w.alloc (.cells #[.int .i64 0, .string ⟨#[]⟩, .string ⟨#[]⟩, .string ⟨#[]⟩, .string ⟨#[]⟩, .int .i64 0, .int .i64 0, .int .i64 0, .int .i64 0, .int .i64 0, .int .i64 0, .int .i64 0, .int .i64 0, (.slice none 0 0)] 32)).heap.size = w.heap.size + 1 by simp]; exact BQ)
      have HB : Hid (Below w.heap.size w wr) := B0.out.trans (BQ.mono (by omega))
      obtain ⟨g0, g1, g2, g3, g4, g5, g6, g7, g8, g9, g10, g11, g12, g13⟩ := Q5.out.ask
      clear BQ hK0
      obtain ⟨r9, z9⟩ := CC.out
      obtain ⟨r0, r1, r2, r3, r4, r5, r6, r7, r8, r9, r10, r11, r12, r13⟩ := r9
      have P : Hid (AskAt (put14 wr w.heap.size 0 ⟨#[]⟩ ⟨#[]⟩ ⟨#[]⟩ ⟨#[]⟩ 0 0 0 0 0 0 0 0 (.slice none 0 0)) w.heap.size 0 ⟨#[]⟩ ⟨#[]⟩ ⟨#[]⟩ ⟨#[]⟩ 0 0 0 0 0 0 0 0 (.slice none 0 0)) := put_at CC.out.1 0 ⟨#[]⟩ ⟨#[]⟩ ⟨#[]⟩ ⟨#[]⟩ 0 0 0 0 0 0 0 0 (.slice none 0 0)
      have PB : Hid (But (fun j => j = w.heap.size) wr (put14 wr w.heap.size 0 ⟨#[]⟩ ⟨#[]⟩ ⟨#[]⟩ ⟨#[]⟩ 0 0 0 0 0 0 0 0 (.slice none 0 0))) := put_but _ _ _ _ _ _ _ _ _ _ _ _ _ _ _ _
      go_wp2_with fail
      have P' := P.out
      have PB' := PB.out
      unfold put14 at P' PB'
      clear P PB
      generalize hW9 : World.setCell _ ⟨w.heap.size, 13, none⟩ _ = W9 at *
      obtain ⟨p0, p1, p2, p3, p4, p5, p6, p7, p8, p9, p10, p11, p12, p13⟩ := P'
      refine bodyPost_ret (v := .tuple #[.agg #[.int .i64 0, .string ⟨#[]⟩, .string ⟨#[]⟩, .string ⟨#[]⟩, .string ⟨#[]⟩, .int .i64 0, .int .i64 0, .int .i64 0, .int .i64 0, .int .i64 0, .int .i64 0, .int .i64 0, .int .i64 0, (.slice none 0 0)], .int .i64 35, .int .i64 120]) (by simp [results, Tryz.results13, go_sem, p0, p1, p2, p3, p4, p5, p6, p7, p8, p9, p10, p11, p12, p13]) rfl ?_
      exact ⟨0, ⟨#[]⟩, ⟨#[]⟩, ⟨#[]⟩, ⟨#[]⟩, 0, 0, 0, 0, 0, 0, 0, 0, none, 0, [], by rw [HD.out]; rfl, zero_as13 (by rw [HD.out]; simp), row_nil13 _, HB.out.trans (PB'.below HB.out.size (fun i e => by omega))⟩
end Go.Proofs.YtepkmbpadhfbmaaGreatDoor
