/-
  The contract of tell's Decode, for every text.
-/
import Derived.Test.YtdacmhnniecmhaaDoorTellRead
import Derived.Test.YtdacmhnniecmhaaDoorTellKind
namespace Go.Proofs.YtdacmhnniecmhaaDoor
open Go.ChangeShapes Go.WideShapes Go.ChangeAt Go.RowKit Go.Lib

/-- What Decode answers of a text. -/
def DecOk (l : List UInt8) (w : World) (e : Ending) (w' : World) : Prop := ∃ u, e = .returned (.tuple #[tellV u, .int .i64 (decT l).1, .int .i64 (decT l).2]) ∧ Same u (decA l) ∧ Below w.heap.size w w'
/-- No tell, put into a block. -/
def put0 (w : World) (r : Nat) : World := ((((((((((w.setCell ⟨r, 0, none⟩ (.int .i64 0)).setCell ⟨r, 1, none⟩ (.string ⟨#[]⟩)).setCell ⟨r, 2, none⟩ (.string ⟨#[]⟩)).setCell ⟨r, 3, none⟩ (.int .i64 0)).setCell ⟨r, 4, none⟩ (.int .i64 0)).setCell ⟨r, 5, none⟩ (.int .i64 0)).setCell ⟨r, 6, none⟩ (.int .i64 0)).setCell ⟨r, 7, none⟩ (.int .i64 0)).setCell ⟨r, 8, none⟩ (.int .i64 0)).setCell ⟨r, 9, none⟩ (.int .i64 0))
theorem put0_eq (w : World) (r : Nat) : put10 w r (zeroT 0) = put0 w r := rfl
theorem TellAt.zero {w : World} {b : Nat} (h : TellAt w b (zeroT 0)) : w.cell? ⟨b, 0, none⟩ = some (.int .i64 0) ∧ w.cell? ⟨b, 1, none⟩ = some (.string ⟨#[]⟩) ∧ w.cell? ⟨b, 2, none⟩ = some (.string ⟨#[]⟩) ∧ w.cell? ⟨b, 3, none⟩ = some (.int .i64 0) ∧ w.cell? ⟨b, 4, none⟩ = some (.int .i64 0) ∧ w.cell? ⟨b, 5, none⟩ = some (.int .i64 0) ∧ w.cell? ⟨b, 6, none⟩ = some (.int .i64 0) ∧ w.cell? ⟨b, 7, none⟩ = some (.int .i64 0) ∧ w.cell? ⟨b, 8, none⟩ = some (.int .i64 0) ∧ w.cell? ⟨b, 9, none⟩ = some (.int .i64 0) := h.all
theorem zero_same13 {l : List UInt8} (h : (decT l).2 ≠ 0) : Same (zeroT 0) (decA l) := by
  have e : decA l = zeroT 0 := if_neg h
  rw [e]
  exact Same.refl _
/-- The block of the result. -/
abbrev outW (w : World) : World := w.alloc (.cells #[.int .i64 0, .string ⟨#[]⟩, .string ⟨#[]⟩, .int .i64 0, .int .i64 0, .int .i64 0, .int .i64 0, .int .i64 0, .int .i64 0, .int .i64 0] 23)
theorem out_below (w : World) : Below w.heap.size w (outW w) := (Below.refl _ w).alloc (Nat.le_refl _) _
theorem out_at (w : World) : TellAt (outW w) w.heap.size (zeroT 0) := TellAt.box w (zeroT 0)
set_option maxRecDepth 100000 in
set_option maxHeartbeats 8000000 in
theorem decode_read (s : ByteArray) (w : World) (hs : s.size ≤ 1000000) (hE : readE s.data.toList ≠ 0) :
    Calls Tryd.prog 13 #[.string s] w (DecOk s.data.toList w) := by
  have RD := fun w => read_any s w hs
  obtain ⟨E, hEE⟩ : ∃ E, readE s.data.toList = E := ⟨_, rfl⟩
  have HD : Hid (decT s.data.toList = (0, (E : Int))) := by show decT s.data.toList = _; unfold decT; rw [if_pos hE, hEE]
  rw [hEE] at RD hE
  have te : ((E : Int) == 0) = false := beq_false_of_ne (by omega)
  have HE : Hid (E ≠ 0) := hE
  clear hE hEE
  have B0 : Hid (Below w.heap.size w (outW w)) := out_below w
  have C0 : Hid (TellAt (outW w) w.heap.size (zeroT 0)) := out_at w
  go_enter Tryd.func13, Tryd.ntmps13
  go_wp2_with fail
  refine (RD _).mono ?_
  rintro e w1 (⟨_, rfl, b1⟩ | ⟨e0, _⟩)
  · have C1 : Hid (TellAt w1 w.heap.size (zeroT 0)) := C0.out.still b1
    have HB1 : Hid (Below w.heap.size w w1) := B0.out.trans (b1.mono B0.out.size)
    clear b1 RD
    obtain ⟨r0, r1, r2, r3, r4, r5, r6, r7, r8, r9⟩ := C1.out.zero
    have z := C1.out.fz
    have P : Hid (TellAt (put0 w1 w.heap.size) w.heap.size (zeroT 0)) := put_at C1.out (zeroT 0)
    have PB : Hid (But (fun j => j = w.heap.size) w1 (put0 w1 w.heap.size)) := put_but w1 w.heap.size (zeroT 0)
    go_wp2_with fail
    have P' := P.out
    have PB' := PB.out
    unfold put0 at P' PB'
    clear P PB
    generalize hW9 : World.setCell _ ⟨w.heap.size, 9, none⟩ _ = W9 at *
    obtain ⟨p0, p1, p2, p3, p4, p5, p6, p7, p8, p9⟩ := P'.zero
    refine bodyPost_ret (v := .tuple #[.agg #[.int .i64 0, .string ⟨#[]⟩, .string ⟨#[]⟩, .int .i64 0, .int .i64 0, .int .i64 0, .int .i64 0, .int .i64 0, .int .i64 0, .int .i64 0], .int .i64 0, .int .i64 (E : Int)]) (by simp [results, Tryd.results13, go_sem, p0, p1, p2, p3, p4, p5, p6, p7, p8, p9]) rfl ?_
    exact ⟨zeroT 0, by rw [HD.out]; rfl, zero_same13 (by rw [HD.out]; have := HE.out; show (E : Int) ≠ 0; omega), HB1.out.trans (PB'.below HB1.out.size (fun i e => by have e' : i = w.heap.size := e; omega))⟩
  · exact absurd e0 HE.out
set_option maxRecDepth 100000 in
set_option maxHeartbeats 8000000 in
theorem decode_kind (s : ByteArray) (w : World) (hs : s.size ≤ 1000000) (hl : Let w) (hE : readE s.data.toList = 0) (hk : kindOf (textOf (fieldsL s.data.toList).1 35) = 0) :
    Calls Tryd.prog 13 #[.string s] w (DecOk s.data.toList w) := by
  have RD := fun w => read_any s w hs
  have HD : Hid (decT s.data.toList = (35, 120)) := by show decT s.data.toList = _; unfold decT decE; rw [if_neg (by omega), if_pos hk]
  have LK := kind_text hE
  have KO := fun w h => kindOf_any (textOf (fieldsL s.data.toList).1 35) w h
  rw [hk] at KO
  generalize (fieldsL s.data.toList).1 = F at *
  have HE : Hid (readE s.data.toList = 0) := hE
  have IK := fun w => isKind_any 0 w
  rw [show decide ((1 : Int) ≤ 0 ∧ (0 : Int) ≤ 4) = false by decide] at IK
  clear hE hk
  have B0 : Hid (Below w.heap.size w (outW w)) := out_below w
  have C0 : Hid (TellAt (outW w) w.heap.size (zeroT 0)) := out_at w
  go_enter Tryd.func13, Tryd.ntmps13
  go_wp2_with fail
  refine (RD _).mono ?_
  rintro e w1 (⟨e0, _, _⟩ | ⟨_, n0, fb, bm, tv, rfl, hn0, b1, F1⟩)
  · exact absurd HE.out e0
  · have C1 : Hid (TellAt w1 w.heap.size (zeroT 0)) := C0.out.still b1
    have HB1 : Hid (Below w.heap.size w w1) := B0.out.trans (b1.mono B0.out.size)
    have K1 := kind_yes F1 _ true LK
    have K2 := KO w1 (hl.still HB1.out)
    generalize textOf F 35 = tk at *
    clear b1 RD F1 KO
    go_wp2_with fail
    refine K1.mono ?_
    rintro e w2 ⟨rfl, rfl⟩
    go_wp2_with fail
    refine K2.mono ?_
    rintro e w2 ⟨rfl, rfl⟩
    go_wp2_with fail
    refine (IK _).mono ?_
    rintro e w2 ⟨rfl, rfl⟩
    obtain ⟨r0, r1, r2, r3, r4, r5, r6, r7, r8, r9⟩ := C1.out.zero
    have z := C1.out.fz
    clear IK
    have P : Hid (TellAt (put0 w2 w.heap.size) w.heap.size (zeroT 0)) := put_at C1.out (zeroT 0)
    have PB : Hid (But (fun j => j = w.heap.size) w2 (put0 w2 w.heap.size)) := put_but w2 w.heap.size (zeroT 0)
    go_wp2_with fail
    have P' := P.out
    have PB' := PB.out
    unfold put0 at P' PB'
    clear P PB
    generalize hW9 : World.setCell _ ⟨w.heap.size, 9, none⟩ _ = W9 at *
    obtain ⟨p0, p1, p2, p3, p4, p5, p6, p7, p8, p9⟩ := P'.zero
    refine bodyPost_ret (v := .tuple #[.agg #[.int .i64 0, .string ⟨#[]⟩, .string ⟨#[]⟩, .int .i64 0, .int .i64 0, .int .i64 0, .int .i64 0, .int .i64 0, .int .i64 0, .int .i64 0], .int .i64 35, .int .i64 120]) (by simp [results, Tryd.results13, go_sem, p0, p1, p2, p3, p4, p5, p6, p7, p8, p9]) rfl ?_
    exact ⟨zeroT 0, by rw [HD.out]; rfl, zero_same13 (by rw [HD.out]; simp), HB1.out.trans (PB'.below HB1.out.size (fun i e => by have e' : i = w.heap.size := e; omega))⟩
set_option maxRecDepth 100000 in
set_option maxHeartbeats 8000000 in
theorem decode_main (s : ByteArray) (w : World) (hs : s.size ≤ 1000000) (hl : Let w) (hE : readE s.data.toList = 0) (K : Int) (hk : kindOf (textOf (fieldsL s.data.toList).1 35) = K) (hk0 : K ≠ 0) :
    Calls Tryd.prog 13 #[.string s] w (DecOk s.data.toList w) := by
  have RD := fun w => read_any s w hs
  have LK := kind_text hE
  have SM := small_fields s.data.toList
  obtain ⟨RG, h64⟩ := fields_range s.data.toList
  have KO := fun w h => kindOf_any (textOf (fieldsL s.data.toList).1 35) w h
  rw [hk] at KO
  have k15 := kind_range (textOf (fieldsL s.data.toList).1 35)
  rw [hk] at k15
  obtain ⟨F, hF⟩ : ∃ F, (fieldsL s.data.toList).1 = F := ⟨_, rfl⟩
  rw [hF] at RD LK SM RG h64 KO hk
  have HDT : Hid (decT s.data.toList = doneE (decS K F) (F.map Prod.fst)) := by
    show decT s.data.toList = _
    unfold decT decE
    rw [if_neg (by omega), hF, hk, if_neg hk0]
  have HAK : Hid ((decT s.data.toList).2 = 0 → decA s.data.toList = tolds (listK K) F (zeroT K)) := fun h => by
    unfold decA
    rw [if_pos h, hF, hk]
  have RT : ∀ t ∈ F.map Prod.fst, -9223372036854775808 ≤ t ∧ t ≤ 9223372036854775807 := fun t ht => by
    obtain ⟨f, hf, rfl⟩ := List.mem_map.1 ht
    have := RG f hf
    omega
  have HE : Hid (readE s.data.toList = 0) := hE
  have IK := fun w => isKind_any K w
  rw [decide_eq_true (show 1 ≤ K ∧ K ≤ 4 by omega)] at IK
  have HR : Hid (1 ≤ K ∧ K ≤ 4) := by show 1 ≤ K ∧ K ≤ 4; omega
  have HT : Hid (∀ t ∈ F.map Prod.fst, -9223372036854775808 ≤ t ∧ t ≤ 9223372036854775807) := RT
  have HS : Hid (SmallL (lookF F)) := SM
  have H64 : Hid (F.length ≤ 64) := h64
  clear hE hk hF RG hk0 k15 RT SM h64
  have B0 : Hid (Below w.heap.size w (outW w)) := out_below w
  have C0 : Hid (TellAt (outW w) w.heap.size (zeroT 0)) := out_at w
  go_enter Tryd.func13, Tryd.ntmps13
  go_wp2_with fail
  refine (RD _).mono ?_
  rintro e w1 (⟨e0, _, _⟩ | ⟨_, n0, fb, bm, tv, rfl, hn0, b1, F1⟩)
  · exact absurd HE.out e0
  · have C1 : Hid (TellAt w1 w.heap.size (zeroT 0)) := C0.out.still b1
    have HB1 : Hid (Below w.heap.size w w1) := B0.out.trans (b1.mono B0.out.size)
    have K1 := kind_yes F1 _ true LK
    have K2 := KO w1 (hl.still HB1.out)
    have RE := readTell_any F1 HS.out (by have := H64.out; omega) K HR.out.1 HR.out.2
    have LF : Hid (w.heap.size < n0) := by
      show w.heap.size < n0
      have := hn0
      have := B0.out.size
      first | omega | (simp at *; omega)
    have lof := F1.lof
    have lom := F1.lom
    have NF : Hid (¬ (fun j => j = w.heap.size) fb ∧ ¬ (fun j => j = w.heap.size) bm) := ⟨fun e => by have e' : fb = w.heap.size := e; have := LF.out; omega, fun e => by have e' : bm = w.heap.size := e; have := LF.out; omega⟩
    have NT : Hid (¬ Two fb bm w.heap.size) := fun e => by have := LF.out; rcases e with e | e <;> omega
    have LT : Hid (∀ i, Two fb bm i → w.heap.size ≤ i) := fun i e => by have := LF.out; rcases e with e | e <;> omega
    clear b1 RD F1 KO hn0 lof lom LK
    generalize textOf F 35 = tk at *
    go_wp2_with fail
    refine K1.mono ?_
    rintro e w2 ⟨rfl, rfl⟩
    go_wp2_with fail
    refine K2.mono ?_
    rintro e w2 ⟨rfl, rfl⟩
    go_wp2_with fail
    refine (IK _).mono ?_
    rintro e w2 ⟨rfl, rfl⟩
    clear IK K1 K2
    go_wp2_with fail
    refine RE.mono ?_
    rintro e w3 ⟨n3, u, rfl, hu, R3⟩
    have HU : Hid (u = (fil (listK K) (x0F F) (zeroT K)).2) := hu
    have C3 := C1.out.but R3.but NT.out
    have HB3 : Hid (Below w.heap.size w w3) := HB1.out.trans (R3.but.below HB1.out.size LT.out)
    obtain ⟨r0, r1, r2, r3, r4, r5, r6, r7, r8, r9⟩ := C3.zero
    have z := C3.fz
    have PB := put_but w3 w.heap.size u
    have D1 := done_any (R3.frm.keepS PB NF.out.1 NF.out.2 (fun g hg e => by have e' : g = w.heap.size := e; have := (R3.frm.own.lt g hg).1; have := LF.out; omega)) HT.out
    have HC4 : Hid (TellAt (put10 w3 w.heap.size u) w.heap.size u) := put_at C3 u
    have HB4 : Hid (Below w.heap.size w (put10 w3 w.heap.size u)) := HB3.out.trans (PB.below HB3.out.size (fun i e => by have e' : i = w.heap.size := e; omega))
    have HY : Hid ((doneE (decS K F) (F.map Prod.fst)).2 = 0 → (decS K F).2.2 = 0) := fun h => (done_run h).1
    obtain ⟨DT, DE, hDD⟩ : ∃ DT DE, doneE (decS K F) (F.map Prod.fst) = (DT, DE) := ⟨_, _, rfl⟩
    rw [hDD] at D1 HDT HY
    dsimp only at D1 HDT HY
    unfold put10 at D1
    clear RE C1 R3 hu hDD C3 PB
    unfold tellV
    go_wp2_with fail
    refine D1.mono ?_
    rintro e w6 ⟨rfl, b6⟩
    have HC6 : Hid (TellAt w6 w.heap.size u) := HC4.out.still b6
    have HB6 : Hid (Below w.heap.size w w6) := HB4.out.trans (b6.mono HB4.out.size)
    clear D1 b6 r0 r1 r2 r3 r4 r5 r6 r7 r8 r9 z
    obtain ⟨r0, r1, r2, r3, r4, r5, r6, r7, r8, r9⟩ := HC6.out.all
    have z := HC6.out.fz
    by_cases hDE : DE = 0
    case neg =>
      have te : (DE == 0) = false := beq_false_of_ne hDE
      have HN : Hid (DE ≠ 0) := hDE
      clear hDE
      have P : Hid (TellAt (put0 w6 w.heap.size) w.heap.size (zeroT 0)) := put_at HC6.out (zeroT 0)
      have PB : Hid (But (fun j => j = w.heap.size) w6 (put0 w6 w.heap.size)) := put_but w6 w.heap.size (zeroT 0)
      go_wp2_with fail
      have P' := P.out
      have PB' := PB.out
      unfold put0 at P' PB'
      clear P PB
      generalize hW9 : World.setCell _ ⟨w.heap.size, 9, none⟩ _ = W9 at *
      obtain ⟨p0, p1, p2, p3, p4, p5, p6, p7, p8, p9⟩ := P'.zero
      refine bodyPost_ret (v := .tuple #[.agg #[.int .i64 0, .string ⟨#[]⟩, .string ⟨#[]⟩, .int .i64 0, .int .i64 0, .int .i64 0, .int .i64 0, .int .i64 0, .int .i64 0, .int .i64 0], .int .i64 DT, .int .i64 DE]) (by simp [results, Tryd.results13, go_sem, p0, p1, p2, p3, p4, p5, p6, p7, p8, p9]) rfl ?_
      exact ⟨zeroT 0, by rw [HDT.out]; rfl, zero_same13 (by rw [HDT.out]; exact HN.out), HB6.out.trans (PB'.below HB6.out.size (fun i e => by have e' : i = w.heap.size := e; omega))⟩
    case pos =>
      have HSM : Hid (Same u (decA s.data.toList)) := by
        show Same u _
        have h0 : (decT s.data.toList).2 = 0 := by rw [HDT.out]; exact hDE
        rw [HAK.out h0, HU.out]
        have := fil_told (l := F) (listK K) [] (zeroT K) (HY.out hDE)
        rw [show runS (x0F F) (([] : List Pl).map Pl.want) = x0F F from rfl] at this
        rw [this]
        exact Same.refl _
      have HZ : Hid (decT s.data.toList = (0, 0)) := decT_zero (by rw [HDT.out]; exact hDE)
      subst hDE
      have P : Hid (TellAt (put10 w6 w.heap.size u) w.heap.size u) := put_at HC6.out u
      have PB : Hid (But (fun j => j = w.heap.size) w6 (put10 w6 w.heap.size u)) := put_but w6 w.heap.size u
      go_wp2_with fail
      have P' := P.out
      have PB' := PB.out
      unfold put10 at P' PB'
      clear P PB
      generalize hW9 : World.setCell _ ⟨w.heap.size, 9, none⟩ _ = W9 at *
      obtain ⟨p0, p1, p2, p3, p4, p5, p6, p7, p8, p9⟩ := P'.all
      refine bodyPost_ret (v := .tuple #[.agg #[.int .i64 (u.2 0), .string (u.1 1), .string (u.1 2), .int .i64 (u.2 3), .int .i64 (u.2 4), .int .i64 (u.2 5), .int .i64 (u.2 6), .int .i64 (u.2 7), .int .i64 (u.2 8), .int .i64 (u.2 9)], .int .i64 0, .int .i64 0]) (by simp [results, Tryd.results13, go_sem, p0, p1, p2, p3, p4, p5, p6, p7, p8, p9]) rfl ?_
      exact ⟨u, by rw [HZ.out]; rfl, HSM.out, HB6.out.trans (PB'.below HB6.out.size (fun i e => by have e' : i = w.heap.size := e; omega))⟩
theorem decode_any (s : ByteArray) (w : World) (hs : s.size ≤ 1000000) (hl : Let w) : Calls Tryd.prog 13 #[.string s] w (DecOk s.data.toList w) := by
  by_cases hE : readE s.data.toList = 0
  · by_cases hk : kindOf (textOf (fieldsL s.data.toList).1 35) = 0
    · exact decode_kind s w hs hl hE hk
    · exact decode_main s w hs hl hE _ rfl hk
  · exact decode_read s w hs hE
end Go.Proofs.YtdacmhnniecmhaaDoor
