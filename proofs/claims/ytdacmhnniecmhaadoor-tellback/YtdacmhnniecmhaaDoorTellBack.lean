/-
  What is encoded is decoded as it was, what is decoded is right and told again the same: the statement TellBack, for every tell and every text.
-/
import Derived.Test.YtdacmhnniecmhaaDoorTellAwake
import Derived.Test.YtdacmhnniecmhaaDoorTellDoor
import Derived.Test.YtdacmhnniecmhaaDoorTellCame
import Derived.Test.YtdacmhnniecmhaaDoorCards
import Derived.Test.YtdacmhnniecmhaaDoorTie
import Derived.SevenTiedAt
namespace Go.Proofs.YtdacmhnniecmhaaDoor
open Go.ChangeShapes Go.WideShapes Go.ChangeAt Go.WideMaps Go.WideElems Go.RowKit Go.Lib

theorem same_run (t : TellP) (w : World) : (Op.equalIn 10000 23 (.agg #[.int .i64 (t.2 0), .string (t.1 1), .string (t.1 2), .int .i64 (t.2 3), .int .i64 (t.2 4), .int .i64 (t.2 5), .int .i64 (t.2 6), .int .i64 (t.2 7), .int .i64 (t.2 8), .int .i64 (t.2 9)]) (.agg #[.int .i64 (t.2 0), .string (t.1 1), .string (t.1 2), .int .i64 (t.2 3), .int .i64 (t.2 4), .int .i64 (t.2 5), .int .i64 (t.2 6), .int .i64 (t.2 7), .int .i64 (t.2 8), .int .i64 (t.2 9)])).run Tryd.prog w = .ok true w := by
  rw [tell_eq]
  simp
theorem right_small {t : TellP} (R : RightP t) : (mk (cat (fieldsT t))).size ≤ 1000000 := by
  obtain ⟨ok, l64⟩ := right_allOk R
  have := cat_len ok
  rw [mk_size]
  omega
/-- A right tell's body is decoded as the tell. -/
theorem decode_back {t : TellP} (R : RightP t) (w : World) (hl : Let w) :
    Calls Tryd.prog 13 #[.string (mk (cat (fieldsT t)))] w fun e w' => e = .returned (.tuple #[.agg #[.int .i64 (t.2 0), .string (t.1 1), .string (t.1 2), .int .i64 (t.2 3), .int .i64 (t.2 4), .int .i64 (t.2 5), .int .i64 (t.2 6), .int .i64 (t.2 7), .int .i64 (t.2 8), .int .i64 (t.2 9)], .int .i64 0, .int .i64 0]) ∧ Below w.heap.size w w' := by
  obtain ⟨dt, da⟩ := dec_right R
  refine (decode_any _ w (right_small R) hl).mono ?_
  rintro e w' ⟨u, rfl, hS, b⟩
  rw [mk_list] at hS ⊢
  rw [dt, (hS.trans da).val]
  exact ⟨rfl, b⟩
set_option maxRecDepth 1000000 in
set_option maxHeartbeats 8000000 in
theorem tellBack_walk (w : World) (t : TellP) (s : ByteArray) (_ : s.size ≤ maxLen) (hp : Pow w) (hl : Let w) :
    Calls Tryd.prog 5 #[.agg #[.int .i64 (t.2 0), .string (t.1 1), .string (t.1 2), .int .i64 (t.2 3), .int .i64 (t.2 4), .int .i64 (t.2 5), .int .i64 (t.2 6), .int .i64 (t.2 7), .int .i64 (t.2 8), .int .i64 (t.2 9)], .string s] w fun e w' => e = .returned (.bool true) ∧ Below w.heap.size w w' := by
  have HBX0 : Hid (Below w.heap.size w (boxT w t)) := boxT_below w t
  have HA0 : Hid (TellAt (boxT w t) w.heap.size t) := TellAt.box w t
  have AW := awake13_any (boxT w t) (hl.still HBX0.out) (hp.still HBX0.out)
  have FW := fun w => few_any t w
  have HL : Hid (Let w) := hl
  have HP : Hid (Pow w) := hp
  clear hl hp
  cases hf : fewB t
  case false =>
    rw [hf] at FW
    clear hf
    go_enter Tryd.func5, Tryd.ntmps5
    go_wp2_with fail
    refine AW.mono ?_
    rintro e w1 ⟨rfl, b1⟩
    have HA1 : Hid (TellAt w1 w.heap.size t) := HA0.out.still b1
    have HB1 : Hid (Below w.heap.size w w1) := HBX0.out.trans (b1.mono HBX0.out.size)
    obtain ⟨a0, a1, a2, a3, a4, a5, a6, a7, a8, a9⟩ := HA1.out.all
    clear AW b1
    go_wp2_with fail
    refine (FW _).mono ?_
    rintro e w2 ⟨rfl, b2⟩
    have HA2 : Hid (TellAt w2 w.heap.size t) := HA1.out.still b2
    have HB2 : Hid (Below w.heap.size w w2) := HB1.out.trans (b2.mono HB1.out.size)
    clear FW b2 a0 a1 a2 a3 a4 a5 a6 a7 a8 a9
    go_wp2_with fail
    go_ret
    exact ⟨rfl, HB2.out⟩
  rw [hf] at FW
  clear hf
  by_cases h5 : 5000 < s.size
  case pos =>
    have t5 : (5000 : Int) < (s.size : Int) := by omega
    clear h5
    go_enter Tryd.func5, Tryd.ntmps5
    go_wp2_with fail
    refine AW.mono ?_
    rintro e w1 ⟨rfl, b1⟩
    have HA1 : Hid (TellAt w1 w.heap.size t) := HA0.out.still b1
    have HB1 : Hid (Below w.heap.size w w1) := HBX0.out.trans (b1.mono HBX0.out.size)
    obtain ⟨a0, a1, a2, a3, a4, a5, a6, a7, a8, a9⟩ := HA1.out.all
    clear AW b1
    go_wp2_with fail
    refine (FW _).mono ?_
    rintro e w2 ⟨rfl, b2⟩
    have HA2 : Hid (TellAt w2 w.heap.size t) := HA1.out.still b2
    have HB2 : Hid (Below w.heap.size w w2) := HB1.out.trans (b2.mono HB1.out.size)
    clear FW b2 a0 a1 a2 a3 a4 a5 a6 a7 a8 a9
    go_wp2_with fail
    go_ret
    exact ⟨rfl, HB2.out⟩
  have t5 : ¬ (5000 : Int) < (s.size : Int) := by omega
  have DE := fun w h => decode_any s w (by omega) h
  clear h5
  obtain ⟨T, E, hTE⟩ : ∃ T E, decT s.data.toList = (T, E) := ⟨_, _, rfl⟩
  have HTE : Hid (decT s.data.toList = (T, E)) := hTE
  clear hTE
  by_cases R : rightB t = true
  case neg =>
    have R' : rightB t = false := by simpa using R
    have EN := fun w => encode_no t w R'
    clear R R'
    go_enter Tryd.func5, Tryd.ntmps5
    go_wp2_with fail
    refine AW.mono ?_
    rintro e w1 ⟨rfl, b1⟩
    have HA1 : Hid (TellAt w1 w.heap.size t) := HA0.out.still b1
    have HB1 : Hid (Below w.heap.size w w1) := HBX0.out.trans (b1.mono HBX0.out.size)
    obtain ⟨a0, a1, a2, a3, a4, a5, a6, a7, a8, a9⟩ := HA1.out.all
    clear AW b1
    go_wp2_with fail
    refine (FW _).mono ?_
    rintro e w2 ⟨rfl, b2⟩
    have HA2 : Hid (TellAt w2 w.heap.size t) := HA1.out.still b2
    have HB2 : Hid (Below w.heap.size w w2) := HB1.out.trans (b2.mono HB1.out.size)
    clear FW b2 a0 a1 a2 a3 a4 a5 a6 a7 a8 a9
    obtain ⟨a0, a1, a2, a3, a4, a5, a6, a7, a8, a9⟩ := HA2.out.all
    go_wp2_with fail
    refine (EN _).mono ?_
    rintro e w3 ⟨rfl, b3⟩
    have HB3 : Hid (Below w.heap.size w w3) := HB2.out.trans (b3.mono HB2.out.size)
    clear EN b3 a0 a1 a2 a3 a4 a5 a6 a7 a8 a9
    have D9 := DE w3 (HL.out.still HB3.out)
    clear DE
    go_wp2_with fail
    refine D9.mono ?_
    rintro e w6 ⟨v, he, hS, b6⟩
    rw [HTE.out] at he
    have HB6 : Hid (Below w.heap.size w w6) := HB3.out.trans (b6.mono HB3.out.size)
    clear D9 b6
    by_cases hE : E = 0
    case neg =>
      have te : (E == 0) = false := beq_false_of_ne hE
      have hz : decA s.data.toList = zeroT 0 := if_neg (by rw [HTE.out]; exact hE)
      rw [hz] at hS
      rw [hS.val] at he
      have he' : e = .returned (.tuple #[.agg #[.int .i64 0, .string ⟨#[]⟩, .string ⟨#[]⟩, .int .i64 0, .int .i64 0, .int .i64 0, .int .i64 0, .int .i64 0, .int .i64 0, .int .i64 0], .int .i64 T, .int .i64 E]) := he
      subst he'
      have QZ : ∀ w, (Op.equalIn 10000 23 (.agg #[.int .i64 0, .string ⟨#[]⟩, .string ⟨#[]⟩, .int .i64 0, .int .i64 0, .int .i64 0, .int .i64 0, .int .i64 0, .int .i64 0, .int .i64 0]) (.agg #[.int .i64 0, .string ⟨#[]⟩, .string ⟨#[]⟩, .int .i64 0, .int .i64 0, .int .i64 0, .int .i64 0, .int .i64 0, .int .i64 0, .int .i64 0])).run Tryd.prog w = .ok true w := same_run (zeroT 0)
      clear he hS hz hE
      go_wp2_with fail
      go_ret
      exact ⟨rfl, HB6.out.alloc HB6.out.size _⟩
    have h0 : (decT s.data.toList).2 = 0 := by rw [HTE.out]; exact hE
    have RV : RightP v := hS.symm.right (dec_sound h0)
    unfold tellV at he
    subst he
    subst hE
    have HBX : Hid (Below w.heap.size w (boxT w6 v)) := HB6.out.trans ((boxT_below w6 v).mono HB6.out.size)
    have E9 := encode_yes v (boxT w6 v) RV (HL.out.still HBX.out) (HP.out.still HBX.out)
    have HRV : Hid (RightP v) := RV
    have HA : Hid (TellAt (boxT w6 v) w6.heap.size v) := TellAt.box w6 v
    clear hS h0 RV
    go_wp2_with fail
    refine E9.mono ?_
    rintro e w7 ⟨rfl, b7⟩
    have HB7 : Hid (Below w.heap.size w w7) := HBX.out.trans (b7.mono HBX.out.size)
    have HA7 : Hid (TellAt w7 w6.heap.size v) := HA.out.still b7
    have D8 := decode_back HRV.out w7 (HL.out.still HB7.out)
    generalize mk (cat (fieldsT v)) = cv at *
    clear E9 b7
    go_wp2_with fail
    refine D8.mono ?_
    rintro e w8 ⟨rfl, b8⟩
    have b8' : Below w7.heap.size w7 (boxT w8 v) := b8.trans ((boxT_below w8 v).mono b8.size)
    have HB8 : Hid (Below w.heap.size w (boxT w8 v)) := HB7.out.trans (b8'.mono HB7.out.size)
    have A8 := HA7.out.still b8'
    have HA8 : Hid (TellAt (boxT w8 v) w6.heap.size v) := A8
    obtain ⟨d0, d1, d2, d3, d4, d5, d6, d7, d8, d9⟩ := A8.all
    have R8 := right_any v (boxT w8 v)
    rw [(right_iff v).2 HRV.out] at R8
    have QE : ∀ w, (Op.equalIn 10000 23 (.agg #[.int .i64 (v.2 0), .string (v.1 1), .string (v.1 2), .int .i64 (v.2 3), .int .i64 (v.2 4), .int .i64 (v.2 5), .int .i64 (v.2 6), .int .i64 (v.2 7), .int .i64 (v.2 8), .int .i64 (v.2 9)]) (.agg #[.int .i64 (v.2 0), .string (v.1 1), .string (v.1 2), .int .i64 (v.2 3), .int .i64 (v.2 4), .int .i64 (v.2 5), .int .i64 (v.2 6), .int .i64 (v.2 7), .int .i64 (v.2 8), .int .i64 (v.2 9)])).run Tryd.prog w = .ok true w := same_run v
    clear D8 b8 b8' A8 HA HA7
    go_wp2_with fail
    refine R8.mono ?_
    rintro e w9 ⟨rfl, b9⟩
    obtain ⟨e0, e1, e2, e3, e4, e5, e6, e7, e8, e9⟩ := (HA8.out.still b9).all
    obtain ⟨f0, f1, f2, f3, f4, f5, f6, f7, f8, f9⟩ := ((TellAt.box w8 v).still b9).all
    have HB9 : Hid (Below w.heap.size w w9) := HB8.out.trans (b9.mono HB8.out.size)
    clear R8 b9 d0 d1 d2 d3 d4 d5 d6 d7 d8 d9
    go_wp2_with fail
    go_ret
    exact ⟨rfl, HB9.out⟩
  have RP := (right_iff t).1 R
  have HRP : Hid (RightP t) := RP
  clear R
  go_enter Tryd.func5, Tryd.ntmps5
  go_wp2_with fail
  refine AW.mono ?_
  rintro e w1 ⟨rfl, b1⟩
  have HA1 : Hid (TellAt w1 w.heap.size t) := HA0.out.still b1
  have HB1 : Hid (Below w.heap.size w w1) := HBX0.out.trans (b1.mono HBX0.out.size)
  obtain ⟨a0, a1, a2, a3, a4, a5, a6, a7, a8, a9⟩ := HA1.out.all
  clear AW b1
  go_wp2_with fail
  refine (FW _).mono ?_
  rintro e w2 ⟨rfl, b2⟩
  have HA2 : Hid (TellAt w2 w.heap.size t) := HA1.out.still b2
  have HB2 : Hid (Below w.heap.size w w2) := HB1.out.trans (b2.mono HB1.out.size)
  clear FW b2 a0 a1 a2 a3 a4 a5 a6 a7 a8 a9
  obtain ⟨a0, a1, a2, a3, a4, a5, a6, a7, a8, a9⟩ := HA2.out.all
  have EY := encode_yes t w2 HRP.out (HL.out.still HB2.out) (HP.out.still HB2.out)
  clear RP
  go_wp2_with fail
  refine EY.mono ?_
  rintro e w3 ⟨rfl, b3⟩
  have HB3 : Hid (Below w.heap.size w w3) := HB2.out.trans (b3.mono HB2.out.size)
  have HA3 : Hid (TellAt w3 w.heap.size t) := HA2.out.still b3
  have DB := decode_back HRP.out w3 (HL.out.still HB3.out)
  generalize mk (cat (fieldsT t)) = ct at *
  clear EY b3 a0 a1 a2 a3 a4 a5 a6 a7 a8 a9
  go_wp2_with fail
  refine DB.mono ?_
  rintro e w4 ⟨rfl, b4⟩
  have b4' : Below w3.heap.size w3 (boxT w4 t) := b4.trans ((boxT_below w4 t).mono b4.size)
  have HB4 : Hid (Below w.heap.size w (boxT w4 t)) := HB3.out.trans (b4'.mono HB3.out.size)
  have A4 := HA3.out.still b4'
  obtain ⟨a0, a1, a2, a3, a4, a5, a6, a7, a8, a9⟩ := A4.all
  have R4 := right_any t (boxT w4 t)
  rw [(right_iff t).2 HRP.out] at R4
  have QT : ∀ w, (Op.equalIn 10000 23 (.agg #[.int .i64 (t.2 0), .string (t.1 1), .string (t.1 2), .int .i64 (t.2 3), .int .i64 (t.2 4), .int .i64 (t.2 5), .int .i64 (t.2 6), .int .i64 (t.2 7), .int .i64 (t.2 8), .int .i64 (t.2 9)]) (.agg #[.int .i64 (t.2 0), .string (t.1 1), .string (t.1 2), .int .i64 (t.2 3), .int .i64 (t.2 4), .int .i64 (t.2 5), .int .i64 (t.2 6), .int .i64 (t.2 7), .int .i64 (t.2 8), .int .i64 (t.2 9)])).run Tryd.prog w = .ok true w := same_run t
  clear DB b4 b4' A4
  go_wp2_with fail
  refine R4.mono ?_
  rintro e w5 ⟨rfl, b5⟩
  have HB5 : Hid (Below w.heap.size w w5) := HB4.out.trans (b5.mono HB4.out.size)
  clear R4 b5 a0 a1 a2 a3 a4 a5 a6 a7 a8 a9 QT
  have D9 := DE w5 (HL.out.still HB5.out)
  clear DE
  go_wp2_with fail
  refine D9.mono ?_
  rintro e w6 ⟨v, he, hS, b6⟩
  rw [HTE.out] at he
  have HB6 : Hid (Below w.heap.size w w6) := HB5.out.trans (b6.mono HB5.out.size)
  clear D9 b6
  by_cases hE : E = 0
  case neg =>
    have te : (E == 0) = false := beq_false_of_ne hE
    have hz : decA s.data.toList = zeroT 0 := if_neg (by rw [HTE.out]; exact hE)
    rw [hz] at hS
    rw [hS.val] at he
    have he' : e = .returned (.tuple #[.agg #[.int .i64 0, .string ⟨#[]⟩, .string ⟨#[]⟩, .int .i64 0, .int .i64 0, .int .i64 0, .int .i64 0, .int .i64 0, .int .i64 0, .int .i64 0], .int .i64 T, .int .i64 E]) := he
    subst he'
    have QZ : ∀ w, (Op.equalIn 10000 23 (.agg #[.int .i64 0, .string ⟨#[]⟩, .string ⟨#[]⟩, .int .i64 0, .int .i64 0, .int .i64 0, .int .i64 0, .int .i64 0, .int .i64 0, .int .i64 0]) (.agg #[.int .i64 0, .string ⟨#[]⟩, .string ⟨#[]⟩, .int .i64 0, .int .i64 0, .int .i64 0, .int .i64 0, .int .i64 0, .int .i64 0, .int .i64 0])).run Tryd.prog w = .ok true w := same_run (zeroT 0)
    clear he hS hz hE
    go_wp2_with fail
    go_ret
    exact ⟨rfl, HB6.out.alloc HB6.out.size _⟩
  have h0 : (decT s.data.toList).2 = 0 := by rw [HTE.out]; exact hE
  have RV : RightP v := hS.symm.right (dec_sound h0)
  unfold tellV at he
  subst he
  subst hE
  have HBX : Hid (Below w.heap.size w (boxT w6 v)) := HB6.out.trans ((boxT_below w6 v).mono HB6.out.size)
  have E9 := encode_yes v (boxT w6 v) RV (HL.out.still HBX.out) (HP.out.still HBX.out)
  have HRV : Hid (RightP v) := RV
  have HA : Hid (TellAt (boxT w6 v) w6.heap.size v) := TellAt.box w6 v
  clear hS h0 RV
  go_wp2_with fail
  refine E9.mono ?_
  rintro e w7 ⟨rfl, b7⟩
  have HB7 : Hid (Below w.heap.size w w7) := HBX.out.trans (b7.mono HBX.out.size)
  have HA7 : Hid (TellAt w7 w6.heap.size v) := HA.out.still b7
  have D8 := decode_back HRV.out w7 (HL.out.still HB7.out)
  generalize mk (cat (fieldsT v)) = cv at *
  clear E9 b7
  go_wp2_with fail
  refine D8.mono ?_
  rintro e w8 ⟨rfl, b8⟩
  have b8' : Below w7.heap.size w7 (boxT w8 v) := b8.trans ((boxT_below w8 v).mono b8.size)
  have HB8 : Hid (Below w.heap.size w (boxT w8 v)) := HB7.out.trans (b8'.mono HB7.out.size)
  have A8 := HA7.out.still b8'
  have HA8 : Hid (TellAt (boxT w8 v) w6.heap.size v) := A8
  obtain ⟨d0, d1, d2, d3, d4, d5, d6, d7, d8, d9⟩ := A8.all
  have R8 := right_any v (boxT w8 v)
  rw [(right_iff v).2 HRV.out] at R8
  have QE : ∀ w, (Op.equalIn 10000 23 (.agg #[.int .i64 (v.2 0), .string (v.1 1), .string (v.1 2), .int .i64 (v.2 3), .int .i64 (v.2 4), .int .i64 (v.2 5), .int .i64 (v.2 6), .int .i64 (v.2 7), .int .i64 (v.2 8), .int .i64 (v.2 9)]) (.agg #[.int .i64 (v.2 0), .string (v.1 1), .string (v.1 2), .int .i64 (v.2 3), .int .i64 (v.2 4), .int .i64 (v.2 5), .int .i64 (v.2 6), .int .i64 (v.2 7), .int .i64 (v.2 8), .int .i64 (v.2 9)])).run Tryd.prog w = .ok true w := same_run v
  clear D8 b8 b8' A8 HA HA7
  go_wp2_with fail
  refine R8.mono ?_
  rintro e w9 ⟨rfl, b9⟩
  obtain ⟨e0, e1, e2, e3, e4, e5, e6, e7, e8, e9⟩ := (HA8.out.still b9).all
  obtain ⟨f0, f1, f2, f3, f4, f5, f6, f7, f8, f9⟩ := ((TellAt.box w8 v).still b9).all
  have HB9 : Hid (Below w.heap.size w w9) := HB8.out.trans (b9.mono HB8.out.size)
  clear R8 b9 d0 d1 d2 d3 d4 d5 d6 d7 d8 d9
  go_wp2_with fail
  go_ret
  exact ⟨rfl, HB9.out⟩
set_option maxRecDepth 100000 in
theorem tellBack_lifted (os : Os) (started : os.Started) (H : Type) (enc : TypeId × Value → H) :
    ReturnsInHanded {} Tryd.checked os 5 .any (fun w args => (Rows.tellBackSpec.pre enc Tryd.prog Tryd.f5 [] false w args ∧ laidMetH Tryd.prog Rows.tellBackRow.laid w) ∧ sizedMet enc Tryd.prog Tryd.f5 (OpenSpec.ofChange Rows.tellBackSpec) false w args)
      (Rows.tellBackSpec.post enc Tryd.prog Tryd.f5 false true false false) := by
  refine returnsInHanded_of_change_and (C := Tryd.checked) (X := fun w _ => laidMetH Tryd.prog laid8 w) (fun _ _ _ hh h => h.of_heap hh) own8 started (by kernel_rfl) Tryd.func5
    (ChangeSpec.witness_shaped (enc := enc) (C := Tryd.checked) (os := os) (X := fun w _ => laidMetH Tryd.prog laid8 w) false (World.doorLaid Tryd.prog 400 os) #[.agg #[.int .i64 0, .string ⟨#[]⟩, .string ⟨#[]⟩, .int .i64 0, .int .i64 0, .int .i64 0, .int .i64 0, .int .i64 0, .int .i64 0, .int .i64 0], .string ⟨#[]⟩] 8 rfl (World.shaped_of_RefB (by kernel_rfl) (by kernel_rfl)) (by kernel_rfl) (by kernel_rfl) (by kernel_rfl) (door_met os _)) ?_
  intro W base args ds gs before hval0 hW _ _ hL _
  have hval : ∀ (j : Nat) t v, Tryd.f5.params[j]? = some t → args[j]? = some v → Value.okWide Tryd.prog W .any base t v := hval0
  have hW' := hW
  obtain ⟨p, q, hA0, hV, rfl, hfz, hnd⟩ := hW
  have hA : DataW.TrodAll enc Tryd.prog W 0 (fun _ => true) true Tryd.f5.params.toList args.toList ds p := hA0
  rw [Tryd.params5] at hA hval
  obtain ⟨v0, vs0, d0, ds0, p0, q0, hargs, rfl, rfl, h0, r0⟩ := trodAll_cons hA
  obtain ⟨v1, vs1, d1, ds1, p1, q1, rfl, rfl, rfl, h1, r1⟩ := trodAll_cons r0
  obtain ⟨rfl, rfl, rfl⟩ := trodAll_nil r1
  obtain rfl : args = #[v0, v1] := by cases args; simp_all
  obtain ⟨rfl, rfl⟩ := trodVars_none hV
  have k0 := h0
  have lt0 : ∀ x ∈ p0, x.block < W.heap.size := by obtain ⟨m, hm⟩ := k0; exact DataW.trod_lt m _ _ _ hm
  obtain ⟨t0, rfl⟩ := open_tell (hval 0 23 v0 rfl rfl) h0
  obtain ⟨s1, rfl, rfl, rfl, w1⟩ := Go.ChangeMaps.open_string Tryd.underlying9 (hval 1 9 v1 rfl rfl) h1
  clear hA0 hval0
  simp only [List.append_nil] at hW'
  refine (tellBack_walk W t0 s1 w1 (pow_of_laid hL) (let_of_laid hL)).mono fun e W' ⟨he, bel⟩ => ?_
  subst he
  exact ⟨_, rfl, _, _, _, [], _, [], hW', trodAll_mk1 (shut_bool Tryd.underlying4 _), (trodAll_cons_mk (Below.trod laidOut8 (by kernel_rfl) (of_decide_eq_true (by kernel_rfl)) k0 bel lt0) (trodAll_cons_mk (Go.ChangeMaps.shut_string Tryd.underlying9 w1) trodAll_mk0)), rfl, bel.frame _, fun h => by cases h⟩

/-- The row. -/
theorem tellBack_row : Rows.TellBackSaid :=
  OpenClaim.holds_of_wide 5 Tryd.f5 rfl rfl rfl rfl rfl rfl rfl ⟨rfl, rfl, rfl, rfl, rfl⟩ rfl rfl rfl rfl rfl (by kernel_rfl) Tryd.func5 (by kernel_rfl)
    (of_decide_eq_true (by kernel_rfl)) (by unfold Func.isWrapper; first | (rw [if_pos (by decide +kernel)]; kernel_rfl) | (rw [if_neg (by decide +kernel)]; exact ⟨rfl, rfl⟩))
    (fun os started H enc _ => tellBack_lifted os started H enc)
/-- THE STATEMENT: the tied card. -/
theorem tellBack_proved : Rows.TellBackCardSaid :=
  Claim7.holds_tied_plain_at .later [] Rows.tellBackCard.laidKinds true Rows.tellBackCard.stood.harness Rows.tellBackCard.stood.looks
    tellBack_row (fun _ h => by cases h) (by kernel_rfl) (fun _ h => by cases h) tellBack_row_tie rfl ⟨rfl, rfl⟩ (by kernel_rfl) rfl
    (fun f fn hf hfn => by
      obtain rfl : f = 5 := Option.some.inj ((show Tryd.prog.funcNamed Rows.tellBackRow.func = some 5 by kernel_rfl).symm.trans hf) |>.symm
      obtain rfl : fn = Tryd.f5 := (Option.some.inj (Tryd.func5.symm.trans hfn)).symm
      exact ⟨by kernel_rfl, fun j t ht => by
        rw [Tryd.params5] at ht
        have hm : t ∈ [23, 9] := by simpa using Array.mem_of_getElem? ht
        have hall : ([23, 9].all fun u => !Tryd.prog.wantsStandIn u) = true := by kernel_rfl
        exact (show Tryd.prog.wantsStandIn t = false by simpa using List.all_eq_true.1 hall t hm)⟩)
    (by kernel_rfl)
#print axioms tellBack_proved
end Go.Proofs.YtdacmhnniecmhaaDoor
