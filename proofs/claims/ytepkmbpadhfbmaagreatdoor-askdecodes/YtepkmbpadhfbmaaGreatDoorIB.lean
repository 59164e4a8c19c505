/-
  The contract of the reference's Decode, for every text: the case New4.
-/
import Derived.Test.YtepkmbpadhfbmaaGreatDoorGR
namespace Go.Proofs.YtepkmbpadhfbmaaGreatDoor
open Go.ChangeShapes Go.WideShapes Go.ChangeAt Go.RowKit Go.Lib
set_option maxRecDepth 100000 in
set_option maxHeartbeats 16000000 in
theorem refDecode_new4 (tx : ByteArray) (w : World) (hs : tx.size ≤ 1000000) (hE : readE tx.data.toList = 0) (hK1 : kindOf (textOf (fieldsL tx.data.toList).1 35) = 1) (ha : gotI (x0F (fieldsL tx.data.toList).1) [(11, .name), (1, .name), (55, .name), (54, .int 1 2), (38, .int 1 1099511627776), (44, .int 1 1099511627776)] 5001 1 4 = 4) :
    Calls Tryz.prog 13 #[.string tx] w (RDecOk tx.data.toList w) := by
  have RD := fun w => refRead_any tx w hs
  obtain ⟨_, ⟨V35, rest, hl⟩, hnd⟩ := read_head hE
  have h35 : textOf (fieldsL tx.data.toList).1 35 = V35 := textOf_mem hnd (by rw [hl]; simp)
  have TS := text_small tx.data.toList
  obtain ⟨F, hF⟩ : ∃ F, (fieldsL tx.data.toList).1 = F := ⟨_, rfl⟩
  obtain ⟨K, hK⟩ : ∃ K, kindOf V35 = K := ⟨_, rfl⟩
  have k15 := kind_range V35
  rw [hK] at k15
  have HAK : Hid ((decT tx.data.toList).2 = 0 → decA tx.data.toList = askOf K F) := fun h => by
    unfold decA
    rw [if_pos h, h35, hF, hK]
  have HDT : Hid (decT tx.data.toList = if K = 0 then (35, 120) else if (doneE (decS K F) (F.map Prod.fst)).2 ≠ 0 then doneE (decS K F) (F.map Prod.fst) else wholeE (askOf K F)) := by
    show decT tx.data.toList = _
    unfold decT decE
    rw [if_neg (by omega), h35, hF, hK]
  have HRD : Hid (∀ w e w', RRead tx.data.toList w e w' → ∃ fb v, e = .returned (.tuple #[.pointer (some ⟨fb, 0, none⟩), .int .i64 0]) ∧ RSt w.heap.size (fun j => w.heap.size ≤ j) w w' fb v F ([], 0, 0)) := fun w e w' h => by
    rcases h with ⟨h1, _⟩ | ⟨_, fb, v, h1, h2⟩
    · exact absurd hE h1
    · rw [hF] at h2; exact ⟨fb, v, h1, h2⟩
  rw [hF] at hl hnd TS
  have HND : Hid ((F.map Prod.fst).Nodup) := hnd
  have HKK : Hid (kindOf V35 = K ∧ 0 ≤ K ∧ K ≤ 5) := ⟨hK, k15⟩
  have HTS : Hid (∀ t s, textO F t = some s → s.size ≤ 100000) := TS
  have HLN : Hid (∀ ws : List (Int × Want), ws.length ≤ 20 → (runR F ([35], 0, 0) ws).1.length ≤ 1000) := fun ws h => by
    have := runR_len F ws ([35], 0, 0)
    simp at this
    omega
  rw [h35, hK] at hK1
  rw [hF] at ha
  have HK1 : Hid (K = 1) := hK1
  have HK0 : Hid (K ≠ 0) := by show K ≠ 0; omega
  have HALG : Hid (gotI (x0F F) [(11, .name), (1, .name), (55, .name), (54, .int 1 2), (38, .int 1 1099511627776), (44, .int 1 1099511627776)] 5001 1 4 = 4) := ha
  clear hK1 ha
  clear h35 hF hK k15 hnd TS hE
  have B0 : Hid (Below w.heap.size w (w.alloc (.cells #[.int .i64 0, .string ⟨#[]⟩, .string ⟨#[]⟩, .string ⟨#[]⟩, .string ⟨#[]⟩, .int .i64 0, .int .i64 0, .int .i64 0, .int .i64 0, .int .i64 0, .int .i64 0, .int .i64 0, .int .i64 0, (.slice none 0 0)] 32))) := (Below.refl _ w).alloc (Nat.le_refl _) _
  have C0 : Hid (CelA (w.alloc (.cells #[.int .i64 0, .string ⟨#[]⟩, .string ⟨#[]⟩, .string ⟨#[]⟩, .string ⟨#[]⟩, .int .i64 0, .int .i64 0, .int .i64 0, .int .i64 0, .int .i64 0, .int .i64 0, .int .i64 0, .int .i64 0, (.slice none 0 0)] 32)) w.heap.size 0 ⟨#[]⟩ ⟨#[]⟩ ⟨#[]⟩ ⟨#[]⟩ 0 0 0 0 0 0 0 0 (.slice none 0 0)) := ⟨AskAt.boxR w 0 ⟨#[]⟩ ⟨#[]⟩ ⟨#[]⟩ ⟨#[]⟩ 0 0 0 0 0 0 0 0 (.slice none 0 0), fun j => by simp⟩
  go_enter Tryz.func13, Tryz.ntmps13
  go_wp2_with fail
  refine (RD _).mono ?_
  intro e w1 hrd
  obtain ⟨fb, v, rfl, u1, F1⟩ := HRD.out _ _ _ hrd
  have hsz : (w.alloc (.cells #[.int .i64 0, .string ⟨#[]⟩, .string ⟨#[]⟩, .string ⟨#[]⟩, .string ⟨#[]⟩, .int .i64 0, .int .i64 0, .int .i64 0, .int .i64 0, .int .i64 0, .int .i64 0, .int .i64 0, .int .i64 0, (.slice none 0 0)] 32)).heap.size = w.heap.size + 1 := by simp
  have HSZ : Hid (w.heap.size < w1.heap.size) := by show _ < _; have := F1.but.size; omega
  have Q0 : Hid (RS (w.heap.size + 1) (w.alloc (.cells #[.int .i64 0, .string ⟨#[]⟩, .string ⟨#[]⟩, .string ⟨#[]⟩, .string ⟨#[]⟩, .int .i64 0, .int .i64 0, .int .i64 0, .int .i64 0, .int .i64 0, .int .i64 0, .int .i64 0, .int .i64 0, (.slice none 0 0)] 32)) (w.heap.size + 1) (boxR w1 0 ⟨#[]⟩ ⟨#[]⟩ ⟨#[]⟩ ⟨#[]⟩ 0 0 0 0 0 0 0 0 (.slice none 0 0)) fb w1.heap.size v F ([], 0, 0) 0 ⟨#[]⟩ ⟨#[]⟩ ⟨#[]⟩ ⟨#[]⟩ 0 0 0 0 0 0 0 0 (.slice none 0 0) []) := by
    have bb := boxR_below w1 0 ⟨#[]⟩ ⟨#[]⟩ ⟨#[]⟩ ⟨#[]⟩ 0 0 0 0 0 0 0 0 (.slice none 0 0)
    have F2 := F1.still bb
    have lf := F1.lt
    rw [hsz] at F1 F2
    have lo1 := F1.lo
    refine ⟨⟨u1, F2.base ⟨by omega, by omega⟩ (fun g hg => ⟨(F2.own.lt g hg).1, by have := (F1.own.lt g hg).2; omega⟩), fun e => by have := (F1.own.lt _ e).2; omega⟩, AskAt.boxR w1 0 ⟨#[]⟩ ⟨#[]⟩ ⟨#[]⟩ ⟨#[]⟩ 0 0 0 0 0 0 0 0 (.slice none 0 0), fun j => by simp, by omega, fun e => by have := (F1.ownv.lt _ e).2; omega, ⟨Nat.le_refl _, by have := HSZ.out; omega⟩, ⟨w1.heap.size + 1, by omega, World.ownsRow_nil _ _ _ _, .inl rfl⟩, ?_⟩
    have b2 : Below (w.heap.size + 1) (w.alloc (.cells #[.int .i64 0, .string ⟨#[]⟩, .string ⟨#[]⟩, .string ⟨#[]⟩, .string ⟨#[]⟩, .int .i64 0, .int .i64 0, .int .i64 0, .int .i64 0, .int .i64 0, .int .i64 0, .int .i64 0, .int .i64 0, (.slice none 0 0)] 32)) w1 := F1.but.below (by omega) (fun i h => h)
    exact b2.trans (bb.mono (by have := HSZ.out; omega))
  obtain ⟨uK, FK, _⟩ := Q0.out.frm
  have K1 := refKind_any (w0 := boxR w1 0 ⟨#[]⟩ ⟨#[]⟩ ⟨#[]⟩ ⟨#[]⟩ 0 0 0 0 0 0 0 0 (.slice none 0 0)) ⟨uK, FK⟩ (by simp) V35 rest hl
  clear FK
  clear RD hrd HRD F1
  go_wp2_with fail
  refine K1.mono ?_
  rintro e w2 ⟨rfl, hS⟩
  have Q1 : Hid (RS (w.heap.size + 1) (w.alloc (.cells #[.int .i64 0, .string ⟨#[]⟩, .string ⟨#[]⟩, .string ⟨#[]⟩, .string ⟨#[]⟩, .int .i64 0, .int .i64 0, .int .i64 0, .int .i64 0, .int .i64 0, .int .i64 0, .int .i64 0, .int .i64 0, (.slice none 0 0)] 32)) (w.heap.size + 1) w2 fb w1.heap.size v F ([35], 0, 0) 0 ⟨#[]⟩ ⟨#[]⟩ ⟨#[]⟩ ⟨#[]⟩ 0 0 0 0 0 0 0 0 (.slice none 0 0) []) := Q0.out.next hS
  clear K1 hS Q0
  go_wp2_with fail
  go_loopw [9] (fun i wr => ∃ j : Nat, i = .int .i64 (j : Int) ∧ 1 ≤ j ∧ j ≤ 6 ∧ Hid (RS (w.heap.size + 1) (w.alloc (.cells #[.int .i64 0, .string ⟨#[]⟩, .string ⟨#[]⟩, .string ⟨#[]⟩, .string ⟨#[]⟩, .int .i64 0, .int .i64 0, .int .i64 0, .int .i64 0, .int .i64 0, .int .i64 0, .int .i64 0, .int .i64 0, (.slice none 0 0)] 32)) (w.heap.size + 1) wr fb w1.heap.size v F ([35], 0, 0) (if K < (j : Int) then K else 0) ⟨#[]⟩ ⟨#[]⟩ ⟨#[]⟩ ⟨#[]⟩ 0 0 0 0 0 0 0 0 (.slice none 0 0) [])) (fun i _ => 6 - (RowKit.intOf i).toNat)
  case atStart => exact ⟨1, rfl, by omega, by omega, by
    have := Q1.out
    have e : (if K < ((1 : Nat) : Int) then K else 0) = 0 := by have := HKK.out; split <;> omega
    rw [e]
    exact this⟩
  case round =>
    clear Q1
    obtain ⟨j, rfl, hj1, hj6, QJ⟩ := hrel
    by_cases hq : j < 6
    · have t0 : (j : Int) < 6 := by omega
      have WD := refWord_any (j : Int) (by omega) (by omega) wr
      have qb := beq_bytes (wordT (j : Int)) V35
      go_wp2_with fail
      refine WD.mono ?_
      rintro e w3 ⟨rfl, b3⟩
      have Q3 := QJ.out.still b3
      have HQ3 : Hid (RS (w.heap.size + 1) (w.alloc (.cells #[.int .i64 0, .string ⟨#[]⟩, .string ⟨#[]⟩, .string ⟨#[]⟩, .string ⟨#[]⟩, .int .i64 0, .int .i64 0, .int .i64 0, .int .i64 0, .int .i64 0, .int .i64 0, .int .i64 0, .int .i64 0, (.slice none 0 0)] 32)) (w.heap.size + 1) w3 fb w1.heap.size v F ([35], 0, 0) (if K < (j : Int) then K else 0) ⟨#[]⟩ ⟨#[]⟩ ⟨#[]⟩ ⟨#[]⟩ 0 0 0 0 0 0 0 0 (.slice none 0 0) []) := Q3
      clear WD b3
      by_cases hx : K = (j : Int)
      · rw [decide_eq_true ((kind_is (by omega) (by omega)).2 (by rw [HKK.out.1]; exact hx))] at qb
        have c0 := Q3.ask.1
        have z0 := Q3.fz 0
        have HX : Hid (K = (j : Int)) := hx
        have Q4 : Hid (RS (w.heap.size + 1) (w.alloc (.cells #[.int .i64 0, .string ⟨#[]⟩, .string ⟨#[]⟩, .string ⟨#[]⟩, .string ⟨#[]⟩, .int .i64 0, .int .i64 0, .int .i64 0, .int .i64 0, .int .i64 0, .int .i64 0, .int .i64 0, .int .i64 0, (.slice none 0 0)] 32)) (w.heap.size + 1) (w3.setCell ⟨w1.heap.size, 0, none⟩ (.int .i64 (j : Int))) fb w1.heap.size v F ([35], 0, 0) (if K < ((j + 1 : Nat) : Int) then K else 0) ⟨#[]⟩ ⟨#[]⟩ ⟨#[]⟩ ⟨#[]⟩ 0 0 0 0 0 0 0 0 (.slice none 0 0) []) := by
          have := Q3.set0 (j : Int)
          rw [show (if K < ((j + 1 : Nat) : Int) then K else 0) = (j : Int) by rw [if_pos (by omega)]; exact hx]
          exact this
        clear hx Q3
        generalize wordT (j : Int) = WJ at *
        generalize (if K < (j : Int) then K else 0) = KJ at *
        go_wp2_with fail
        go_roundw
        case rel => exact ⟨j + 1, by simp, by omega, by omega, Q4⟩
        case measure => simp [RowKit.intOf]; omega
      · rw [decide_eq_false (fun e => hx (by rw [← HKK.out.1]; exact (kind_is (by omega) (by omega)).1 e))] at qb
        have Q4 : Hid (RS (w.heap.size + 1) (w.alloc (.cells #[.int .i64 0, .string ⟨#[]⟩, .string ⟨#[]⟩, .string ⟨#[]⟩, .string ⟨#[]⟩, .int .i64 0, .int .i64 0, .int .i64 0, .int .i64 0, .int .i64 0, .int .i64 0, .int .i64 0, .int .i64 0, (.slice none 0 0)] 32)) (w.heap.size + 1) w3 fb w1.heap.size v F ([35], 0, 0) (if K < ((j + 1 : Nat) : Int) then K else 0) ⟨#[]⟩ ⟨#[]⟩ ⟨#[]⟩ ⟨#[]⟩ 0 0 0 0 0 0 0 0 (.slice none 0 0) []) := by
          show RS _ _ _ _ _ _ _ _ _ _ _ _ _ _ _ _ _ _ _ _ _ _ _ _
          rw [show (if K < ((j + 1 : Nat) : Int) then K else 0) = (if K < (j : Int) then K else 0) by
            by_cases h : K < (j : Int)
            · rw [if_pos h, if_pos (by omega)]
            · rw [if_neg h, if_neg (by omega)]]
          exact Q3
        clear hx Q3
        generalize wordT (j : Int) = WJ at *
        go_wp2_with fail
        go_roundw
        case rel => exact ⟨j + 1, by simp, by omega, by omega, Q4⟩
        case measure => simp [RowKit.intOf]; omega
    · obtain rfl : j = 6 := by omega
      have t0 : ¬ ((6 : Nat) : Int) < 6 := by omega
      have Q5 : Hid (RS (w.heap.size + 1) (w.alloc (.cells #[.int .i64 0, .string ⟨#[]⟩, .string ⟨#[]⟩, .string ⟨#[]⟩, .string ⟨#[]⟩, .int .i64 0, .int .i64 0, .int .i64 0, .int .i64 0, .int .i64 0, .int .i64 0, .int .i64 0, .int .i64 0, (.slice none 0 0)] 32)) (w.heap.size + 1) wr fb w1.heap.size v F ([35], 0, 0) K ⟨#[]⟩ ⟨#[]⟩ ⟨#[]⟩ ⟨#[]⟩ 0 0 0 0 0 0 0 0 (.slice none 0 0) []) := by
        have := QJ.out
        rw [if_pos (by have := HKK.out; omega)] at this
        exact this
      clear QJ
      have te : (K == 0) = false := beq_false_of_ne HK0.out
      have Q6 : Hid (RS (w.heap.size + 1) (w.alloc (.cells #[.int .i64 0, .string ⟨#[]⟩, .string ⟨#[]⟩, .string ⟨#[]⟩, .string ⟨#[]⟩, .int .i64 0, .int .i64 0, .int .i64 0, .int .i64 0, .int .i64 0, .int .i64 0, .int .i64 0, .int .i64 0, (.slice none 0 0)] 32)) (w.heap.size + 1) (wr) fb w1.heap.size v F (runR F ([35], 0, 0) []) K ⟨#[]⟩ ⟨#[]⟩ ⟨#[]⟩ ⟨#[]⟩ 0 0 0 0 0 0 0 0 (.slice none 0 0) []) := Q5.out
      clear Q5
      have F11 := Q6.out.name (HLN.out _ (by decide)) HTS.out 11
      obtain ⟨g0, g1, g2, g3, g4, g5, g6, g7, g8, g9, g10, g11, g12, g13⟩ := Q6.out.ask
      go_wp2_with fail
      refine F11.mono ?_
      rintro e w11 ⟨vi, rfl, hv, P11⟩
      have c11 := P11.ask.2.1
      have z11 := P11.fz 1
      have Hvi : Hid (vi = gotN (x0F F) [] 11) := hv.trans (ref_told F [] 11 nameVE id ⟨#[]⟩)
      have Q11 : Hid (RS (w.heap.size + 1) (w.alloc (.cells #[.int .i64 0, .string ⟨#[]⟩, .string ⟨#[]⟩, .string ⟨#[]⟩, .string ⟨#[]⟩, .int .i64 0, .int .i64 0, .int .i64 0, .int .i64 0, .int .i64 0, .int .i64 0, .int .i64 0, .int .i64 0, (.slice none 0 0)] 32)) (w.heap.size + 1) (w11.setCell ⟨w1.heap.size, 1, none⟩ (.string vi)) fb w1.heap.size v F (runR F ([35], 0, 0) [(11, .name)]) K vi ⟨#[]⟩ ⟨#[]⟩ ⟨#[]⟩ 0 0 0 0 0 0 0 0 (.slice none 0 0) []) := P11.set1 vi
      clear F11 P11 hv Q6 g0 g1 g2 g3 g4 g5 g6 g7 g8 g9 g10 g11 g12 g13
      have gk1 : (K == 1) = true := beq_iff_eq.2 HK1.out
      have gk3 : (K == 3) = false := beq_false_of_ne (by have := HK1.out; omega)
      have F12 := Q11.out.name (HLN.out _ (by decide)) HTS.out 1
      obtain ⟨g0, g1, g2, g3, g4, g5, g6, g7, g8, g9, g10, g11, g12, g13⟩ := Q11.out.ask
      go_wp2_with fail
      refine F12.mono ?_
      rintro e w12 ⟨vc, rfl, hv, P12⟩
      have c12 := P12.ask.2.2.2.1
      have z12 := P12.fz 3
      have Hvc : Hid (vc = gotN (x0F F) [(11, .name)] 1) := hv.trans (ref_told F [(11, .name)] 1 nameVE id ⟨#[]⟩)
      have Q12 : Hid (RS (w.heap.size + 1) (w.alloc (.cells #[.int .i64 0, .string ⟨#[]⟩, .string ⟨#[]⟩, .string ⟨#[]⟩, .string ⟨#[]⟩, .int .i64 0, .int .i64 0, .int .i64 0, .int .i64 0, .int .i64 0, .int .i64 0, .int .i64 0, .int .i64 0, (.slice none 0 0)] 32)) (w.heap.size + 1) (w12.setCell ⟨w1.heap.size, 3, none⟩ (.string vc)) fb w1.heap.size v F (runR F ([35], 0, 0) [(11, .name), (1, .name)]) K vi ⟨#[]⟩ vc ⟨#[]⟩ 0 0 0 0 0 0 0 0 (.slice none 0 0) []) := P12.set3 vc
      clear F12 P12 hv Q11 g0 g1 g2 g3 g4 g5 g6 g7 g8 g9 g10 g11 g12 g13
      have F13 := Q12.out.name (HLN.out _ (by decide)) HTS.out 55
      obtain ⟨g0, g1, g2, g3, g4, g5, g6, g7, g8, g9, g10, g11, g12, g13⟩ := Q12.out.ask
      go_wp2_with fail
      refine F13.mono ?_
      rintro e w13 ⟨vs, rfl, hv, P13⟩
      have c13 := P13.ask.2.2.2.2.1
      have z13 := P13.fz 4
      have Hvs : Hid (vs = gotN (x0F F) [(11, .name), (1, .name)] 55) := hv.trans (ref_told F [(11, .name), (1, .name)] 55 nameVE id ⟨#[]⟩)
      have Q13 : Hid (RS (w.heap.size + 1) (w.alloc (.cells #[.int .i64 0, .string ⟨#[]⟩, .string ⟨#[]⟩, .string ⟨#[]⟩, .string ⟨#[]⟩, .int .i64 0, .int .i64 0, .int .i64 0, .int .i64 0, .int .i64 0, .int .i64 0, .int .i64 0, .int .i64 0, (.slice none 0 0)] 32)) (w.heap.size + 1) (w13.setCell ⟨w1.heap.size, 4, none⟩ (.string vs)) fb w1.heap.size v F (runR F ([35], 0, 0) [(11, .name), (1, .name), (55, .name)]) K vi ⟨#[]⟩ vc vs 0 0 0 0 0 0 0 0 (.slice none 0 0) []) := P13.set4 vs
      clear F13 P13 hv Q12 g0 g1 g2 g3 g4 g5 g6 g7 g8 g9 g10 g11 g12 g13
      have F14 := Q13.out.int (HLN.out _ (by decide)) HTS.out 54 1 2
      obtain ⟨g0, g1, g2, g3, g4, g5, g6, g7, g8, g9, g10, g11, g12, g13⟩ := Q13.out.ask
      go_wp2_with fail
      refine F14.mono ?_
      rintro e w14 ⟨vd, rfl, hv, P14⟩
      have c14 := P14.ask.2.2.2.2.2.1
      have z14 := P14.fz 5
      have Hvd : Hid (vd = gotI (x0F F) [(11, .name), (1, .name), (55, .name)] 54 1 2) := hv.trans (ref_told F [(11, .name), (1, .name), (55, .name)] 54 (fun s => (intVE s 1 2).2) (fun s => ((intVE s 1 2).1 : Int)) 0)
      have Q14 : Hid (RS (w.heap.size + 1) (w.alloc (.cells #[.int .i64 0, .string ⟨#[]⟩, .string ⟨#[]⟩, .string ⟨#[]⟩, .string ⟨#[]⟩, .int .i64 0, .int .i64 0, .int .i64 0, .int .i64 0, .int .i64 0, .int .i64 0, .int .i64 0, .int .i64 0, (.slice none 0 0)] 32)) (w.heap.size + 1) (w14.setCell ⟨w1.heap.size, 5, none⟩ (.int .i64 vd)) fb w1.heap.size v F (runR F ([35], 0, 0) [(11, .name), (1, .name), (55, .name), (54, .int 1 2)]) K vi ⟨#[]⟩ vc vs vd 0 0 0 0 0 0 0 (.slice none 0 0) []) := P14.set5 vd
      clear F14 P14 hv Q13 g0 g1 g2 g3 g4 g5 g6 g7 g8 g9 g10 g11 g12 g13
      have F15 := Q14.out.int (HLN.out _ (by decide)) HTS.out 38 1 1099511627776
      obtain ⟨g0, g1, g2, g3, g4, g5, g6, g7, g8, g9, g10, g11, g12, g13⟩ := Q14.out.ask
      go_wp2_with fail
      refine F15.mono ?_
      rintro e w15 ⟨vq, rfl, hv, P15⟩
      have c15 := P15.ask.2.2.2.2.2.2.1
      have z15 := P15.fz 6
      have Hvq : Hid (vq = gotI (x0F F) [(11, .name), (1, .name), (55, .name), (54, .int 1 2)] 38 1 1099511627776) := hv.trans (ref_told F [(11, .name), (1, .name), (55, .name), (54, .int 1 2)] 38 (fun s => (intVE s 1 1099511627776).2) (fun s => ((intVE s 1 1099511627776).1 : Int)) 0)
      have Q15 : Hid (RS (w.heap.size + 1) (w.alloc (.cells #[.int .i64 0, .string ⟨#[]⟩, .string ⟨#[]⟩, .string ⟨#[]⟩, .string ⟨#[]⟩, .int .i64 0, .int .i64 0, .int .i64 0, .int .i64 0, .int .i64 0, .int .i64 0, .int .i64 0, .int .i64 0, (.slice none 0 0)] 32)) (w.heap.size + 1) (w15.setCell ⟨w1.heap.size, 6, none⟩ (.int .i64 vq)) fb w1.heap.size v F (runR F ([35], 0, 0) [(11, .name), (1, .name), (55, .name), (54, .int 1 2), (38, .int 1 1099511627776)]) K vi ⟨#[]⟩ vc vs vd vq 0 0 0 0 0 0 (.slice none 0 0) []) := P15.set6 vq
      clear F15 P15 hv Q14 g0 g1 g2 g3 g4 g5 g6 g7 g8 g9 g10 g11 g12 g13
      have F16 := Q15.out.int (HLN.out _ (by decide)) HTS.out 44 1 1099511627776
      obtain ⟨g0, g1, g2, g3, g4, g5, g6, g7, g8, g9, g10, g11, g12, g13⟩ := Q15.out.ask
      go_wp2_with fail
      refine F16.mono ?_
      rintro e w16 ⟨vp, rfl, hv, P16⟩
      have c16 := P16.ask.2.2.2.2.2.2.2.1
      have z16 := P16.fz 7
      have Hvp : Hid (vp = gotI (x0F F) [(11, .name), (1, .name), (55, .name), (54, .int 1 2), (38, .int 1 1099511627776)] 44 1 1099511627776) := hv.trans (ref_told F [(11, .name), (1, .name), (55, .name), (54, .int 1 2), (38, .int 1 1099511627776)] 44 (fun s => (intVE s 1 1099511627776).2) (fun s => ((intVE s 1 1099511627776).1 : Int)) 0)
      have Q16 : Hid (RS (w.heap.size + 1) (w.alloc (.cells #[.int .i64 0, .string ⟨#[]⟩, .string ⟨#[]⟩, .string ⟨#[]⟩, .string ⟨#[]⟩, .int .i64 0, .int .i64 0, .int .i64 0, .int .i64 0, .int .i64 0, .int .i64 0, .int .i64 0, .int .i64 0, (.slice none 0 0)] 32)) (w.heap.size + 1) (w16.setCell ⟨w1.heap.size, 7, none⟩ (.int .i64 vp)) fb w1.heap.size v F (runR F ([35], 0, 0) [(11, .name), (1, .name), (55, .name), (54, .int 1 2), (38, .int 1 1099511627776), (44, .int 1 1099511627776)]) K vi ⟨#[]⟩ vc vs vd vq vp 0 0 0 0 0 (.slice none 0 0) []) := P16.set7 vp
      clear F16 P16 hv Q15 g0 g1 g2 g3 g4 g5 g6 g7 g8 g9 g10 g11 g12 g13
      have F17 := Q16.out.int (HLN.out _ (by decide)) HTS.out 5001 1 4
      obtain ⟨g0, g1, g2, g3, g4, g5, g6, g7, g8, g9, g10, g11, g12, g13⟩ := Q16.out.ask
      go_wp2_with fail
      refine F17.mono ?_
      rintro e w17 ⟨va, rfl, hv, P17⟩
      have c17 := P17.ask.2.2.2.2.2.2.2.2.1
      have z17 := P17.fz 8
      have Hva : Hid (va = gotI (x0F F) [(11, .name), (1, .name), (55, .name), (54, .int 1 2), (38, .int 1 1099511627776), (44, .int 1 1099511627776)] 5001 1 4) := hv.trans (ref_told F [(11, .name), (1, .name), (55, .name), (54, .int 1 2), (38, .int 1 1099511627776), (44, .int 1 1099511627776)] 5001 (fun s => (intVE s 1 4).2) (fun s => ((intVE s 1 4).1 : Int)) 0)
      have Q17 : Hid (RS (w.heap.size + 1) (w.alloc (.cells #[.int .i64 0, .string ⟨#[]⟩, .string ⟨#[]⟩, .string ⟨#[]⟩, .string ⟨#[]⟩, .int .i64 0, .int .i64 0, .int .i64 0, .int .i64 0, .int .i64 0, .int .i64 0, .int .i64 0, .int .i64 0, (.slice none 0 0)] 32)) (w.heap.size + 1) (w17.setCell ⟨w1.heap.size, 8, none⟩ (.int .i64 va)) fb w1.heap.size v F (runR F ([35], 0, 0) [(11, .name), (1, .name), (55, .name), (54, .int 1 2), (38, .int 1 1099511627776), (44, .int 1 1099511627776), (5001, .int 1 4)]) K vi ⟨#[]⟩ vc vs vd vq vp va 0 0 0 0 (.slice none 0 0) []) := P17.set8 va
      clear F17 P17 hv Q16 g0 g1 g2 g3 g4 g5 g6 g7 g8 g9 g10 g11 g12 g13
      have F18 := Q17.out.int (HLN.out _ (by decide)) HTS.out 5002 0 1099511627776
      obtain ⟨g0, g1, g2, g3, g4, g5, g6, g7, g8, g9, g10, g11, g12, g13⟩ := Q17.out.ask
      go_wp2_with fail
      refine F18.mono ?_
      rintro e w18 ⟨vb, rfl, hv, P18⟩
      have c18 := P18.ask.2.2.2.2.2.2.2.2.2.1
      have z18 := P18.fz 9
      have Hvb : Hid (vb = gotI (x0F F) [(11, .name), (1, .name), (55, .name), (54, .int 1 2), (38, .int 1 1099511627776), (44, .int 1 1099511627776), (5001, .int 1 4)] 5002 0 1099511627776) := hv.trans (ref_told F [(11, .name), (1, .name), (55, .name), (54, .int 1 2), (38, .int 1 1099511627776), (44, .int 1 1099511627776), (5001, .int 1 4)] 5002 (fun s => (intVE s 0 1099511627776).2) (fun s => ((intVE s 0 1099511627776).1 : Int)) 0)
      have Q18 : Hid (RS (w.heap.size + 1) (w.alloc (.cells #[.int .i64 0, .string ⟨#[]⟩, .string ⟨#[]⟩, .string ⟨#[]⟩, .string ⟨#[]⟩, .int .i64 0, .int .i64 0, .int .i64 0, .int .i64 0, .int .i64 0, .int .i64 0, .int .i64 0, .int .i64 0, (.slice none 0 0)] 32)) (w.heap.size + 1) (w18.setCell ⟨w1.heap.size, 9, none⟩ (.int .i64 vb)) fb w1.heap.size v F (runR F ([35], 0, 0) [(11, .name), (1, .name), (55, .name), (54, .int 1 2), (38, .int 1 1099511627776), (44, .int 1 1099511627776), (5001, .int 1 4), (5002, .int 0 1099511627776)]) K vi ⟨#[]⟩ vc vs vd vq vp va vb 0 0 0 (.slice none 0 0) []) := P18.set9 vb
      clear F18 P18 hv Q17 g0 g1 g2 g3 g4 g5 g6 g7 g8 g9 g10 g11 g12 g13
      have F19 := Q18.out.int (HLN.out _ (by decide)) HTS.out 5003 0 1099511627776
      obtain ⟨g0, g1, g2, g3, g4, g5, g6, g7, g8, g9, g10, g11, g12, g13⟩ := Q18.out.ask
      go_wp2_with fail
      refine F19.mono ?_
      rintro e w19 ⟨ve, rfl, hv, P19⟩
      have c19 := P19.ask.2.2.2.2.2.2.2.2.2.2.1
      have z19 := P19.fz 10
      have Hve : Hid (ve = gotI (x0F F) [(11, .name), (1, .name), (55, .name), (54, .int 1 2), (38, .int 1 1099511627776), (44, .int 1 1099511627776), (5001, .int 1 4), (5002, .int 0 1099511627776)] 5003 0 1099511627776) := hv.trans (ref_told F [(11, .name), (1, .name), (55, .name), (54, .int 1 2), (38, .int 1 1099511627776), (44, .int 1 1099511627776), (5001, .int 1 4), (5002, .int 0 1099511627776)] 5003 (fun s => (intVE s 0 1099511627776).2) (fun s => ((intVE s 0 1099511627776).1 : Int)) 0)
      have Q19 : Hid (RS (w.heap.size + 1) (w.alloc (.cells #[.int .i64 0, .string ⟨#[]⟩, .string ⟨#[]⟩, .string ⟨#[]⟩, .string ⟨#[]⟩, .int .i64 0, .int .i64 0, .int .i64 0, .int .i64 0, .int .i64 0, .int .i64 0, .int .i64 0, .int .i64 0, (.slice none 0 0)] 32)) (w.heap.size + 1) (w19.setCell ⟨w1.heap.size, 10, none⟩ (.int .i64 ve)) fb w1.heap.size v F (runR F ([35], 0, 0) [(11, .name), (1, .name), (55, .name), (54, .int 1 2), (38, .int 1 1099511627776), (44, .int 1 1099511627776), (5001, .int 1 4), (5002, .int 0 1099511627776), (5003, .int 0 1099511627776)]) K vi ⟨#[]⟩ vc vs vd vq vp va vb ve 0 0 (.slice none 0 0) []) := P19.set10 ve
      clear F19 P19 hv Q18 g0 g1 g2 g3 g4 g5 g6 g7 g8 g9 g10 g11 g12 g13
      have HO : Hid (Ordered (stepW (x0F F) (11, .name)) vc vs vd vq vp va vb ve) := ⟨Hvc.out, Hvs.out, Hvd.out, Hvq.out, Hvp.out, Hva.out, Hvb.out, Hve.out⟩
      have HE : Hid (va = 4) := Hva.out.trans HALG.out
      have g2 : (va == 2) = false := beq_false_of_ne (by have := HE.out; omega)
      have g3 : (va == 3) = false := beq_false_of_ne (by have := HE.out; omega)
      have g4 : (va == 4) = true := beq_iff_eq.2 HE.out
      have F20 := Q19.out.int (HLN.out _ (by decide)) HTS.out 5005 1 1099511627776
      obtain ⟨g0, g1, g2, g3, g4, g5, g6, g7, g8, g9, g10, g11, g12, g13⟩ := Q19.out.ask
      go_wp2_with fail
      refine F20.mono ?_
      rintro e w20 ⟨vh, rfl, hv, P20⟩
      have c20 := P20.ask.2.2.2.2.2.2.2.2.2.2.2.2.1
      have z20 := P20.fz 12
      have Hvh : Hid (vh = gotI (x0F F) [(11, .name), (1, .name), (55, .name), (54, .int 1 2), (38, .int 1 1099511627776), (44, .int 1 1099511627776), (5001, .int 1 4), (5002, .int 0 1099511627776), (5003, .int 0 1099511627776)] 5005 1 1099511627776) := hv.trans (ref_told F [(11, .name), (1, .name), (55, .name), (54, .int 1 2), (38, .int 1 1099511627776), (44, .int 1 1099511627776), (5001, .int 1 4), (5002, .int 0 1099511627776), (5003, .int 0 1099511627776)] 5005 (fun s => (intVE s 1 1099511627776).2) (fun s => ((intVE s 1 1099511627776).1 : Int)) 0)
      have Q20 : Hid (RS (w.heap.size + 1) (w.alloc (.cells #[.int .i64 0, .string ⟨#[]⟩, .string ⟨#[]⟩, .string ⟨#[]⟩, .string ⟨#[]⟩, .int .i64 0, .int .i64 0, .int .i64 0, .int .i64 0, .int .i64 0, .int .i64 0, .int .i64 0, .int .i64 0, (.slice none 0 0)] 32)) (w.heap.size + 1) (w20.setCell ⟨w1.heap.size, 12, none⟩ (.int .i64 vh)) fb w1.heap.size v F (runR F ([35], 0, 0) [(11, .name), (1, .name), (55, .name), (54, .int 1 2), (38, .int 1 1099511627776), (44, .int 1 1099511627776), (5001, .int 1 4), (5002, .int 0 1099511627776), (5003, .int 0 1099511627776), (5005, .int 1 1099511627776)]) K vi ⟨#[]⟩ vc vs vd vq vp va vb ve 0 vh (.slice none 0 0) []) := P20.set12 vh
      clear F20 P20 hv Q19 g0 g1 g2 g3 g4 g5 g6 g7 g8 g9 g10 g11 g12 g13
      have HS21 : Hid (runS (x0F F) [(11, .name), (1, .name), (55, .name), (54, .int 1 2), (38, .int 1 1099511627776), (44, .int 1 1099511627776), (5001, .int 1 4), (5002, .int 0 1099511627776), (5003, .int 0 1099511627776), (5005, .int 1 1099511627776)] = decS K F) := by show _ = _; have e := decS_new (l := F) HO.out.al; rw [HE.out, tail4] at e; rw [HK1.out, ← e]; rfl
      have HRA : Hid ((decS K F).2.2 = 0 → ReadAs (askOf K F) K vi ⟨#[]⟩ vc vs vd vq vp va vb ve 0 vh (intsOf [])) := fun h => by have r := readAs_new (l := F) Hvi.out HO.out (ra := 0) (sh := vh) (cz := intsOf []) (by rw [if_neg (by have := HE.out; omega)]) (by rw [if_pos HE.out, Hvh.out]; rfl) (by rw [if_neg (by have := HE.out; omega)]; rfl) (by rw [← HK1.out]; exact h); rw [HK1.out]; exact r
      obtain ⟨DT, DE, hDD⟩ : ∃ DT DE, doneE (decS K F) (F.map Prod.fst) = (DT, DE) := ⟨_, _, rfl⟩
      have HDD : Hid (doneE (decS K F) (F.map Prod.fst) = (DT, DE)) := hDD
      have DN := Q20.out.done
      rw [show doneR (runR F ([35], 0, 0) [(11, .name), (1, .name), (55, .name), (54, .int 1 2), (38, .int 1 1099511627776), (44, .int 1 1099511627776), (5001, .int 1 4), (5002, .int 0 1099511627776), (5003, .int 0 1099511627776), (5005, .int 1 1099511627776)]) F = (DT, DE) by rw [done_same HND.out, HS21.out, hDD]] at DN
      dsimp only at DN
      have HBQ : Hid (Below (w.heap.size + 1) (w.alloc (.cells #[.int .i64 0, .string ⟨#[]⟩, .string ⟨#[]⟩, .string ⟨#[]⟩, .string ⟨#[]⟩, .int .i64 0, .int .i64 0, .int .i64 0, .int .i64 0, .int .i64 0, .int .i64 0, .int .i64 0, .int .i64 0, (.slice none 0 0)] 32)) (w20.setCell ⟨w1.heap.size, 12, none⟩ (.int .i64 vh))) := Q20.out.below
      obtain ⟨g0, g1, g2, g3, g4, g5, g6, g7, g8, g9, g10, g11, g12, g13⟩ := Q20.out.ask
      clear hDD Q20
      go_wp2_with fail
      refine DN.mono ?_
      rintro e v21 ⟨rfl, A9, R9, Z9a, b9⟩
      have BQ : Below (w.heap.size + 1) (w.alloc (.cells #[.int .i64 0, .string ⟨#[]⟩, .string ⟨#[]⟩, .string ⟨#[]⟩, .string ⟨#[]⟩, .int .i64 0, .int .i64 0, .int .i64 0, .int .i64 0, .int .i64 0, .int .i64 0, .int .i64 0, .int .i64 0, (.slice none 0 0)] 32)) v21 := HBQ.out.trans (b9.mono (by have h := HBQ.out.size; rw [show (w.alloc (.cells #[.int .i64 0, .string ⟨#[]⟩, .string ⟨#[]⟩, .string ⟨#[]⟩, .string ⟨#[]⟩, .int .i64 0, .int .i64 0, .int .i64 0, .int .i64 0, .int .i64 0, .int .i64 0, .int .i64 0, .int .i64 0, (.slice none 0 0)] 32)).heap.size = w.heap.size + 1 by simp] at h; exact h))
      have CC : Hid (CelA v21 w.heap.size 0 ⟨#[]⟩ ⟨#[]⟩ ⟨#[]⟩ ⟨#[]⟩ 0 0 0 0 0 0 0 0 (.slice none 0 0)) := C0.out.still (by rw [show (w.alloc (.cells #[.int .i64 0, .string ⟨#[]⟩, .string ⟨#[]⟩, .string ⟨#[]⟩, .string ⟨#[]⟩, .int .i64 0, .int .i64 0, .int .i64 0, .int .i64 0, .int .i64 0, .int .i64 0, .int .i64 0, .int .i64 0, (.slice none 0 0)] 32)).heap.size = w.heap.size + 1 by simp]; exact BQ)
      have HB : Hid (Below w.heap.size w v21) := B0.out.trans (BQ.mono (by omega))
      have HA9 : Hid (AskAt v21 w1.heap.size K vi ⟨#[]⟩ vc vs vd vq vp va vb ve 0 vh (.slice none 0 0)) := A9
      have HR9 : Hid (Row v21 ((.slice none 0 0)) ([]).length fun i => .int .i64 ((([]).getD i 0 : Nat) : Int)) := R9
      have Z9 : Hid (∀ x o k d, ((.slice none 0 0)) = Value.slice (some ⟨x, o, none⟩) k d → w1.heap.size < x) := Z9a
      clear DN HBQ b9 BQ R9 A9 Z9a g0 g1 g2 g3 g4 g5 g6 g7 g8 g9 g10 g11 g12 g13
      by_cases hDE : DE = 0
      case neg =>
        have te : (DE == 0) = false := beq_false_of_ne hDE
        have HD : Hid (decT tx.data.toList = (DT, DE)) := by have := HDT.out; rw [if_neg HK0.out, HDD.out, if_pos hDE] at this; exact this
        have HN : Hid (DE ≠ 0) := hDE
        clear hDE
        obtain ⟨r9, z9⟩ := CC.out
        obtain ⟨r0, r1, r2, r3, r4, r5, r6, r7, r8, r9, r10, r11, r12, r13⟩ := r9
        have P : Hid (AskAt (put14 v21 w.heap.size 0 ⟨#[]⟩ ⟨#[]⟩ ⟨#[]⟩ ⟨#[]⟩ 0 0 0 0 0 0 0 0 (.slice none 0 0)) w.heap.size 0 ⟨#[]⟩ ⟨#[]⟩ ⟨#[]⟩ ⟨#[]⟩ 0 0 0 0 0 0 0 0 (.slice none 0 0)) := put_at CC.out.1 0 ⟨#[]⟩ ⟨#[]⟩ ⟨#[]⟩ ⟨#[]⟩ 0 0 0 0 0 0 0 0 (.slice none 0 0)
        have PB : Hid (But (fun j => j = w.heap.size) v21 (put14 v21 w.heap.size 0 ⟨#[]⟩ ⟨#[]⟩ ⟨#[]⟩ ⟨#[]⟩ 0 0 0 0 0 0 0 0 (.slice none 0 0))) := put_but _ _ _ _ _ _ _ _ _ _ _ _ _ _ _ _
        go_wp2_with fail
        have P' := P.out
        have PB' := PB.out
        unfold put14 at P' PB'
        clear P PB
        generalize hW9 : World.setCell _ ⟨w.heap.size, 13, none⟩ _ = W9 at *
        obtain ⟨p0, p1, p2, p3, p4, p5, p6, p7, p8, p9, p10, p11, p12, p13⟩ := P'
        refine bodyPost_ret (v := .tuple #[.agg #[.int .i64 0, .string ⟨#[]⟩, .string ⟨#[]⟩, .string ⟨#[]⟩, .string ⟨#[]⟩, .int .i64 0, .int .i64 0, .int .i64 0, .int .i64 0, .int .i64 0, .int .i64 0, .int .i64 0, .int .i64 0, (.slice none 0 0)], .int .i64 DT, .int .i64 DE]) (by simp [results, Tryz.results13, go_sem, p0, p1, p2, p3, p4, p5, p6, p7, p8, p9, p10, p11, p12, p13]) rfl ?_
        exact ⟨0, ⟨#[]⟩, ⟨#[]⟩, ⟨#[]⟩, ⟨#[]⟩, 0, 0, 0, 0, 0, 0, 0, 0, none, 0, [], by rw [HD.out]; rfl, zero_as13 (by rw [HD.out]; exact HN.out), row_nil13 _, HB.out.trans (PB'.below HB.out.size (fun i e => by omega))⟩
      subst hDE
      have HRA2 : Hid (ReadAs (askOf K F) K vi ⟨#[]⟩ vc vs vd vq vp va vb ve 0 vh (intsOf [])) := HRA.out ((done_run (by rw [HDD.out])).1)
      have HW : Hid (decT tx.data.toList = wholeE (askOf K F)) := by have := HDT.out; rw [if_neg HK0.out, HDD.out, if_neg (by simp)] at this; exact this
      have HY0 : Hid ((decS K F).2.2 = 0) := (done_run (by rw [HDD.out])).1
      have HWB : Hid (wholeE (askOf K F) = wholeB K va vb ve (curB (intsOf []))) := whole_mem HRA2.out (fun _ => HK1.out)
      have bnd := span_bound HK1.out HY0.out HRA2.out
      have WH := refWhole_at K vi ⟨#[]⟩ vc vs vd vq vp va vb ve 0 vh none 0 0 (curB (intsOf [])) v21 (fun e => by omega) (fun w' b => by have := ref3Right_any (intsOf []) ((.slice none 0 0)) w' (row_as_ints (HR9.out.below b)); exact this)
      obtain ⟨WT, WE, hWW⟩ : ∃ WT WE, wholeB K va vb ve (curB (intsOf [])) = (WT, WE) := ⟨_, _, rfl⟩
      have HD : Hid (decT tx.data.toList = (WT, WE)) := by rw [HW.out, HWB.out, hWW]; rfl
      rw [hWW] at WH
      dsimp only at WH
      clear hWW HW HWB HY0 HDD HRA
      obtain ⟨g0, g1, g2, g3, g4, g5, g6, g7, g8, g9, g10, g11, g12, g13⟩ := HA9.out
      go_wp2_with fail
      refine WH.mono ?_
      rintro e u21 ⟨rfl, b8⟩
      have CC8 : Hid (CelA u21 w.heap.size 0 ⟨#[]⟩ ⟨#[]⟩ ⟨#[]⟩ ⟨#[]⟩ 0 0 0 0 0 0 0 0 (.slice none 0 0)) := CC.out.still b8
      have HB8 : Hid (Below w.heap.size w u21) := HB.out.trans (b8.mono HB.out.size)
      have HA8 : Hid (AskAt u21 w1.heap.size K vi ⟨#[]⟩ vc vs vd vq vp va vb ve 0 vh (.slice none 0 0)) := HA9.out.still b8 HA9.out.lt
      have HR8 : Hid (Row u21 ((.slice none 0 0)) ([]).length fun i => .int .i64 ((([]).getD i 0 : Nat) : Int)) := HR9.out.below b8
      clear WH b8 CC HB HA9 HR9 g0 g1 g2 g3 g4 g5 g6 g7 g8 g9 g10 g11 g12 g13
      by_cases hWE : WE = 0
      case neg =>
        have te : (WE == 0) = false := beq_false_of_ne hWE
        have HN : Hid (WE ≠ 0) := hWE
        clear hWE
        obtain ⟨r9, z9⟩ := CC8.out
        obtain ⟨r0, r1, r2, r3, r4, r5, r6, r7, r8, r9, r10, r11, r12, r13⟩ := r9
        have P : Hid (AskAt (put14 u21 w.heap.size 0 ⟨#[]⟩ ⟨#[]⟩ ⟨#[]⟩ ⟨#[]⟩ 0 0 0 0 0 0 0 0 (.slice none 0 0)) w.heap.size 0 ⟨#[]⟩ ⟨#[]⟩ ⟨#[]⟩ ⟨#[]⟩ 0 0 0 0 0 0 0 0 (.slice none 0 0)) := put_at CC8.out.1 0 ⟨#[]⟩ ⟨#[]⟩ ⟨#[]⟩ ⟨#[]⟩ 0 0 0 0 0 0 0 0 (.slice none 0 0)
        have PB : Hid (But (fun j => j = w.heap.size) u21 (put14 u21 w.heap.size 0 ⟨#[]⟩ ⟨#[]⟩ ⟨#[]⟩ ⟨#[]⟩ 0 0 0 0 0 0 0 0 (.slice none 0 0))) := put_but _ _ _ _ _ _ _ _ _ _ _ _ _ _ _ _
        go_wp2_with fail
        have P' := P.out
        have PB' := PB.out
        unfold put14 at P' PB'
        clear P PB
        generalize hW9 : World.setCell _ ⟨w.heap.size, 13, none⟩ _ = W9 at *
        obtain ⟨p0, p1, p2, p3, p4, p5, p6, p7, p8, p9, p10, p11, p12, p13⟩ := P'
        refine bodyPost_ret (v := .tuple #[.agg #[.int .i64 0, .string ⟨#[]⟩, .string ⟨#[]⟩, .string ⟨#[]⟩, .string ⟨#[]⟩, .int .i64 0, .int .i64 0, .int .i64 0, .int .i64 0, .int .i64 0, .int .i64 0, .int .i64 0, .int .i64 0, (.slice none 0 0)], .int .i64 WT, .int .i64 WE]) (by simp [results, Tryz.results13, go_sem, p0, p1, p2, p3, p4, p5, p6, p7, p8, p9, p10, p11, p12, p13]) rfl ?_
        exact ⟨0, ⟨#[]⟩, ⟨#[]⟩, ⟨#[]⟩, ⟨#[]⟩, 0, 0, 0, 0, 0, 0, 0, 0, none, 0, [], by rw [HD.out]; rfl, zero_as13 (by rw [HD.out]; exact HN.out), row_nil13 _, HB8.out.trans (PB'.below HB8.out.size (fun i e => by omega))⟩
      subst hWE
      have hz := decT_zero (l := tx.data.toList) (by rw [HD.out])
      have HZ : Hid (decT tx.data.toList = (0, 0)) := hz
      have hA : decA tx.data.toList = askOf K F := HAK.out (by rw [HZ.out])
      have HA : Hid (decA tx.data.toList = askOf K F) := hA
      clear hz hA
      obtain ⟨g0, g1, g2, g3, g4, g5, g6, g7, g8, g9, g10, g11, g12, g13⟩ := HA8.out
      have nbr : ¬ w1.heap.size = w.heap.size := by have := HSZ.out; omega
      have nbr' : ¬ w.heap.size = w1.heap.size := by have := HSZ.out; omega
      obtain ⟨r9, z9⟩ := CC8.out
      obtain ⟨r0, r1, r2, r3, r4, r5, r6, r7, r8, r9, r10, r11, r12, r13⟩ := r9
      have P : Hid (AskAt (put14 u21 w.heap.size K vi ⟨#[]⟩ vc vs vd vq vp va vb ve 0 vh (.slice none 0 0)) w.heap.size K vi ⟨#[]⟩ vc vs vd vq vp va vb ve 0 vh (.slice none 0 0)) := put_at CC8.out.1 K vi ⟨#[]⟩ vc vs vd vq vp va vb ve 0 vh (.slice none 0 0)
      have PB : Hid (But (fun j => j = w.heap.size) u21 (put14 u21 w.heap.size K vi ⟨#[]⟩ vc vs vd vq vp va vb ve 0 vh (.slice none 0 0))) := put_but _ _ _ _ _ _ _ _ _ _ _ _ _ _ _ _
      go_wp2_with fail
      have P' := P.out
      have PB' := PB.out
      unfold put14 at P' PB'
      clear P PB
      generalize hW9 : World.setCell _ ⟨w.heap.size, 13, none⟩ _ = W9 at *
      obtain ⟨p0, p1, p2, p3, p4, p5, p6, p7, p8, p9, p10, p11, p12, p13⟩ := P'
      refine bodyPost_ret (v := .tuple #[.agg #[.int .i64 K, .string vi, .string ⟨#[]⟩, .string vc, .string vs, .int .i64 vd, .int .i64 vq, .int .i64 vp, .int .i64 va, .int .i64 vb, .int .i64 ve, .int .i64 0, .int .i64 vh, (.slice none 0 0)], .int .i64 0, .int .i64 0]) (by simp [results, Tryz.results13, go_sem, p0, p1, p2, p3, p4, p5, p6, p7, p8, p9, p10, p11, p12, p13]) rfl ?_
      exact ⟨K, vi, ⟨#[]⟩, vc, vs, vd, vq, vp, va, vb, ve, 0, vh, none, 0, [], by rw [HZ.out] <;> rfl, by rw [HA.out]; exact HRA2.out, row_put HR8.out PB' (fun x o ea => by have h1 := Z9.out x o _ _ (by rw [ea]); have := HSZ.out; omega), HB8.out.trans (PB'.below HB8.out.size (fun i e => by omega))⟩
end Go.Proofs.YtepkmbpadhfbmaaGreatDoor
/-
  The contract of the reference's Decode, for every text: the case New0.
-/
namespace Go.Proofs.YtepkmbpadhfbmaaGreatDoor
open Go.ChangeShapes Go.WideShapes Go.ChangeAt Go.RowKit Go.Lib
set_option maxRecDepth 100000 in
set_option maxHeartbeats 16000000 in
theorem refDecode_new0 (tx : ByteArray) (w : World) (hs : tx.size ≤ 1000000) (hE : readE tx.data.toList = 0) (hK1 : kindOf (textOf (fieldsL tx.data.toList).1 35) = 1) (ha : gotI (x0F (fieldsL tx.data.toList).1) [(11, .name), (1, .name), (55, .name), (54, .int 1 2), (38, .int 1 1099511627776), (44, .int 1 1099511627776)] 5001 1 4 ≠ 2 ∧ gotI (x0F (fieldsL tx.data.toList).1) [(11, .name), (1, .name), (55, .name), (54, .int 1 2), (38, .int 1 1099511627776), (44, .int 1 1099511627776)] 5001 1 4 ≠ 3 ∧ gotI (x0F (fieldsL tx.data.toList).1) [(11, .name), (1, .name), (55, .name), (54, .int 1 2), (38, .int 1 1099511627776), (44, .int 1 1099511627776)] 5001 1 4 ≠ 4) :
    Calls Tryz.prog 13 #[.string tx] w (RDecOk tx.data.toList w) := by
  have RD := fun w => refRead_any tx w hs
  obtain ⟨_, ⟨V35, rest, hl⟩, hnd⟩ := read_head hE
  have h35 : textOf (fieldsL tx.data.toList).1 35 = V35 := textOf_mem hnd (by rw [hl]; simp)
  have TS := text_small tx.data.toList
  obtain ⟨F, hF⟩ : ∃ F, (fieldsL tx.data.toList).1 = F := ⟨_, rfl⟩
  obtain ⟨K, hK⟩ : ∃ K, kindOf V35 = K := ⟨_, rfl⟩
  have k15 := kind_range V35
  rw [hK] at k15
  have HAK : Hid ((decT tx.data.toList).2 = 0 → decA tx.data.toList = askOf K F) := fun h => by
    unfold decA
    rw [if_pos h, h35, hF, hK]
  have HDT : Hid (decT tx.data.toList = if K = 0 then (35, 120) else if (doneE (decS K F) (F.map Prod.fst)).2 ≠ 0 then doneE (decS K F) (F.map Prod.fst) else wholeE (askOf K F)) := by
    show decT tx.data.toList = _
    unfold decT decE
    rw [if_neg (by omega), h35, hF, hK]
  have HRD : Hid (∀ w e w', RRead tx.data.toList w e w' → ∃ fb v, e = .returned (.tuple #[.pointer (some ⟨fb, 0, none⟩), .int .i64 0]) ∧ RSt w.heap.size (fun j => w.heap.size ≤ j) w w' fb v F ([], 0, 0)) := fun w e w' h => by
    rcases h with ⟨h1, _⟩ | ⟨_, fb, v, h1, h2⟩
    · exact absurd hE h1
    · rw [hF] at h2; exact ⟨fb, v, h1, h2⟩
  rw [hF] at hl hnd TS
  have HND : Hid ((F.map Prod.fst).Nodup) := hnd
  have HKK : Hid (kindOf V35 = K ∧ 0 ≤ K ∧ K ≤ 5) := ⟨hK, k15⟩
  have HTS : Hid (∀ t s, textO F t = some s → s.size ≤ 100000) := TS
  have HLN : Hid (∀ ws : List (Int × Want), ws.length ≤ 20 → (runR F ([35], 0, 0) ws).1.length ≤ 1000) := fun ws h => by
    have := runR_len F ws ([35], 0, 0)
    simp at this
    omega
  rw [h35, hK] at hK1
  rw [hF] at ha
  have HK1 : Hid (K = 1) := hK1
  have HK0 : Hid (K ≠ 0) := by show K ≠ 0; omega
  have HALG : Hid (gotI (x0F F) [(11, .name), (1, .name), (55, .name), (54, .int 1 2), (38, .int 1 1099511627776), (44, .int 1 1099511627776)] 5001 1 4 ≠ 2 ∧ gotI (x0F F) [(11, .name), (1, .name), (55, .name), (54, .int 1 2), (38, .int 1 1099511627776), (44, .int 1 1099511627776)] 5001 1 4 ≠ 3 ∧ gotI (x0F F) [(11, .name), (1, .name), (55, .name), (54, .int 1 2), (38, .int 1 1099511627776), (44, .int 1 1099511627776)] 5001 1 4 ≠ 4) := ha
  clear hK1 ha
  clear h35 hF hK k15 hnd TS hE
  have B0 : Hid (Below w.heap.size w (w.alloc (.cells #[.int .i64 0, .string ⟨#[]⟩, .string ⟨#[]⟩, .string ⟨#[]⟩, .string ⟨#[]⟩, .int .i64 0, .int .i64 0, .int .i64 0, .int .i64 0, .int .i64 0, .int .i64 0, .int .i64 0, .int .i64 0, (.slice none 0 0)] 32))) := (Below.refl _ w).alloc (Nat.le_refl _) _
  have C0 : Hid (CelA (w.alloc (.cells #[.int .i64 0, .string ⟨#[]⟩, .string ⟨#[]⟩, .string ⟨#[]⟩, .string ⟨#[]⟩, .int .i64 0, .int .i64 0, .int .i64 0, .int .i64 0, .int .i64 0, .int .i64 0, .int .i64 0, .int .i64 0, (.slice none 0 0)] 32)) w.heap.size 0 ⟨#[]⟩ ⟨#[]⟩ ⟨#[]⟩ ⟨#[]⟩ 0 0 0 0 0 0 0 0 (.slice none 0 0)) := ⟨AskAt.boxR w 0 ⟨#[]⟩ ⟨#[]⟩ ⟨#[]⟩ ⟨#[]⟩ 0 0 0 0 0 0 0 0 (.slice none 0 0), fun j => by simp⟩
  go_enter Tryz.func13, Tryz.ntmps13
  go_wp2_with fail
  refine (RD _).mono ?_
  intro e w1 hrd
  obtain ⟨fb, v, rfl, u1, F1⟩ := HRD.out _ _ _ hrd
  have hsz : (w.alloc (.cells #[.int .i64 0, .string ⟨#[]⟩, .string ⟨#[]⟩, .string ⟨#[]⟩, .string ⟨#[]⟩, .int .i64 0, .int .i64 0, .int .i64 0, .int .i64 0, .int .i64 0, .int .i64 0, .int .i64 0, .int .i64 0, (.slice none 0 0)] 32)).heap.size = w.heap.size + 1 := by simp
  have HSZ : Hid (w.heap.size < w1.heap.size) := by show _ < _; have := F1.but.size; omega
  have Q0 : Hid (RS (w.heap.size + 1) (w.alloc (.cells #[.int .i64 0, .string ⟨#[]⟩, .string ⟨#[]⟩, .string ⟨#[]⟩, .string ⟨#[]⟩, .int .i64 0, .int .i64 0, .int .i64 0, .int .i64 0, .int .i64 0, .int .i64 0, .int .i64 0, .int .i64 0, (.slice none 0 0)] 32)) (w.heap.size + 1) (boxR w1 0 ⟨#[]⟩ ⟨#[]⟩ ⟨#[]⟩ ⟨#[]⟩ 0 0 0 0 0 0 0 0 (.slice none 0 0)) fb w1.heap.size v F ([], 0, 0) 0 ⟨#[]⟩ ⟨#[]⟩ ⟨#[]⟩ ⟨#[]⟩ 0 0 0 0 0 0 0 0 (.slice none 0 0) []) := by
    have bb := boxR_below w1 0 ⟨#[]⟩ ⟨#[]⟩ ⟨#[]⟩ ⟨#[]⟩ 0 0 0 0 0 0 0 0 (.slice none 0 0)
    have F2 := F1.still bb
    have lf := F1.lt
    rw [hsz] at F1 F2
    have lo1 := F1.lo
    refine ⟨⟨u1, F2.base ⟨by omega, by omega⟩ (fun g hg => ⟨(F2.own.lt g hg).1, by have := (F1.own.lt g hg).2; omega⟩), fun e => by have := (F1.own.lt _ e).2; omega⟩, AskAt.boxR w1 0 ⟨#[]⟩ ⟨#[]⟩ ⟨#[]⟩ ⟨#[]⟩ 0 0 0 0 0 0 0 0 (.slice none 0 0), fun j => by simp, by omega, fun e => by have := (F1.ownv.lt _ e).2; omega, ⟨Nat.le_refl _, by have := HSZ.out; omega⟩, ⟨w1.heap.size + 1, by omega, World.ownsRow_nil _ _ _ _, .inl rfl⟩, ?_⟩
    have b2 : Below (w.heap.size + 1) (w.alloc (.cells #[.int .i64 0, .string ⟨#[]⟩, .string ⟨#[]⟩, .string ⟨#[]⟩, .string ⟨#[]⟩, .int .i64 0, .int .i64 0, .int .i64 0, .int .i64 0, .int .i64 0, .int .i64 0, .int .i64 0, .int .i64 0, (.slice none 0 0)] 32)) w1 := F1.but.below (by omega) (fun i h => h)
    exact b2.trans (bb.mono (by have := HSZ.out; omega))
  obtain ⟨uK, FK, _⟩ := Q0.out.frm
  have K1 := refKind_any (w0 := boxR w1 0 ⟨#[]⟩ ⟨#[]⟩ ⟨#[]⟩ ⟨#[]⟩ 0 0 0 0 0 0 0 0 (.slice none 0 0)) ⟨uK, FK⟩ (by simp) V35 rest hl
  clear FK
  clear RD hrd HRD F1
  go_wp2_with fail
  refine K1.mono ?_
  rintro e w2 ⟨rfl, hS⟩
  have Q1 : Hid (RS (w.heap.size + 1) (w.alloc (.cells #[.int .i64 0, .string ⟨#[]⟩, .string ⟨#[]⟩, .string ⟨#[]⟩, .string ⟨#[]⟩, .int .i64 0, .int .i64 0, .int .i64 0, .int .i64 0, .int .i64 0, .int .i64 0, .int .i64 0, .int .i64 0, (.slice none 0 0)] 32)) (w.heap.size + 1) w2 fb w1.heap.size v F ([35], 0, 0) 0 ⟨#[]⟩ ⟨#[]⟩ ⟨#[]⟩ ⟨#[]⟩ 0 0 0 0 0 0 0 0 (.slice none 0 0) []) := Q0.out.next hS
  clear K1 hS Q0
  go_wp2_with fail
  go_loopw [9] (fun i wr => ∃ j : Nat, i = .int .i64 (j : Int) ∧ 1 ≤ j ∧ j ≤ 6 ∧ Hid (RS (w.heap.size + 1) (w.alloc (.cells #[.int .i64 0, .string ⟨#[]⟩, .string ⟨#[]⟩, .string ⟨#[]⟩, .string ⟨#[]⟩, .int .i64 0, .int .i64 0, .int .i64 0, .int .i64 0, .int .i64 0, .int .i64 0, .int .i64 0, .int .i64 0, (.slice none 0 0)] 32)) (w.heap.size + 1) wr fb w1.heap.size v F ([35], 0, 0) (if K < (j : Int) then K else 0) ⟨#[]⟩ ⟨#[]⟩ ⟨#[]⟩ ⟨#[]⟩ 0 0 0 0 0 0 0 0 (.slice none 0 0) [])) (fun i _ => 6 - (RowKit.intOf i).toNat)
  case atStart => exact ⟨1, rfl, by omega, by omega, by
    have := Q1.out
    have e : (if K < ((1 : Nat) : Int) then K else 0) = 0 := by have := HKK.out; split <;> omega
    rw [e]
    exact this⟩
  case round =>
    clear Q1
    obtain ⟨j, rfl, hj1, hj6, QJ⟩ := hrel
    by_cases hq : j < 6
    · have t0 : (j : Int) < 6 := by omega
      have WD := refWord_any (j : Int) (by omega) (by omega) wr
      have qb := beq_bytes (wordT (j : Int)) V35
      go_wp2_with fail
      refine WD.mono ?_
      rintro e w3 ⟨rfl, b3⟩
      have Q3 := QJ.out.still b3
      have HQ3 : Hid (RS (w.heap.size + 1) (w.alloc (.cells #[.int .i64 0, .string ⟨#[]⟩, .string ⟨#[]⟩, .string ⟨#[]⟩, .string ⟨#[]⟩, .int .i64 0, .int .i64 0, .int .i64 0, .int .i64 0, .int .i64 0, .int .i64 0, .int .i64 0, .int .i64 0, (.slice none 0 0)] 32)) (w.heap.size + 1) w3 fb w1.heap.size v F ([35], 0, 0) (if K < (j : Int) then K else 0) ⟨#[]⟩ ⟨#[]⟩ ⟨#[]⟩ ⟨#[]⟩ 0 0 0 0 0 0 0 0 (.slice none 0 0) []) := Q3
      clear WD b3
      by_cases hx : K = (j : Int)
      · rw [decide_eq_true ((kind_is (by omega) (by omega)).2 (by rw [HKK.out.1]; exact hx))] at qb
        have c0 := Q3.ask.1
        have z0 := Q3.fz 0
        have HX : Hid (K = (j : Int)) := hx
        have Q4 : Hid (RS (w.heap.size + 1) (w.alloc (.cells #[.int .i64 0, .string ⟨#[]⟩, .string ⟨#[]⟩, .string ⟨#[]⟩, .string ⟨#[]⟩, .int .i64 0, .int .i64 0, .int .i64 0, .int .i64 0, .int .i64 0, .int .i64 0, .int .i64 0, .int .i64 0, (.slice none 0 0)] 32)) (w.heap.size + 1) (w3.setCell ⟨w1.heap.size, 0, none⟩ (.int .i64 (j : Int))) fb w1.heap.size v F ([35], 0, 0) (if K < ((j + 1 : Nat) : Int) then K else 0) ⟨#[]⟩ ⟨#[]⟩ ⟨#[]⟩ ⟨#[]⟩ 0 0 0 0 0 0 0 0 (.slice none 0 0) []) := by
          have := Q3.set0 (j : Int)
          rw [show (if K < ((j + 1 : Nat) : Int) then K else 0) = (j : Int) by rw [if_pos (by omega)]; exact hx]
          exact this
        clear hx Q3
        generalize wordT (j : Int) = WJ at *
        generalize (if K < (j : Int) then K else 0) = KJ at *
        go_wp2_with fail
        go_roundw
        case rel => exact ⟨j + 1, by simp, by omega, by omega, Q4⟩
        case measure => simp [RowKit.intOf]; omega
      · rw [decide_eq_false (fun e => hx (by rw [← HKK.out.1]; exact (kind_is (by omega) (by omega)).1 e))] at qb
        have Q4 : Hid (RS (w.heap.size + 1) (w.alloc (.cells #[.int .i64 0, .string ⟨#[]⟩, .string ⟨#[]⟩, .string ⟨#[]⟩, .string ⟨#[]⟩, .int .i64 0, .int .i64 0, .int .i64 0, .int .i64 0, .int .i64 0, .int .i64 0, .int .i64 0, .int .i64 0, (.slice none 0 0)] 32)) (w.heap.size + 1) w3 fb w1.heap.size v F ([35], 0, 0) (if K < ((j + 1 : Nat) : Int) then K else 0) ⟨#[]⟩ ⟨#[]⟩ ⟨#[]⟩ ⟨#[]⟩ 0 0 0 0 0 0 0 0 (.slice none 0 0) []) := by
          show RS _ _ _ _ _ _ _ _ _ _ _ _ _ _ _ _ _ _ _ _ _ _ _ _
          rw [show (if K < ((j + 1 : Nat) : Int) then K else 0) = (if K < (j : Int) then K else 0) by
            by_cases h : K < (j : Int)
            · rw [if_pos h, if_pos (by omega)]
            · rw [if_neg h, if_neg (by omega)]]
          exact Q3
        clear hx Q3
        generalize wordT (j : Int) = WJ at *
        go_wp2_with fail
        go_roundw
        case rel => exact ⟨j + 1, by simp, by omega, by omega, Q4⟩
        case measure => simp [RowKit.intOf]; omega
    · obtain rfl : j = 6 := by omega
      have t0 : ¬ ((6 : Nat) : Int) < 6 := by omega
      have Q5 : Hid (RS (w.heap.size + 1) (w.alloc (.cells #[.int .i64 0, .string ⟨#[]⟩, .string ⟨#[]⟩, .string ⟨#[]⟩, .string ⟨#[]⟩, .int .i64 0, .int .i64 0, .int .i64 0, .int .i64 0, .int .i64 0, .int .i64 0, .int .i64 0, .int .i64 0, (.slice none 0 0)] 32)) (w.heap.size + 1) wr fb w1.heap.size v F ([35], 0, 0) K ⟨#[]⟩ ⟨#[]⟩ ⟨#[]⟩ ⟨#[]⟩ 0 0 0 0 0 0 0 0 (.slice none 0 0) []) := by
        have := QJ.out
        rw [if_pos (by have := HKK.out; omega)] at this
        exact this
      clear QJ
      have te : (K == 0) = false := beq_false_of_ne HK0.out
      have Q6 : Hid (RS (w.heap.size + 1) (w.alloc (.cells #[.int .i64 0, .string ⟨#[]⟩, .string ⟨#[]⟩, .string ⟨#[]⟩, .string ⟨#[]⟩, .int .i64 0, .int .i64 0, .int .i64 0, .int .i64 0, .int .i64 0, .int .i64 0, .int .i64 0, .int .i64 0, (.slice none 0 0)] 32)) (w.heap.size + 1) (wr) fb w1.heap.size v F (runR F ([35], 0, 0) []) K ⟨#[]⟩ ⟨#[]⟩ ⟨#[]⟩ ⟨#[]⟩ 0 0 0 0 0 0 0 0 (.slice none 0 0) []) := Q5.out
      clear Q5
      have F11 := Q6.out.name (HLN.out _ (by decide)) HTS.out 11
      obtain ⟨g0, g1, g2, g3, g4, g5, g6, g7, g8, g9, g10, g11, g12, g13⟩ := Q6.out.ask
      go_wp2_with fail
      refine F11.mono ?_
      rintro e w11 ⟨vi, rfl, hv, P11⟩
      have c11 := P11.ask.2.1
      have z11 := P11.fz 1
      have Hvi : Hid (vi = gotN (x0F F) [] 11) := hv.trans (ref_told F [] 11 nameVE id ⟨#[]⟩)
      have Q11 : Hid (RS (w.heap.size + 1) (w.alloc (.cells #[.int .i64 0, .string ⟨#[]⟩, .string ⟨#[]⟩, .string ⟨#[]⟩, .string ⟨#[]⟩, .int .i64 0, .int .i64 0, .int .i64 0, .int .i64 0, .int .i64 0, .int .i64 0, .int .i64 0, .int .i64 0, (.slice none 0 0)] 32)) (w.heap.size + 1) (w11.setCell ⟨w1.heap.size, 1, none⟩ (.string vi)) fb w1.heap.size v F (runR F ([35], 0, 0) [(11, .name)]) K vi ⟨#[]⟩ ⟨#[]⟩ ⟨#[]⟩ 0 0 0 0 0 0 0 0 (.slice none 0 0) []) := P11.set1 vi
      clear F11 P11 hv Q6 g0 g1 g2 g3 g4 g5 g6 g7 g8 g9 g10 g11 g12 g13
      have gk1 : (K == 1) = true := beq_iff_eq.2 HK1.out
      have gk3 : (K == 3) = false := beq_false_of_ne (by have := HK1.out; omega)
      have F12 := Q11.out.name (HLN.out _ (by decide)) HTS.out 1
      obtain ⟨g0, g1, g2, g3, g4, g5, g6, g7, g8, g9, g10, g11, g12, g13⟩ := Q11.out.ask
      go_wp2_with fail
      refine F12.mono ?_
      rintro e w12 ⟨vc, rfl, hv, P12⟩
      have c12 := P12.ask.2.2.2.1
      have z12 := P12.fz 3
      have Hvc : Hid (vc = gotN (x0F F) [(11, .name)] 1) := hv.trans (ref_told F [(11, .name)] 1 nameVE id ⟨#[]⟩)
      have Q12 : Hid (RS (w.heap.size + 1) (w.alloc (.cells #[.int .i64 0, .string ⟨#[]⟩, .string ⟨#[]⟩, .string ⟨#[]⟩, .string ⟨#[]⟩, .int .i64 0, .int .i64 0, .int .i64 0, .int .i64 0, .int .i64 0, .int .i64 0, .int .i64 0, .int .i64 0, (.slice none 0 0)] 32)) (w.heap.size + 1) (w12.setCell ⟨w1.heap.size, 3, none⟩ (.string vc)) fb w1.heap.size v F (runR F ([35], 0, 0) [(11, .name), (1, .name)]) K vi ⟨#[]⟩ vc ⟨#[]⟩ 0 0 0 0 0 0 0 0 (.slice none 0 0) []) := P12.set3 vc
      clear F12 P12 hv Q11 g0 g1 g2 g3 g4 g5 g6 g7 g8 g9 g10 g11 g12 g13
      have F13 := Q12.out.name (HLN.out _ (by decide)) HTS.out 55
      obtain ⟨g0, g1, g2, g3, g4, g5, g6, g7, g8, g9, g10, g11, g12, g13⟩ := Q12.out.ask
      go_wp2_with fail
      refine F13.mono ?_
      rintro e w13 ⟨vs, rfl, hv, P13⟩
      have c13 := P13.ask.2.2.2.2.1
      have z13 := P13.fz 4
      have Hvs : Hid (vs = gotN (x0F F) [(11, .name), (1, .name)] 55) := hv.trans (ref_told F [(11, .name), (1, .name)] 55 nameVE id ⟨#[]⟩)
      have Q13 : Hid (RS (w.heap.size + 1) (w.alloc (.cells #[.int .i64 0, .string ⟨#[]⟩, .string ⟨#[]⟩, .string ⟨#[]⟩, .string ⟨#[]⟩, .int .i64 0, .int .i64 0, .int .i64 0, .int .i64 0, .int .i64 0, .int .i64 0, .int .i64 0, .int .i64 0, (.slice none 0 0)] 32)) (w.heap.size + 1) (w13.setCell ⟨w1.heap.size, 4, none⟩ (.string vs)) fb w1.heap.size v F (runR F ([35], 0, 0) [(11, .name), (1, .name), (55, .name)]) K vi ⟨#[]⟩ vc vs 0 0 0 0 0 0 0 0 (.slice none 0 0) []) := P13.set4 vs
      clear F13 P13 hv Q12 g0 g1 g2 g3 g4 g5 g6 g7 g8 g9 g10 g11 g12 g13
      have F14 := Q13.out.int (HLN.out _ (by decide)) HTS.out 54 1 2
      obtain ⟨g0, g1, g2, g3, g4, g5, g6, g7, g8, g9, g10, g11, g12, g13⟩ := Q13.out.ask
      go_wp2_with fail
      refine F14.mono ?_
      rintro e w14 ⟨vd, rfl, hv, P14⟩
      have c14 := P14.ask.2.2.2.2.2.1
      have z14 := P14.fz 5
      have Hvd : Hid (vd = gotI (x0F F) [(11, .name), (1, .name), (55, .name)] 54 1 2) := hv.trans (ref_told F [(11, .name), (1, .name), (55, .name)] 54 (fun s => (intVE s 1 2).2) (fun s => ((intVE s 1 2).1 : Int)) 0)
      have Q14 : Hid (RS (w.heap.size + 1) (w.alloc (.cells #[.int .i64 0, .string ⟨#[]⟩, .string ⟨#[]⟩, .string ⟨#[]⟩, .string ⟨#[]⟩, .int .i64 0, .int .i64 0, .int .i64 0, .int .i64 0, .int .i64 0, .int .i64 0, .int .i64 0, .int .i64 0, (.slice none 0 0)] 32)) (w.heap.size + 1) (w14.setCell ⟨w1.heap.size, 5, none⟩ (.int .i64 vd)) fb w1.heap.size v F (runR F ([35], 0, 0) [(11, .name), (1, .name), (55, .name), (54, .int 1 2)]) K vi ⟨#[]⟩ vc vs vd 0 0 0 0 0 0 0 (.slice none 0 0) []) := P14.set5 vd
      clear F14 P14 hv Q13 g0 g1 g2 g3 g4 g5 g6 g7 g8 g9 g10 g11 g12 g13
      have F15 := Q14.out.int (HLN.out _ (by decide)) HTS.out 38 1 1099511627776
      obtain ⟨g0, g1, g2, g3, g4, g5, g6, g7, g8, g9, g10, g11, g12, g13⟩ := Q14.out.ask
      go_wp2_with fail
      refine F15.mono ?_
      rintro e w15 ⟨vq, rfl, hv, P15⟩
      have c15 := P15.ask.2.2.2.2.2.2.1
      have z15 := P15.fz 6
      have Hvq : Hid (vq = gotI (x0F F) [(11, .name), (1, .name), (55, .name), (54, .int 1 2)] 38 1 1099511627776) := hv.trans (ref_told F [(11, .name), (1, .name), (55, .name), (54, .int 1 2)] 38 (fun s => (intVE s 1 1099511627776).2) (fun s => ((intVE s 1 1099511627776).1 : Int)) 0)
      have Q15 : Hid (RS (w.heap.size + 1) (w.alloc (.cells #[.int .i64 0, .string ⟨#[]⟩, .string ⟨#[]⟩, .string ⟨#[]⟩, .string ⟨#[]⟩, .int .i64 0, .int .i64 0, .int .i64 0, .int .i64 0, .int .i64 0, .int .i64 0, .int .i64 0, .int .i64 0, (.slice none 0 0)] 32)) (w.heap.size + 1) (w15.setCell ⟨w1.heap.size, 6, none⟩ (.int .i64 vq)) fb w1.heap.size v F (runR F ([35], 0, 0) [(11, .name), (1, .name), (55, .name), (54, .int 1 2), (38, .int 1 1099511627776)]) K vi ⟨#[]⟩ vc vs vd vq 0 0 0 0 0 0 (.slice none 0 0) []) := P15.set6 vq
      clear F15 P15 hv Q14 g0 g1 g2 g3 g4 g5 g6 g7 g8 g9 g10 g11 g12 g13
      have F16 := Q15.out.int (HLN.out _ (by decide)) HTS.out 44 1 1099511627776
      obtain ⟨g0, g1, g2, g3, g4, g5, g6, g7, g8, g9, g10, g11, g12, g13⟩ := Q15.out.ask
      go_wp2_with fail
      refine F16.mono ?_
      rintro e w16 ⟨vp, rfl, hv, P16⟩
      have c16 := P16.ask.2.2.2.2.2.2.2.1
      have z16 := P16.fz 7
      have Hvp : Hid (vp = gotI (x0F F) [(11, .name), (1, .name), (55, .name), (54, .int 1 2), (38, .int 1 1099511627776)] 44 1 1099511627776) := hv.trans (ref_told F [(11, .name), (1, .name), (55, .name), (54, .int 1 2), (38, .int 1 1099511627776)] 44 (fun s => (intVE s 1 1099511627776).2) (fun s => ((intVE s 1 1099511627776).1 : Int)) 0)
      have Q16 : Hid (RS (w.heap.size + 1) (w.alloc (.cells #[.int .i64 0, .string ⟨#[]⟩, .string ⟨#[]⟩, .string ⟨#[]⟩, .string ⟨#[]⟩, .int .i64 0, .int .i64 0, .int .i64 0, .int .i64 0, .int .i64 0, .int .i64 0, .int .i64 0, .int .i64 0, (.slice none 0 0)] 32)) (w.heap.size + 1) (w16.setCell ⟨w1.heap.size, 7, none⟩ (.int .i64 vp)) fb w1.heap.size v F (runR F ([35], 0, 0) [(11, .name), (1, .name), (55, .name), (54, .int 1 2), (38, .int 1 1099511627776), (44, .int 1 1099511627776)]) K vi ⟨#[]⟩ vc vs vd vq vp 0 0 0 0 0 (.slice none 0 0) []) := P16.set7 vp
      clear F16 P16 hv Q15 g0 g1 g2 g3 g4 g5 g6 g7 g8 g9 g10 g11 g12 g13
      have F17 := Q16.out.int (HLN.out _ (by decide)) HTS.out 5001 1 4
      obtain ⟨g0, g1, g2, g3, g4, g5, g6, g7, g8, g9, g10, g11, g12, g13⟩ := Q16.out.ask
      go_wp2_with fail
      refine F17.mono ?_
      rintro e w17 ⟨va, rfl, hv, P17⟩
      have c17 := P17.ask.2.2.2.2.2.2.2.2.1
      have z17 := P17.fz 8
      have Hva : Hid (va = gotI (x0F F) [(11, .name), (1, .name), (55, .name), (54, .int 1 2), (38, .int 1 1099511627776), (44, .int 1 1099511627776)] 5001 1 4) := hv.trans (ref_told F [(11, .name), (1, .name), (55, .name), (54, .int 1 2), (38, .int 1 1099511627776), (44, .int 1 1099511627776)] 5001 (fun s => (intVE s 1 4).2) (fun s => ((intVE s 1 4).1 : Int)) 0)
      have Q17 : Hid (RS (w.heap.size + 1) (w.alloc (.cells #[.int .i64 0, .string ⟨#[]⟩, .string ⟨#[]⟩, .string ⟨#[]⟩, .string ⟨#[]⟩, .int .i64 0, .int .i64 0, .int .i64 0, .int .i64 0, .int .i64 0, .int .i64 0, .int .i64 0, .int .i64 0, (.slice none 0 0)] 32)) (w.heap.size + 1) (w17.setCell ⟨w1.heap.size, 8, none⟩ (.int .i64 va)) fb w1.heap.size v F (runR F ([35], 0, 0) [(11, .name), (1, .name), (55, .name), (54, .int 1 2), (38, .int 1 1099511627776), (44, .int 1 1099511627776), (5001, .int 1 4)]) K vi ⟨#[]⟩ vc vs vd vq vp va 0 0 0 0 (.slice none 0 0) []) := P17.set8 va
      clear F17 P17 hv Q16 g0 g1 g2 g3 g4 g5 g6 g7 g8 g9 g10 g11 g12 g13
      have F18 := Q17.out.int (HLN.out _ (by decide)) HTS.out 5002 0 1099511627776
      obtain ⟨g0, g1, g2, g3, g4, g5, g6, g7, g8, g9, g10, g11, g12, g13⟩ := Q17.out.ask
      go_wp2_with fail
      refine F18.mono ?_
      rintro e w18 ⟨vb, rfl, hv, P18⟩
      have c18 := P18.ask.2.2.2.2.2.2.2.2.2.1
      have z18 := P18.fz 9
      have Hvb : Hid (vb = gotI (x0F F) [(11, .name), (1, .name), (55, .name), (54, .int 1 2), (38, .int 1 1099511627776), (44, .int 1 1099511627776), (5001, .int 1 4)] 5002 0 1099511627776) := hv.trans (ref_told F [(11, .name), (1, .name), (55, .name), (54, .int 1 2), (38, .int 1 1099511627776), (44, .int 1 1099511627776), (5001, .int 1 4)] 5002 (fun s => (intVE s 0 1099511627776).2) (fun s => ((intVE s 0 1099511627776).1 : Int)) 0)
      have Q18 : Hid (RS (w.heap.size + 1) (w.alloc (.cells #[.int .i64 0, .string ⟨#[]⟩, .string ⟨#[]⟩, .string ⟨#[]⟩, .string ⟨#[]⟩, .int .i64 0, .int .i64 0, .int .i64 0, .int .i64 0, .int .i64 0, .int .i64 0, .int .i64 0, .int .i64 0, (.slice none 0 0)] 32)) (w.heap.size + 1) (w18.setCell ⟨w1.heap.size, 9, none⟩ (.int .i64 vb)) fb w1.heap.size v F (runR F ([35], 0, 0) [(11, .name), (1, .name), (55, .name), (54, .int 1 2), (38, .int 1 1099511627776), (44, .int 1 1099511627776), (5001, .int 1 4), (5002, .int 0 1099511627776)]) K vi ⟨#[]⟩ vc vs vd vq vp va vb 0 0 0 (.slice none 0 0) []) := P18.set9 vb
      clear F18 P18 hv Q17 g0 g1 g2 g3 g4 g5 g6 g7 g8 g9 g10 g11 g12 g13
      have F19 := Q18.out.int (HLN.out _ (by decide)) HTS.out 5003 0 1099511627776
      obtain ⟨g0, g1, g2, g3, g4, g5, g6, g7, g8, g9, g10, g11, g12, g13⟩ := Q18.out.ask
      go_wp2_with fail
      refine F19.mono ?_
      rintro e w19 ⟨ve, rfl, hv, P19⟩
      have c19 := P19.ask.2.2.2.2.2.2.2.2.2.2.1
      have z19 := P19.fz 10
      have Hve : Hid (ve = gotI (x0F F) [(11, .name), (1, .name), (55, .name), (54, .int 1 2), (38, .int 1 1099511627776), (44, .int 1 1099511627776), (5001, .int 1 4), (5002, .int 0 1099511627776)] 5003 0 1099511627776) := hv.trans (ref_told F [(11, .name), (1, .name), (55, .name), (54, .int 1 2), (38, .int 1 1099511627776), (44, .int 1 1099511627776), (5001, .int 1 4), (5002, .int 0 1099511627776)] 5003 (fun s => (intVE s 0 1099511627776).2) (fun s => ((intVE s 0 1099511627776).1 : Int)) 0)
      have Q19 : Hid (RS (w.heap.size + 1) (w.alloc (.cells #[.int .i64 0, .string ⟨#[]⟩, .string ⟨#[]⟩, .string ⟨#[]⟩, .string ⟨#[]⟩, .int .i64 0, .int .i64 0, .int .i64 0, .int .i64 0, .int .i64 0, .int .i64 0, .int .i64 0, .int .i64 0, (.slice none 0 0)] 32)) (w.heap.size + 1) (w19.setCell ⟨w1.heap.size, 10, none⟩ (.int .i64 ve)) fb w1.heap.size v F (runR F ([35], 0, 0) [(11, .name), (1, .name), (55, .name), (54, .int 1 2), (38, .int 1 1099511627776), (44, .int 1 1099511627776), (5001, .int 1 4), (5002, .int 0 1099511627776), (5003, .int 0 1099511627776)]) K vi ⟨#[]⟩ vc vs vd vq vp va vb ve 0 0 (.slice none 0 0) []) := P19.set10 ve
      clear F19 P19 hv Q18 g0 g1 g2 g3 g4 g5 g6 g7 g8 g9 g10 g11 g12 g13
      have HO : Hid (Ordered (stepW (x0F F) (11, .name)) vc vs vd vq vp va vb ve) := ⟨Hvc.out, Hvs.out, Hvd.out, Hvq.out, Hvp.out, Hva.out, Hvb.out, Hve.out⟩
      have HE : Hid (va ≠ 2 ∧ va ≠ 3 ∧ va ≠ 4) := ⟨fun e => HALG.out.1 (Hva.out.symm.trans e), fun e => HALG.out.2.1 (Hva.out.symm.trans e), fun e => HALG.out.2.2 (Hva.out.symm.trans e)⟩
      have g2 : (va == 2) = false := beq_false_of_ne HE.out.1
      have g3 : (va == 3) = false := beq_false_of_ne HE.out.2.1
      have g4 : (va == 4) = false := beq_false_of_ne HE.out.2.2
      have HS20 : Hid (runS (x0F F) [(11, .name), (1, .name), (55, .name), (54, .int 1 2), (38, .int 1 1099511627776), (44, .int 1 1099511627776), (5001, .int 1 4), (5002, .int 0 1099511627776), (5003, .int 0 1099511627776)] = decS K F) := by show _ = _; have e := decS_new (l := F) HO.out.al; rw [show tailW va = [] by unfold tailW; rw [if_neg HE.out.1, if_neg HE.out.2.1, if_neg HE.out.2.2]] at e; rw [HK1.out, ← e]; rfl
      have HRA : Hid ((decS K F).2.2 = 0 → ReadAs (askOf K F) K vi ⟨#[]⟩ vc vs vd vq vp va vb ve 0 0 (intsOf [])) := fun h => by have r := readAs_new (l := F) Hvi.out HO.out (ra := 0) (sh := 0) (cz := intsOf []) (by rw [if_neg HE.out.2.1]) (by rw [if_neg HE.out.2.2]) (by rw [if_neg HE.out.1]; rfl) (by rw [← HK1.out]; exact h); rw [HK1.out]; exact r
      obtain ⟨DT, DE, hDD⟩ : ∃ DT DE, doneE (decS K F) (F.map Prod.fst) = (DT, DE) := ⟨_, _, rfl⟩
      have HDD : Hid (doneE (decS K F) (F.map Prod.fst) = (DT, DE)) := hDD
      have DN := Q19.out.done
      rw [show doneR (runR F ([35], 0, 0) [(11, .name), (1, .name), (55, .name), (54, .int 1 2), (38, .int 1 1099511627776), (44, .int 1 1099511627776), (5001, .int 1 4), (5002, .int 0 1099511627776), (5003, .int 0 1099511627776)]) F = (DT, DE) by rw [done_same HND.out, HS20.out, hDD]] at DN
      dsimp only at DN
      have HBQ : Hid (Below (w.heap.size + 1) (w.alloc (.cells #[.int .i64 0, .string ⟨#[]⟩, .string ⟨#[]⟩, .string ⟨#[]⟩, .string ⟨#[]⟩, .int .i64 0, .int .i64 0, .int .i64 0, .int .i64 0, .int .i64 0, .int .i64 0, .int .i64 0, .int .i64 0, (.slice none 0 0)] 32)) (w19.setCell ⟨w1.heap.size, 10, none⟩ (.int .i64 ve))) := Q19.out.below
      obtain ⟨g0, g1, g2, g3, g4, g5, g6, g7, g8, g9, g10, g11, g12, g13⟩ := Q19.out.ask
      clear hDD Q19
      go_wp2_with fail
      refine DN.mono ?_
      rintro e v20 ⟨rfl, A9, R9, Z9a, b9⟩
      have BQ : Below (w.heap.size + 1) (w.alloc (.cells #[.int .i64 0, .string ⟨#[]⟩, .string ⟨#[]⟩, .string ⟨#[]⟩, .string ⟨#[]⟩, .int .i64 0, .int .i64 0, .int .i64 0, .int .i64 0, .int .i64 0, .int .i64 0, .int .i64 0, .int .i64 0, (.slice none 0 0)] 32)) v20 := HBQ.out.trans (b9.mono (by have h := HBQ.out.size; rw [show (w.alloc (.cells #[.int .i64 0, .string ⟨#[]⟩, .string ⟨#[]⟩, .string ⟨#[]⟩, .string ⟨#[]⟩, .int .i64 0, .int .i64 0, .int .i64 0, .int .i64 0, .int .i64 0, .int .i64 0, .int .i64 0, .int .i64 0, (.slice none 0 0)] 32)).heap.size = w.heap.size + 1 by simp] at h; exact h))
      have CC : Hid (CelA v20 w.heap.size 0 ⟨#[]⟩ ⟨#[]⟩ ⟨#[]⟩ ⟨#[]⟩ 0 0 0 0 0 0 0 0 (.slice none 0 0)) := C0.out.still (by rw [show (w.alloc (.cells #[.int .i64 0, .string ⟨#[]⟩, .string ⟨#[]⟩, .string ⟨#[]⟩, .string ⟨#[]⟩, .int .i64 0, .int .i64 0, .int .i64 0, .int .i64 0, .int .i64 0, .int .i64 0, .int .i64 0, .int .i64 0, (.slice none 0 0)] 32)).heap.size = w.heap.size + 1 by simp]; exact BQ)
      have HB : Hid (Below w.heap.size w v20) := B0.out.trans (BQ.mono (by omega))
      have HA9 : Hid (AskAt v20 w1.heap.size K vi ⟨#[]⟩ vc vs vd vq vp va vb ve 0 0 (.slice none 0 0)) := A9
      have HR9 : Hid (Row v20 ((.slice none 0 0)) ([]).length fun i => .int .i64 ((([]).getD i 0 : Nat) : Int)) := R9
      have Z9 : Hid (∀ x o k d, ((.slice none 0 0)) = Value.slice (some ⟨x, o, none⟩) k d → w1.heap.size < x) := Z9a
      clear DN HBQ b9 BQ R9 A9 Z9a g0 g1 g2 g3 g4 g5 g6 g7 g8 g9 g10 g11 g12 g13
      by_cases hDE : DE = 0
      case neg =>
        have te : (DE == 0) = false := beq_false_of_ne hDE
        have HD : Hid (decT tx.data.toList = (DT, DE)) := by have := HDT.out; rw [if_neg HK0.out, HDD.out, if_pos hDE] at this; exact this
        have HN : Hid (DE ≠ 0) := hDE
        clear hDE
        obtain ⟨r9, z9⟩ := CC.out
        obtain ⟨r0, r1, r2, r3, r4, r5, r6, r7, r8, r9, r10, r11, r12, r13⟩ := r9
        have P : Hid (AskAt (put14 v20 w.heap.size 0 ⟨#[]⟩ ⟨#[]⟩ ⟨#[]⟩ ⟨#[]⟩ 0 0 0 0 0 0 0 0 (.slice none 0 0)) w.heap.size 0 ⟨#[]⟩ ⟨#[]⟩ ⟨#[]⟩ ⟨#[]⟩ 0 0 0 0 0 0 0 0 (.slice none 0 0)) := put_at CC.out.1 0 ⟨#[]⟩ ⟨#[]⟩ ⟨#[]⟩ ⟨#[]⟩ 0 0 0 0 0 0 0 0 (.slice none 0 0)
        have PB : Hid (But (fun j => j = w.heap.size) v20 (put14 v20 w.heap.size 0 ⟨#[]⟩ ⟨#[]⟩ ⟨#[]⟩ ⟨#[]⟩ 0 0 0 0 0 0 0 0 (.slice none 0 0))) := put_but _ _ _ _ _ _ _ _ _ _ _ _ _ _ _ _
        go_wp2_with fail
        have P' := P.out
        have PB' := PB.out
        unfold put14 at P' PB'
        clear P PB
        generalize hW9 : World.setCell _ ⟨w.heap.size, 13, none⟩ _ = W9 at *
        obtain ⟨p0, p1, p2, p3, p4, p5, p6, p7, p8, p9, p10, p11, p12, p13⟩ := P'
        refine bodyPost_ret (v := .tuple #[.agg #[.int .i64 0, .string ⟨#[]⟩, .string ⟨#[]⟩, .string ⟨#[]⟩, .string ⟨#[]⟩, .int .i64 0, .int .i64 0, .int .i64 0, .int .i64 0, .int .i64 0, .int .i64 0, .int .i64 0, .int .i64 0, (.slice none 0 0)], .int .i64 DT, .int .i64 DE]) (by simp [results, Tryz.results13, go_sem, p0, p1, p2, p3, p4, p5, p6, p7, p8, p9, p10, p11, p12, p13]) rfl ?_
        exact ⟨0, ⟨#[]⟩, ⟨#[]⟩, ⟨#[]⟩, ⟨#[]⟩, 0, 0, 0, 0, 0, 0, 0, 0, none, 0, [], by rw [HD.out]; rfl, zero_as13 (by rw [HD.out]; exact HN.out), row_nil13 _, HB.out.trans (PB'.below HB.out.size (fun i e => by omega))⟩
      subst hDE
      have HRA2 : Hid (ReadAs (askOf K F) K vi ⟨#[]⟩ vc vs vd vq vp va vb ve 0 0 (intsOf [])) := HRA.out ((done_run (by rw [HDD.out])).1)
      have HW : Hid (decT tx.data.toList = wholeE (askOf K F)) := by have := HDT.out; rw [if_neg HK0.out, HDD.out, if_neg (by simp)] at this; exact this
      have HY0 : Hid ((decS K F).2.2 = 0) := (done_run (by rw [HDD.out])).1
      have HWB : Hid (wholeE (askOf K F) = wholeB K va vb ve (curB (intsOf []))) := whole_mem HRA2.out (fun _ => HK1.out)
      have bnd := span_bound HK1.out HY0.out HRA2.out
      have WH := refWhole_at K vi ⟨#[]⟩ vc vs vd vq vp va vb ve 0 0 none 0 0 (curB (intsOf [])) v20 (fun e => by omega) (fun w' b => by have := ref3Right_any (intsOf []) ((.slice none 0 0)) w' (row_as_ints (HR9.out.below b)); exact this)
      obtain ⟨WT, WE, hWW⟩ : ∃ WT WE, wholeB K va vb ve (curB (intsOf [])) = (WT, WE) := ⟨_, _, rfl⟩
      have HD : Hid (decT tx.data.toList = (WT, WE)) := by rw [HW.out, HWB.out, hWW]; rfl
      rw [hWW] at WH
      dsimp only at WH
      clear hWW HW HWB HY0 HDD HRA
      obtain ⟨g0, g1, g2, g3, g4, g5, g6, g7, g8, g9, g10, g11, g12, g13⟩ := HA9.out
      go_wp2_with fail
      refine WH.mono ?_
      rintro e u20 ⟨rfl, b8⟩
      have CC8 : Hid (CelA u20 w.heap.size 0 ⟨#[]⟩ ⟨#[]⟩ ⟨#[]⟩ ⟨#[]⟩ 0 0 0 0 0 0 0 0 (.slice none 0 0)) := CC.out.still b8
      have HB8 : Hid (Below w.heap.size w u20) := HB.out.trans (b8.mono HB.out.size)
      have HA8 : Hid (AskAt u20 w1.heap.size K vi ⟨#[]⟩ vc vs vd vq vp va vb ve 0 0 (.slice none 0 0)) := HA9.out.still b8 HA9.out.lt
      have HR8 : Hid (Row u20 ((.slice none 0 0)) ([]).length fun i => .int .i64 ((([]).getD i 0 : Nat) : Int)) := HR9.out.below b8
      clear WH b8 CC HB HA9 HR9 g0 g1 g2 g3 g4 g5 g6 g7 g8 g9 g10 g11 g12 g13
      by_cases hWE : WE = 0
      case neg =>
        have te : (WE == 0) = false := beq_false_of_ne hWE
        have HN : Hid (WE ≠ 0) := hWE
        clear hWE
        obtain ⟨r9, z9⟩ := CC8.out
        obtain ⟨r0, r1, r2, r3, r4, r5, r6, r7, r8, r9, r10, r11, r12, r13⟩ := r9
        have P : Hid (AskAt (put14 u20 w.heap.size 0 ⟨#[]⟩ ⟨#[]⟩ ⟨#[]⟩ ⟨#[]⟩ 0 0 0 0 0 0 0 0 (.slice none 0 0)) w.heap.size 0 ⟨#[]⟩ ⟨#[]⟩ ⟨#[]⟩ ⟨#[]⟩ 0 0 0 0 0 0 0 0 (.slice none 0 0)) := put_at CC8.out.1 0 ⟨#[]⟩ ⟨#[]⟩ ⟨#[]⟩ ⟨#[]⟩ 0 0 0 0 0 0 0 0 (.slice none 0 0)
        have PB : Hid (But (fun j => j = w.heap.size) u20 (put14 u20 w.heap.size 0 ⟨#[]⟩ ⟨#[]⟩ ⟨#[]⟩ ⟨#[]⟩ 0 0 0 0 0 0 0 0 (.slice none 0 0))) := put_but _ _ _ _ _ _ _ _ _ _ _ _ _ _ _ _
        go_wp2_with fail
        have P' := P.out
        have PB' := PB.out
        unfold put14 at P' PB'
        clear P PB
        generalize hW9 : World.setCell _ ⟨w.heap.size, 13, none⟩ _ = W9 at *
        obtain ⟨p0, p1, p2, p3, p4, p5, p6, p7, p8, p9, p10, p11, p12, p13⟩ := P'
        refine bodyPost_ret (v := .tuple #[.agg #[.int .i64 0, .string ⟨#[]⟩, .string ⟨#[]⟩, .string ⟨#[]⟩, .string ⟨#[]⟩, .int .i64 0, .int .i64 0, .int .i64 0, .int .i64 0, .int .i64 0, .int .i64 0, .int .i64 0, .int .i64 0, (.slice none 0 0)], .int .i64 WT, .int .i64 WE]) (by simp [results, Tryz.results13, go_sem, p0, p1, p2, p3, p4, p5, p6, p7, p8, p9, p10, p11, p12, p13]) rfl ?_
        exact ⟨0, ⟨#[]⟩, ⟨#[]⟩, ⟨#[]⟩, ⟨#[]⟩, 0, 0, 0, 0, 0, 0, 0, 0, none, 0, [], by rw [HD.out]; rfl, zero_as13 (by rw [HD.out]; exact HN.out), row_nil13 _, HB8.out.trans (PB'.below HB8.out.size (fun i e => by omega))⟩
      subst hWE
      have hz := decT_zero (l := tx.data.toList) (by rw [HD.out])
      have HZ : Hid (decT tx.data.toList = (0, 0)) := hz
      have hA : decA tx.data.toList = askOf K F := HAK.out (by rw [HZ.out])
      have HA : Hid (decA tx.data.toList = askOf K F) := hA
      clear hz hA
      obtain ⟨g0, g1, g2, g3, g4, g5, g6, g7, g8, g9, g10, g11, g12, g13⟩ := HA8.out
      have nbr : ¬ w1.heap.size = w.heap.size := by have := HSZ.out; omega
      have nbr' : ¬ w.heap.size = w1.heap.size := by have := HSZ.out; omega
      obtain ⟨r9, z9⟩ := CC8.out
      obtain ⟨r0, r1, r2, r3, r4, r5, r6, r7, r8, r9, r10, r11, r12, r13⟩ := r9
      have P : Hid (AskAt (put14 u20 w.heap.size K vi ⟨#[]⟩ vc vs vd vq vp va vb ve 0 0 (.slice none 0 0)) w.heap.size K vi ⟨#[]⟩ vc vs vd vq vp va vb ve 0 0 (.slice none 0 0)) := put_at CC8.out.1 K vi ⟨#[]⟩ vc vs vd vq vp va vb ve 0 0 (.slice none 0 0)
      have PB : Hid (But (fun j => j = w.heap.size) u20 (put14 u20 w.heap.size K vi ⟨#[]⟩ vc vs vd vq vp va vb ve 0 0 (.slice none 0 0))) := put_but _ _ _ _ _ _ _ _ _ _ _ _ _ _ _ _
      go_wp2_with fail
      have P' := P.out
      have PB' := PB.out
      unfold put14 at P' PB'
      clear P PB
      generalize hW9 : World.setCell _ ⟨w.heap.size, 13, none⟩ _ = W9 at *
      obtain ⟨p0, p1, p2, p3, p4, p5, p6, p7, p8, p9, p10, p11, p12, p13⟩ := P'
      refine bodyPost_ret (v := .tuple #[.agg #[.int .i64 K, .string vi, .string ⟨#[]⟩, .string vc, .string vs, .int .i64 vd, .int .i64 vq, .int .i64 vp, .int .i64 va, .int .i64 vb, .int .i64 ve, .int .i64 0, .int .i64 0, (.slice none 0 0)], .int .i64 0, .int .i64 0]) (by simp [results, Tryz.results13, go_sem, p0, p1, p2, p3, p4, p5, p6, p7, p8, p9, p10, p11, p12, p13]) rfl ?_
      exact ⟨K, vi, ⟨#[]⟩, vc, vs, vd, vq, vp, va, vb, ve, 0, 0, none, 0, [], by rw [HZ.out] <;> rfl, by rw [HA.out]; exact HRA2.out, row_put HR8.out PB' (fun x o ea => by have h1 := Z9.out x o _ _ (by rw [ea]); have := HSZ.out; omega), HB8.out.trans (PB'.below HB8.out.size (fun i e => by omega))⟩
end Go.Proofs.YtepkmbpadhfbmaaGreatDoor
