/-
  The contract of tell's eachField, for whatever two functions it is handed.
-/
import Derived.Test.YtdacmhnniecmhaaDoorTellBase
namespace Go.Proofs.YtdacmhnniecmhaaDoor
open Go.ChangeShapes Go.WideShapes Go.ChangeAt Go.RowKit Go.Lib

theorem Pls.at {w : World} {sb b : Nat} {L : List Pl} (h : Pls w sb b L) {i : Nat} (hi : i < L.length) :
    w.cell? ⟨sb, i * 5, none⟩ = some (.int .i64 (L[i]).tag) ∧ w.cell? ⟨sb, i * 5 + 1, none⟩ = some (.pointer (if (L[i]).isName = true then some ⟨b, (L[i]).off, none⟩ else none)) ∧ w.cell? ⟨sb, i * 5 + 2, none⟩ = some (.pointer (if (L[i]).isName = true then none else some ⟨b, (L[i]).off, none⟩)) ∧ w.cell? ⟨sb, i * 5 + 3, none⟩ = some (.int .i64 (L[i]).low) ∧ w.cell? ⟨sb, i * 5 + 4, none⟩ = some (.int .i64 (L[i]).high) :=
  ⟨h i hi 0 (by omega), h i hi 1 (by omega), h i hi 2 (by omega), h i hi 3 (by omega), h i hi 4 (by omega)⟩
/-- What one of the two functions does at a field. -/
def Steps (sb : Nat) (J : Nat → World → Prop) (i : Nat) (wa : World) (e : Ending) (wb : World) : Prop := e = .returned (.tuple #[]) ∧ J (i + 1) wb ∧ ∀ o, wb.cell? ⟨sb, o, none⟩ = wa.cell? ⟨sb, o, none⟩
set_option maxRecDepth 100000 in
set_option maxHeartbeats 4000000 in
theorem eachRight {w : World} {b cb : Nat} {k : Int} (h1 : 1 ≤ k) (h4 : k ≤ 4) (c0 : w.cell? ⟨b, 0, none⟩ = some (.int .i64 k)) (J : Nat → World → Prop)
    (start : ∀ w', Below w.heap.size w w' → J 0 w')
    (keep : ∀ i wa wb, J i wa → Below wa.heap.size wa wb → J i wb)
    (name : ∀ i, (h : i < (listK k).length) → ((listK k)[i]).isName = true → ∀ wa, J i wa → w.heap.size < wa.heap.size → Calls Tryd.prog 23 #[.int .i64 ((listK k)[i]).tag, .pointer (some ⟨b, ((listK k)[i]).off, none⟩), .pointer (some ⟨cb, 0, none⟩)] wa (Steps w.heap.size J i wa))
    (num : ∀ i, (h : i < (listK k).length) → ((listK k)[i]).isName = false → ∀ wa, J i wa → w.heap.size < wa.heap.size → Calls Tryd.prog 25 #[.int .i64 ((listK k)[i]).tag, .pointer (some ⟨b, ((listK k)[i]).off, none⟩), .int .i64 ((listK k)[i]).low, .int .i64 ((listK k)[i]).high, .pointer (some ⟨cb, 0, none⟩)] wa (Steps w.heap.size J i wa)) :
    Calls Tryd.prog 15 #[.pointer (some ⟨b, 0, none⟩), .func (.func 23) #[] #[.pointer (some ⟨cb, 0, none⟩)], .func (.func 25) #[] #[.pointer (some ⟨cb, 0, none⟩)]] w fun e w' => e = .returned (.tuple #[]) ∧ J (listK k).length w' := by
  have FO := fieldsOf_any h1 h4 b w c0
  have hlen := list_len k
  generalize listK k = L at *
  go_enter Tryd.func15, Tryd.ntmps15
  go_wp2_with fail
  refine FO.mono ?_
  rintro e w1 ⟨rfl, P1, b1⟩
  have J1 := start w1 b1
  clear FO start b1
  go_wp2_with fail
  go_loopw [11] (fun i wr => ∃ m : Nat, i = .int .i64 (m : Int) ∧ m ≤ L.length ∧ J m wr ∧ Pls wr w.heap.size b L) (fun i _ => L.length - (RowKit.intOf i).toNat)
  case atStart => exact ⟨0, rfl, by omega, J1, P1⟩
  case round =>
    clear P1 J1
    obtain ⟨m, rfl, hm, Jm, Pm⟩ := hrel
    by_cases hlt : m < L.length
    · have t0 : (m : Int) < (L.length : Int) := by omega
      obtain ⟨d0, d1, d2, d3, d4⟩ := Pm.at hlt
      have NM := name m hlt
      have NU := num m hlt
      have HP : Hid (Pls wr w.heap.size b L) := Pm
      have HJ : Hid (J m wr) := Jm
      obtain ⟨p, hp⟩ : ∃ p, L[m] = p := ⟨_, rfl⟩
      rw [hp] at d0 d1 d2 d3 d4 NM NU
      clear name num hp Pm Jm
      obtain ⟨tag, nm, off, low, high⟩ := p
      dsimp only at d0 d1 d2 d3 d4 NM NU
      cases nm with
      | true =>
        rw [if_pos rfl] at d1 d2
        have NM1 := NM rfl
        have lz := World.block_lt_of_cell? _ _ d0
        have bA : Below wr.heap.size wr (wr.alloc (.cells #[.int .i64 tag, .pointer (some ⟨b, off, none⟩), .pointer none, .int .i64 low, .int .i64 high] 76)) := (Below.refl _ wr).alloc (Nat.le_refl _) _
        have JA := keep m _ _ HJ.out bA
        have F := NM1 _ JA (by have lz' : w.heap.size < wr.heap.size := lz; simp; omega)
        have HA : Hid (∀ o, (wr.alloc (.cells #[.int .i64 tag, .pointer (some ⟨b, off, none⟩), .pointer none, .int .i64 low, .int .i64 high] 76)).cell? ⟨w.heap.size, o, none⟩ = wr.cell? ⟨w.heap.size, o, none⟩) := fun o => bA.cell (p := ⟨w.heap.size, o, none⟩) lz
        clear NM NU NM1 JA bA
        go_wp2_with fail
        refine F.mono ?_
        rintro e w2 ⟨rfl, J2, k2⟩
        have HP2 : Hid (Pls w2 w.heap.size b L) := fun i hi j hj => by rw [k2, HA.out]; exact HP.out i hi j hj
        have HJ2 : Hid (J (m + 1) w2) := J2
        clear F J2 k2
        go_wp2_with fail
        go_roundw
        case rel => exact ⟨m + 1, by simp, by omega, HJ2.out, HP2.out⟩
        case measure => simp [RowKit.intOf]; omega
      | false =>
        rw [if_neg (by decide)] at d1 d2
        have NM1 := NU rfl
        have lz := World.block_lt_of_cell? _ _ d0
        have bA : Below wr.heap.size wr (wr.alloc (.cells #[.int .i64 tag, .pointer none, .pointer (some ⟨b, off, none⟩), .int .i64 low, .int .i64 high] 76)) := (Below.refl _ wr).alloc (Nat.le_refl _) _
        have JA := keep m _ _ HJ.out bA
        have F := NM1 _ JA (by have lz' : w.heap.size < wr.heap.size := lz; simp; omega)
        have HA : Hid (∀ o, (wr.alloc (.cells #[.int .i64 tag, .pointer none, .pointer (some ⟨b, off, none⟩), .int .i64 low, .int .i64 high] 76)).cell? ⟨w.heap.size, o, none⟩ = wr.cell? ⟨w.heap.size, o, none⟩) := fun o => bA.cell (p := ⟨w.heap.size, o, none⟩) lz
        clear NM NU NM1 JA bA
        go_wp2_with fail
        refine F.mono ?_
        rintro e w2 ⟨rfl, J2, k2⟩
        have HP2 : Hid (Pls w2 w.heap.size b L) := fun i hi j hj => by rw [k2, HA.out]; exact HP.out i hi j hj
        have HJ2 : Hid (J (m + 1) w2) := J2
        clear F J2 k2
        go_wp2_with fail
        go_roundw
        case rel => exact ⟨m + 1, by simp, by omega, HJ2.out, HP2.out⟩
        case measure => simp [RowKit.intOf]; omega
    · obtain rfl : m = L.length := by omega
      have t0 : ¬ (L.length : Int) < (L.length : Int) := by omega
      clear name num Pm
      go_wp2_with fail
      go_end0
      exact ⟨rfl, Jm⟩
set_option maxRecDepth 100000 in
set_option maxHeartbeats 4000000 in
theorem eachEncode {w : World} {b cb : Nat} {k : Int} (h1 : 1 ≤ k) (h4 : k ≤ 4) (c0 : w.cell? ⟨b, 0, none⟩ = some (.int .i64 k)) (J : Nat → World → Prop)
    (start : ∀ w', Below w.heap.size w w' → J 0 w')
    (keep : ∀ i wa wb, J i wa → Below wa.heap.size wa wb → J i wb)
    (name : ∀ i, (h : i < (listK k).length) → ((listK k)[i]).isName = true → ∀ wa, J i wa → w.heap.size < wa.heap.size → Calls Tryd.prog 16 #[.int .i64 ((listK k)[i]).tag, .pointer (some ⟨b, ((listK k)[i]).off, none⟩), .pointer (some ⟨cb, 0, none⟩)] wa (Steps w.heap.size J i wa))
    (num : ∀ i, (h : i < (listK k).length) → ((listK k)[i]).isName = false → ∀ wa, J i wa → w.heap.size < wa.heap.size → Calls Tryd.prog 17 #[.int .i64 ((listK k)[i]).tag, .pointer (some ⟨b, ((listK k)[i]).off, none⟩), .int .i64 ((listK k)[i]).low, .int .i64 ((listK k)[i]).high, .pointer (some ⟨cb, 0, none⟩)] wa (Steps w.heap.size J i wa)) :
    Calls Tryd.prog 15 #[.pointer (some ⟨b, 0, none⟩), .func (.func 16) #[] #[.pointer (some ⟨cb, 0, none⟩)], .func (.func 17) #[] #[.pointer (some ⟨cb, 0, none⟩)]] w fun e w' => e = .returned (.tuple #[]) ∧ J (listK k).length w' := by
  have FO := fieldsOf_any h1 h4 b w c0
  have hlen := list_len k
  generalize listK k = L at *
  go_enter Tryd.func15, Tryd.ntmps15
  go_wp2_with fail
  refine FO.mono ?_
  rintro e w1 ⟨rfl, P1, b1⟩
  have J1 := start w1 b1
  clear FO start b1
  go_wp2_with fail
  go_loopw [11] (fun i wr => ∃ m : Nat, i = .int .i64 (m : Int) ∧ m ≤ L.length ∧ J m wr ∧ Pls wr w.heap.size b L) (fun i _ => L.length - (RowKit.intOf i).toNat)
  case atStart => exact ⟨0, rfl, by omega, J1, P1⟩
  case round =>
    clear P1 J1
    obtain ⟨m, rfl, hm, Jm, Pm⟩ := hrel
    by_cases hlt : m < L.length
    · have t0 : (m : Int) < (L.length : Int) := by omega
      obtain ⟨d0, d1, d2, d3, d4⟩ := Pm.at hlt
      have NM := name m hlt
      have NU := num m hlt
      have HP : Hid (Pls wr w.heap.size b L) := Pm
      have HJ : Hid (J m wr) := Jm
      obtain ⟨p, hp⟩ : ∃ p, L[m] = p := ⟨_, rfl⟩
      rw [hp] at d0 d1 d2 d3 d4 NM NU
      clear name num hp Pm Jm
      obtain ⟨tag, nm, off, low, high⟩ := p
      dsimp only at d0 d1 d2 d3 d4 NM NU
      cases nm with
      | true =>
        rw [if_pos rfl] at d1 d2
        have NM1 := NM rfl
        have lz := World.block_lt_of_cell? _ _ d0
        have bA : Below wr.heap.size wr (wr.alloc (.cells #[.int .i64 tag, .pointer (some ⟨b, off, none⟩), .pointer none, .int .i64 low, .int .i64 high] 76)) := (Below.refl _ wr).alloc (Nat.le_refl _) _
        have JA := keep m _ _ HJ.out bA
        have F := NM1 _ JA (by have lz' : w.heap.size < wr.heap.size := lz; simp; omega)
        have HA : Hid (∀ o, (wr.alloc (.cells #[.int .i64 tag, .pointer (some ⟨b, off, none⟩), .pointer none, .int .i64 low, .int .i64 high] 76)).cell? ⟨w.heap.size, o, none⟩ = wr.cell? ⟨w.heap.size, o, none⟩) := fun o => bA.cell (p := ⟨w.heap.size, o, none⟩) lz
        clear NM NU NM1 JA bA
        go_wp2_with fail
        refine F.mono ?_
        rintro e w2 ⟨rfl, J2, k2⟩
        have HP2 : Hid (Pls w2 w.heap.size b L) := fun i hi j hj => by rw [k2, HA.out]; exact HP.out i hi j hj
        have HJ2 : Hid (J (m + 1) w2) := J2
        clear F J2 k2
        go_wp2_with fail
        go_roundw
        case rel => exact ⟨m + 1, by simp, by omega, HJ2.out, HP2.out⟩
        case measure => simp [RowKit.intOf]; omega
      | false =>
        rw [if_neg (by decide)] at d1 d2
        have NM1 := NU rfl
        have lz := World.block_lt_of_cell? _ _ d0
        have bA : Below wr.heap.size wr (wr.alloc (.cells #[.int .i64 tag, .pointer none, .pointer (some ⟨b, off, none⟩), .int .i64 low, .int .i64 high] 76)) := (Below.refl _ wr).alloc (Nat.le_refl _) _
        have JA := keep m _ _ HJ.out bA
        have F := NM1 _ JA (by have lz' : w.heap.size < wr.heap.size := lz; simp; omega)
        have HA : Hid (∀ o, (wr.alloc (.cells #[.int .i64 tag, .pointer none, .pointer (some ⟨b, off, none⟩), .int .i64 low, .int .i64 high] 76)).cell? ⟨w.heap.size, o, none⟩ = wr.cell? ⟨w.heap.size, o, none⟩) := fun o => bA.cell (p := ⟨w.heap.size, o, none⟩) lz
        clear NM NU NM1 JA bA
        go_wp2_with fail
        refine F.mono ?_
        rintro e w2 ⟨rfl, J2, k2⟩
        have HP2 : Hid (Pls w2 w.heap.size b L) := fun i hi j hj => by rw [k2, HA.out]; exact HP.out i hi j hj
        have HJ2 : Hid (J (m + 1) w2) := J2
        clear F J2 k2
        go_wp2_with fail
        go_roundw
        case rel => exact ⟨m + 1, by simp, by omega, HJ2.out, HP2.out⟩
        case measure => simp [RowKit.intOf]; omega
    · obtain rfl : m = L.length := by omega
      have t0 : ¬ (L.length : Int) < (L.length : Int) := by omega
      clear name num Pm
      go_wp2_with fail
      go_end0
      exact ⟨rfl, Jm⟩
set_option maxRecDepth 100000 in
set_option maxHeartbeats 4000000 in
theorem eachRead {w : World} {b cb : Nat} {k : Int} (h1 : 1 ≤ k) (h4 : k ≤ 4) (c0 : w.cell? ⟨b, 0, none⟩ = some (.int .i64 k)) (J : Nat → World → Prop)
    (start : ∀ w', Below w.heap.size w w' → J 0 w')
    (keep : ∀ i wa wb, J i wa → Below wa.heap.size wa wb → J i wb)
    (name : ∀ i, (h : i < (listK k).length) → ((listK k)[i]).isName = true → ∀ wa, J i wa → w.heap.size < wa.heap.size → Calls Tryd.prog 51 #[.int .i64 ((listK k)[i]).tag, .pointer (some ⟨b, ((listK k)[i]).off, none⟩), .pointer (some ⟨cb, 0, none⟩)] wa (Steps w.heap.size J i wa))
    (num : ∀ i, (h : i < (listK k).length) → ((listK k)[i]).isName = false → ∀ wa, J i wa → w.heap.size < wa.heap.size → Calls Tryd.prog 53 #[.int .i64 ((listK k)[i]).tag, .pointer (some ⟨b, ((listK k)[i]).off, none⟩), .int .i64 ((listK k)[i]).low, .int .i64 ((listK k)[i]).high, .pointer (some ⟨cb, 0, none⟩)] wa (Steps w.heap.size J i wa)) :
    Calls Tryd.prog 15 #[.pointer (some ⟨b, 0, none⟩), .func (.func 51) #[] #[.pointer (some ⟨cb, 0, none⟩)], .func (.func 53) #[] #[.pointer (some ⟨cb, 0, none⟩)]] w fun e w' => e = .returned (.tuple #[]) ∧ J (listK k).length w' := by
  have FO := fieldsOf_any h1 h4 b w c0
  have hlen := list_len k
  generalize listK k = L at *
  go_enter Tryd.func15, Tryd.ntmps15
  go_wp2_with fail
  refine FO.mono ?_
  rintro e w1 ⟨rfl, P1, b1⟩
  have J1 := start w1 b1
  clear FO start b1
  go_wp2_with fail
  go_loopw [11] (fun i wr => ∃ m : Nat, i = .int .i64 (m : Int) ∧ m ≤ L.length ∧ J m wr ∧ Pls wr w.heap.size b L) (fun i _ => L.length - (RowKit.intOf i).toNat)
  case atStart => exact ⟨0, rfl, by omega, J1, P1⟩
  case round =>
    clear P1 J1
    obtain ⟨m, rfl, hm, Jm, Pm⟩ := hrel
    by_cases hlt : m < L.length
    · have t0 : (m : Int) < (L.length : Int) := by omega
      obtain ⟨d0, d1, d2, d3, d4⟩ := Pm.at hlt
      have NM := name m hlt
      have NU := num m hlt
      have HP : Hid (Pls wr w.heap.size b L) := Pm
      have HJ : Hid (J m wr) := Jm
      obtain ⟨p, hp⟩ : ∃ p, L[m] = p := ⟨_, rfl⟩
      rw [hp] at d0 d1 d2 d3 d4 NM NU
      clear name num hp Pm Jm
      obtain ⟨tag, nm, off, low, high⟩ := p
      dsimp only at d0 d1 d2 d3 d4 NM NU
      cases nm with
      | true =>
        rw [if_pos rfl] at d1 d2
        have NM1 := NM rfl
        have lz := World.block_lt_of_cell? _ _ d0
        have bA : Below wr.heap.size wr (wr.alloc (.cells #[.int .i64 tag, .pointer (some ⟨b, off, none⟩), .pointer none, .int .i64 low, .int .i64 high] 76)) := (Below.refl _ wr).alloc (Nat.le_refl _) _
        have JA := keep m _ _ HJ.out bA
        have F := NM1 _ JA (by have lz' : w.heap.size < wr.heap.size := lz; simp; omega)
        have HA : Hid (∀ o, (wr.alloc (.cells #[.int .i64 tag, .pointer (some ⟨b, off, none⟩), .pointer none, .int .i64 low, .int .i64 high] 76)).cell? ⟨w.heap.size, o, none⟩ = wr.cell? ⟨w.heap.size, o, none⟩) := fun o => bA.cell (p := ⟨w.heap.size, o, none⟩) lz
        clear NM NU NM1 JA bA
        go_wp2_with fail
        refine F.mono ?_
        rintro e w2 ⟨rfl, J2, k2⟩
        have HP2 : Hid (Pls w2 w.heap.size b L) := fun i hi j hj => by rw [k2, HA.out]; exact HP.out i hi j hj
        have HJ2 : Hid (J (m + 1) w2) := J2
        clear F J2 k2
        go_wp2_with fail
        go_roundw
        case rel => exact ⟨m + 1, by simp, by omega, HJ2.out, HP2.out⟩
        case measure => simp [RowKit.intOf]; omega
      | false =>
        rw [if_neg (by decide)] at d1 d2
        have NM1 := NU rfl
        have lz := World.block_lt_of_cell? _ _ d0
        have bA : Below wr.heap.size wr (wr.alloc (.cells #[.int .i64 tag, .pointer none, .pointer (some ⟨b, off, none⟩), .int .i64 low, .int .i64 high] 76)) := (Below.refl _ wr).alloc (Nat.le_refl _) _
        have JA := keep m _ _ HJ.out bA
        have F := NM1 _ JA (by have lz' : w.heap.size < wr.heap.size := lz; simp; omega)
        have HA : Hid (∀ o, (wr.alloc (.cells #[.int .i64 tag, .pointer none, .pointer (some ⟨b, off, none⟩), .int .i64 low, .int .i64 high] 76)).cell? ⟨w.heap.size, o, none⟩ = wr.cell? ⟨w.heap.size, o, none⟩) := fun o => bA.cell (p := ⟨w.heap.size, o, none⟩) lz
        clear NM NU NM1 JA bA
        go_wp2_with fail
        refine F.mono ?_
        rintro e w2 ⟨rfl, J2, k2⟩
        have HP2 : Hid (Pls w2 w.heap.size b L) := fun i hi j hj => by rw [k2, HA.out]; exact HP.out i hi j hj
        have HJ2 : Hid (J (m + 1) w2) := J2
        clear F J2 k2
        go_wp2_with fail
        go_roundw
        case rel => exact ⟨m + 1, by simp, by omega, HJ2.out, HP2.out⟩
        case measure => simp [RowKit.intOf]; omega
    · obtain rfl : m = L.length := by omega
      have t0 : ¬ (L.length : Int) < (L.length : Int) := by omega
      clear name num Pm
      go_wp2_with fail
      go_end0
      exact ⟨rfl, Jm⟩
end Go.Proofs.YtdacmhnniecmhaaDoor
