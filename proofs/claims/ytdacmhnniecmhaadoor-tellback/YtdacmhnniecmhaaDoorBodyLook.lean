/-
  Contracts of what only looks at a form: Kind, Has, Done.
-/
import Derived.Test.YtdacmhnniecmhaaDoorBodyForm
namespace Go.Proofs.YtdacmhnniecmhaaDoor
open Go.ChangeShapes Go.WideShapes Go.ChangeAt Go.RowKit Go.Lib

theorem fldV_shape (o : Option (ByteArray × Bool)) : ∃ s b, fldV o = .agg #[.string s, .bool b] := by
  cases o with
  | none => exact ⟨_, _, rfl⟩
  | some p => exact ⟨_, _, rfl⟩
theorem fld0 (s : ByteArray) (b : Bool) (w : World) : (Instr.field 100 (.agg #[.string s, .bool b]) 0).run Tryd.prog w = .ok (.string s) w := by kernel_rfl
theorem fld1 (s : ByteArray) (b : Bool) (w : World) : (Instr.field 100 (.agg #[.string s, .bool b]) 1).run Tryd.prog w = .ok (.bool b) w := by kernel_rfl
set_option maxHeartbeats 1000000 in
theorem kind_yes {n0 : Nat} {w : World} {fb bm n : Nat} {tv : Value} {tags : List Int} {L : Int → Option (ByteArray × Bool)} {at_ e0 : Int} (h : Frm n0 w fb bm n tv tags L at_ e0) (s : ByteArray) (b : Bool) (hL : L 35 = some (s, b)) :
    Calls Tryd.prog 31 #[.pointer (some ⟨fb, 0, none⟩)] w fun e w' => e = .returned (.string s) ∧ w' = w := by
  have F := made_yes h
  have lk := h.map.look 35 (by omega) (by omega)
  rw [hL, show fldV (some (s, b)) = .agg #[.string s, .bool b] from rfl] at lk
  have c0 := h.c0
  have g0 := fld0 s b
  clear h hL
  go_enter Tryd.func31, Tryd.ntmps31
  go_wp2_with fail
  refine F.mono ?_
  rintro e w1 ⟨rfl, rfl⟩
  go_wp2_with fail
  go_ret
  exact ⟨rfl, rfl⟩
set_option maxHeartbeats 1000000 in
theorem has_yes {n0 : Nat} {w : World} {fb bm n : Nat} {tv : Value} {tags : List Int} {L : Int → Option (ByteArray × Bool)} {at_ e0 : Int} (h : Frm n0 w fb bm n tv tags L at_ e0) (t : Int) (h1 : -9223372036854775808 ≤ t) (h2 : t ≤ 9223372036854775807) :
    Calls Tryd.prog 49 #[.pointer (some ⟨fb, 0, none⟩), .int .i64 t] w fun e w' => e = .returned (.bool (L t).isSome) ∧ Below w.heap.size w w' := by
  have F := made_yes h
  have lk := h.map.look_ok t h1 h2
  obtain ⟨s, b, e1⟩ := fldV_shape (L t)
  rw [e1] at lk
  generalize (L t).isSome = x at *
  have c0 := h.c0
  clear h e1
  go_enter Tryd.func49, Tryd.ntmps49
  go_wp2_with fail
  refine F.mono ?_
  rintro e w1 ⟨rfl, rfl⟩
  go_wp2_with fail
  go_ret
  exact ⟨rfl, (Below.refl _ _).alloc (Nat.le_refl _) _⟩
/-- Whether a field counts as asked for. -/
def askedB (L : Int → Option (ByteArray × Bool)) (t : Int) : Bool := match L t with
  | some (_, b) => b
  | none => false
theorem fldV_asked (L : Int → Option (ByteArray × Bool)) (t : Int) : ∃ s, fldV (L t) = .agg #[.string s, .bool (askedB L t)] := by
  unfold askedB
  cases L t with
  | none => exact ⟨_, rfl⟩
  | some p => exact ⟨p.1, rfl⟩
/-- The first field that was not asked for. -/
def spareE (L : Int → Option (ByteArray × Bool)) : List Int → Int × Int
  | [] => (0, 0)
  | t :: r => if askedB L t = true then spareE L r else (t, 113)
set_option maxHeartbeats 2000000 in
theorem done_err {n0 : Nat} {w : World} {fb bm n : Nat} {tv : Value} {tags : List Int} {L : Int → Option (ByteArray × Bool)} {at_ e0 : Int} (h : Frm n0 w fb bm n tv tags L at_ e0) (he : e0 ≠ 0) :
    Calls Tryd.prog 33 #[.pointer (some ⟨fb, 0, none⟩)] w fun e w' => e = .returned (.tuple #[.int .i64 at_, .int .i64 e0]) ∧ Below w.heap.size w w' := by
  have F := made_yes h
  have c2 := h.c2
  have c3 := h.c3
  have t : (e0 == 0) = false := beq_false_of_ne he
  clear h
  go_enter Tryd.func33, Tryd.ntmps33
  go_wp2_with fail
  refine F.mono ?_
  rintro e w1 ⟨rfl, rfl⟩
  go_wp2_with fail
  go_quiet (fail)
  go_wp2_with fail
  go_ret2
  exact ⟨rfl, below_drewN _ _ _⟩
set_option maxRecDepth 1000000 in
set_option maxHeartbeats 4000000 in
theorem done_ok {n0 : Nat} {w : World} {fb bm n : Nat} {tv : Value} {tags : List Int} {L : Int → Option (ByteArray × Bool)} {at_ : Int} (h : Frm n0 w fb bm n tv tags L at_ 0) (hr : ∀ t ∈ tags, -9223372036854775808 ≤ t ∧ t ≤ 9223372036854775807) :
    Calls Tryd.prog 33 #[.pointer (some ⟨fb, 0, none⟩)] w fun e w' => e = .returned (.tuple #[.int .i64 (spareE L tags).1, .int .i64 (spareE L tags).2]) ∧ w' = w := by
  have F := made_yes h
  have c0 := h.c0
  have c1 := h.c1
  have c3 := h.c3
  have lk := h.map.look
  obtain ⟨a, cap, rfl, r1, r2, r3⟩ := its_row h.own
  obtain ⟨A, E, hD⟩ : ∃ A E, spareE L tags = (A, E) := ⟨_, _, rfl⟩
  rw [hD]
  unfold maxLen at r2
  dsimp only
  clear h
  go_enter Tryd.func33, Tryd.ntmps33
  go_wp2_with fail
  refine F.mono ?_
  rintro e w1 ⟨rfl, rfl⟩
  go_wp2_with fail
  go_loopw [27] (fun i wr => ∃ k : Nat, i = .int .i64 (k : Int) ∧ k ≤ tags.length ∧ wr = w1 ∧ spareE L (tags.drop k) = (A, E)) (fun i _ => tags.length - (RowKit.intOf i).toNat)
  case atStart => exact ⟨0, rfl, Nat.zero_le _, rfl, hD⟩
  case round =>
    clear hD
    obtain ⟨k, rfl, hk, rfl, hg⟩ := hrel
    by_cases hp : k < tags.length
    · have t0 : (k : Int) < (tags.length : Int) := by omega
      obtain ⟨b, off, rfl, cc⟩ := r3 k hp
      have ek : tags.getD k 0 = tags[k] := by simp [hp]
      rw [ek] at cc
      have hm := hr tags[k] (List.getElem_mem hp)
      rw [List.drop_eq_getElem_cons hp, spareE] at hg
      have lk1 := lk tags[k] hm.1 hm.2
      obtain ⟨s, e1⟩ := fldV_asked L tags[k]
      rw [e1] at lk1
      have g1 := fld1 s
      generalize tags[k] = T at *
      clear r3 lk hr ek e1 F
      by_cases hb : askedB L T = true
      · rw [if_pos hb] at hg
        rw [hb] at lk1
        have HG : Hid (spareE L (tags.drop (k + 1)) = (A, E)) := hg
        clear hg hb
        go_wp2_with fail
        go_roundw
        case rel => exact ⟨k + 1, by simp, by omega, by first | trivial | rfl, HG.out⟩
        case measure => simp [RowKit.intOf]; omega
      · have hb' : askedB L T = false := by simpa using hb
        rw [if_neg hb] at hg
        rw [hb'] at lk1
        have HG : Hid ((T, (113 : Int)) = (A, E)) := hg
        clear hg hb hb'
        go_wp2_with fail
        go_ret2
        have := HG.out
        simp only [Prod.mk.injEq] at this
        exact ⟨by rw [← this.1, ← this.2]; rfl, rfl⟩
    · obtain rfl : k = tags.length := by omega
      have t0 : ¬ (tags.length : Int) < (tags.length : Int) := by omega
      rw [List.drop_length, spareE] at hg
      have HG : Hid (((0 : Int), (0 : Int)) = (A, E)) := hg
      clear hg
      go_wp2_with fail
      go_ret2
      have := HG.out
      simp only [Prod.mk.injEq] at this
      exact ⟨by rw [← this.1, ← this.2]; rfl, rfl⟩
end Go.Proofs.YtdacmhnniecmhaaDoor
