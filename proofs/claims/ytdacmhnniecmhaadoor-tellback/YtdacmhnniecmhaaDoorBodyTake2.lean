/-
  Contracts of body's take where the field lacks, where an error came before, and at lists of numbers.
-/
import Derived.Test.YtdacmhnniecmhaaDoorBodyAsk
import Derived.Test.YtdacmhnniecmhaaDoorIntRows
namespace Go.Proofs.YtdacmhnniecmhaaDoor
open Go.ChangeShapes Go.WideShapes Go.ChangeAt Go.RowKit Go.Lib

theorem own_lower {w : World} {base base' : Nat} {e : TypeId} {size : Nat} {v : Value} {n : Nat} {xs : List Value} (h : w.ownsRow base e size v n xs) (hb : base' ≤ base) : w.ownsRow base' e size v n xs := by
  refine ⟨h.1, ?_⟩
  rcases h.2 with hn | ⟨g, cap, cur, e1, h1, r⟩
  · exact .inl hn
  · exact .inr ⟨g, cap, cur, e1, Nat.le_trans hb h1, r⟩
theorem Frm.wide {n0 : Nat} {w : World} {fb bm n m : Nat} {tv : Value} {tags : List Int} {L : Int → Option (ByteArray × Bool)} {at_ e : Int} (h : Frm n0 w fb bm n tv tags L at_ e) (hm : n ≤ m) : Frm n0 w fb bm m tv tags L at_ e :=
  { h with map := h.map.wide hm }
set_option maxHeartbeats 1000000 in
theorem takeI_err {n0 : Nat} {w : World} {fb bm n : Nat} {tv : Value} {tags : List Int} {L : Int → Option (ByteArray × Bool)} {at_ e0 : Int} (h : Frm n0 w fb bm n tv tags L at_ e0) (he : e0 ≠ 0) (t : Int) (g : Value) :
    Calls Tryd.prog 67 #[.pointer (some ⟨fb, 0, none⟩), .int .i64 t, g] w fun e w' => e = .returned (.int .i64 0) ∧ w' = w := by
  have F := made_yes h
  have c3 := h.c3
  have te : (e0 == 0) = false := beq_false_of_ne he
  clear h
  go_enter Tryd.func67, Tryd.ntmps67
  go_wp2_with fail
  refine F.mono ?_
  rintro e w1 ⟨rfl, rfl⟩
  go_wp2_with fail
  go_ret
  exact ⟨rfl, rfl⟩
set_option maxRecDepth 1000000 in
set_option maxHeartbeats 4000000 in
theorem takeI_miss {n0 : Nat} {w : World} {fb bm n : Nat} {tv : Value} {tags : List Int} {L : Int → Option (ByteArray × Bool)} {at_ : Int} (h : Frm n0 w fb bm n tv tags L at_ 0) (t : Int) (h1 : -9223372036854775808 ≤ t) (h2 : t ≤ 9223372036854775807) (hL : L t = none) (g : Value) :
    Calls Tryd.prog 67 #[.pointer (some ⟨fb, 0, none⟩), .int .i64 t, g] w fun e w' => e = .returned (.int .i64 0) ∧ Frm n0 w' fb bm n tv tags L t 110 ∧ But (Two fb bm) w w' := by
  have F := made_yes h
  have lk := h.map.look_ok t h1 h2
  rw [hL, show fldV none = .agg #[.string ⟨#[]⟩, .bool false] from rfl, show (none : Option (ByteArray × Bool)).isSome = false from rfl] at lk
  have c0 := h.c0
  have c3 := h.c3
  have lt := h.lt
  have d2 := h.c2
  have g2 := h.f2
  have g3 := h.f3
  have nb : ¬ fb = w.heap.size := by omega
  have nb' : ¬ w.heap.size = fb := by omega
  have HG : Hid (Frm n0 w fb bm n tv tags L at_ 0) := h
  clear h hL
  go_enter Tryd.func67, Tryd.ntmps67
  go_wp2_with fail
  refine F.mono ?_
  rintro e w1 ⟨rfl, rfl⟩
  clear F
  go_wp2_with fail
  go_ret
  exact ⟨rfl, (HG.out.fail t 110).still ((Below.refl _ _).alloc (Nat.le_refl _) _), (((But.refl (Two fb bm) w1).setCell fb 2 _ (fun _ => .inl rfl)).setCell fb 3 _ (fun _ => .inl rfl)).alloc _⟩
set_option maxHeartbeats 1000000 in
theorem takeS_err {n0 : Nat} {w : World} {fb bm n : Nat} {tv : Value} {tags : List Int} {L : Int → Option (ByteArray × Bool)} {at_ e0 : Int} (h : Frm n0 w fb bm n tv tags L at_ e0) (he : e0 ≠ 0) (t : Int) (g : Value) :
    Calls Tryd.prog 65 #[.pointer (some ⟨fb, 0, none⟩), .int .i64 t, g] w fun e w' => e = .returned (.string ⟨#[]⟩) ∧ w' = w := by
  have F := made_yes h
  have c3 := h.c3
  have te : (e0 == 0) = false := beq_false_of_ne he
  clear h
  go_enter Tryd.func65, Tryd.ntmps65
  go_wp2_with fail
  refine F.mono ?_
  rintro e w1 ⟨rfl, rfl⟩
  go_wp2_with fail
  go_ret
  exact ⟨rfl, rfl⟩
set_option maxRecDepth 1000000 in
set_option maxHeartbeats 4000000 in
theorem takeS_miss {n0 : Nat} {w : World} {fb bm n : Nat} {tv : Value} {tags : List Int} {L : Int → Option (ByteArray × Bool)} {at_ : Int} (h : Frm n0 w fb bm n tv tags L at_ 0) (t : Int) (h1 : -9223372036854775808 ≤ t) (h2 : t ≤ 9223372036854775807) (hL : L t = none) (g : Value) :
    Calls Tryd.prog 65 #[.pointer (some ⟨fb, 0, none⟩), .int .i64 t, g] w fun e w' => e = .returned (.string ⟨#[]⟩) ∧ Frm n0 w' fb bm n tv tags L t 110 ∧ But (Two fb bm) w w' := by
  have F := made_yes h
  have lk := h.map.look_ok t h1 h2
  rw [hL, show fldV none = .agg #[.string ⟨#[]⟩, .bool false] from rfl, show (none : Option (ByteArray × Bool)).isSome = false from rfl] at lk
  have c0 := h.c0
  have c3 := h.c3
  have lt := h.lt
  have d2 := h.c2
  have g2 := h.f2
  have g3 := h.f3
  have nb : ¬ fb = w.heap.size := by omega
  have nb' : ¬ w.heap.size = fb := by omega
  have HG : Hid (Frm n0 w fb bm n tv tags L at_ 0) := h
  clear h hL
  go_enter Tryd.func65, Tryd.ntmps65
  go_wp2_with fail
  refine F.mono ?_
  rintro e w1 ⟨rfl, rfl⟩
  clear F
  go_wp2_with fail
  go_ret
  exact ⟨rfl, (HG.out.fail t 110).still ((Below.refl _ _).alloc (Nat.le_refl _) _), (((But.refl (Two fb bm) w1).setCell fb 2 _ (fun _ => .inl rfl)).setCell fb 3 _ (fun _ => .inl rfl)).alloc _⟩
set_option maxRecDepth 1000000 in
set_option maxHeartbeats 4000000 in
theorem takeI_bad' {n0 : Nat} {w : World} {fb bm n : Nat} {tv : Value} {tags : List Int} {L : Int → Option (ByteArray × Bool)} {at_ : Int} (h : Frm n0 w fb bm n tv tags L at_ 0) (t : Int) (h1 : -9223372036854775808 ≤ t) (h2 : t ≤ 9223372036854775807) (s : ByteArray) (b : Bool) (hL : L t = some (s, b)) (b1 b2 : Nat) (e1 : Int) (he : e1 ≠ 0)
    (R : ∀ w1, Below w.heap.size w w1 → Calls Tryd.prog 68 #[.string s, .pointer (some ⟨b1, 0, none⟩), .pointer (some ⟨b2, 0, none⟩)] w1 fun e w2 => ∃ x : Int, e = .returned (.tuple #[.int .i64 x, .int .i64 e1]) ∧ Below w1.heap.size w1 w2) :
    Calls Tryd.prog 67 #[.pointer (some ⟨fb, 0, none⟩), .int .i64 t, .func (.func 68) #[] #[.pointer (some ⟨b1, 0, none⟩), .pointer (some ⟨b2, 0, none⟩)]] w fun e w' => e = .returned (.int .i64 0) ∧ Frm n0 w' fb bm n tv tags L t e1 ∧ But (Two fb bm) w w' := by
  have F := made_yes h
  have lk := h.map.look_ok t h1 h2
  rw [hL, show fldV (some (s, b)) = .agg #[.string s, .bool b] from rfl, show (some (s, b)).isSome = true from rfl] at lk
  have c0 := h.c0
  have c3 := h.c3
  have lt := h.lt
  have HF : Hid (Frm n0 w fb bm n tv tags L at_ 0) := h
  have A1 : Below w.heap.size w (w.alloc (.cells #[.string s, .bool b] 100)) := (Below.refl _ w).alloc (Nat.le_refl _) _
  have R1 := R _ A1
  have te : (e1 == 0) = false := beq_false_of_ne he
  clear h hL R
  go_enter Tryd.func67, Tryd.ntmps67
  go_wp2_with fail
  refine F.mono ?_
  rintro e w1 ⟨rfl, rfl⟩
  clear F
  go_wp2_with fail
  refine R1.mono ?_
  rintro e w2 ⟨x, rfl, hb⟩
  clear R1
  have B2 : Below w1.heap.size w1 w2 := A1.trans (hb.mono (by simp))
  have G2 := HF.out.still B2
  have d0 := G2.c0
  have d2 := G2.c2
  have d3 := G2.c3
  have g2 := G2.f2
  have g3 := G2.f3
  have HG : Hid (Frm n0 w2 fb bm n tv tags L at_ 0) := G2
  have HB : Hid (Below w1.heap.size w1 w2) := B2
  clear G2 B2 hb c0 c3 lk A1
  go_wp2_with fail
  go_ret
  exact ⟨rfl, HG.out.fail t e1, (((But.of_below HB.out).setCell fb 2 _ (fun _ => .inl rfl)).setCell fb 3 _ (fun _ => .inl rfl))⟩
end Go.Proofs.YtdacmhnniecmhaaDoor
