/-
  The contracts of post's right and RightOrder, for every Order.
-/
import Derived.Test.YtlgnbnojjfgfmaaPostThrRightO
import Derived.Test.YtlgnbnojjfgfmaaPostMathO
namespace Go.Proofs.Ytlgnbnojjfgfmaa.PP.O
open Go.ChangeShapes Go.WideShapes Go.ChangeAt Go.RowKit Go.Lib

/-- The blocks that right makes: the thing, what has the kind alone, a bool. -/
abbrev boxes (w : World) (t : ThP) : World := ((w.alloc (.cells #[.int .i64 (t.2 0), .int .i64 (t.2 1), .string (t.1 2), .string (t.1 3), .int .i64 (t.2 4), .int .i64 (t.2 5), .int .i64 (t.2 6)] 34)).alloc (.cells #[.int .i64 (t.2 0), .int .i64 0, .string ⟨#[]⟩, .string ⟨#[]⟩, .int .i64 0, .int .i64 0, .int .i64 0] 34)).alloc (.cells #[.bool true] 4)
theorem boxes_size (w : World) (t : ThP) : (boxes w t).heap.size = w.heap.size + 3 := by simp
theorem boxes_below (w : World) (t : ThP) : Below w.heap.size w (boxes w t) := (((Below.refl _ w).alloc (Nat.le_refl _) _).alloc (by simp) _).alloc (by simp; omega) _
theorem boxes_rt (w : World) (t : ThP) : RT (boxes w t) w.heap.size (w.heap.size + 2) true t := by
  have z1 : (boxT w t).heap.size = w.heap.size + 1 := by simp
  have z2 : ((w.alloc (.cells #[.int .i64 (t.2 0), .int .i64 (t.2 1), .string (t.1 2), .string (t.1 3), .int .i64 (t.2 4), .int .i64 (t.2 5), .int .i64 (t.2 6)] 34)).alloc (.cells #[.int .i64 (t.2 0), .int .i64 0, .string ⟨#[]⟩, .string ⟨#[]⟩, .int .i64 0, .int .i64 0, .int .i64 0] 34)).heap.size = w.heap.size + 2 := by simp
  have b1 : Below (boxT w t).heap.size (boxT w t) (boxes w t) := ((Below.refl _ _).alloc (Nat.le_refl _) _).alloc (by simp) _
  refine ⟨(box_at w t).still b1, ?_, ?_, by omega⟩
  · exact (fun (W2 : World) (h : W2.heap.size = w.heap.size + 2) => show (W2.alloc (.cells #[.bool true] 4)).cell? ⟨w.heap.size + 2, 0, none⟩ = some (.bool true) by rw [← h]; simp) _ z2
  · exact (fun (W2 : World) (h : W2.heap.size = w.heap.size + 2) => show (W2.alloc (.cells #[.bool true] 4)).frozen? ⟨w.heap.size + 2, 0, none⟩ = false by rw [← h]; simp) _ z2
theorem boxes_bare (w : World) (t : ThP) : ThAt nm (boxes w t) (w.heap.size + 1) (zeroT (t.2 0)) := by
  have z1 : (boxT w t).heap.size = w.heap.size + 1 := by simp
  have b2 : Below (boxT (boxT w t) (zeroT (t.2 0))).heap.size (boxT (boxT w t) (zeroT (t.2 0))) (boxes w t) := (Below.refl _ _).alloc (Nat.le_refl _) _
  have := (box_at (boxT w t) (zeroT (t.2 0))).still b2
  rw [z1] at this
  exact this
theorem rgt_kind : ∀ (L : List Pl) (r : Bool) (t : ThP), (∀ p ∈ L, p.off ≠ 0) → (rgt L r t).2.2 0 = t.2 0
  | [], _, _, _ => rfl
  | p :: q, r, t, h => by rw [rgt, rgt_kind q _ _ (fun p hp => h p (by simp [hp])), clr_kind (h p (by simp))]
theorem rlist_off (k : Int) : ∀ p ∈ rlist k, p.off ≠ 0 := by
  unfold rlist listK
  repeat' split
  all_goals decide
theorem thr_right {w : World} {b cb : Nat} {t : ThP} (h : RT w b cb true t) (hk : 1 ≤ t.2 0 ∧ t.2 0 ≤ 3) :
    Calls Try.prog 35 #[.pointer (some ⟨b, 0, none⟩), .agg #[.func (.func 41) #[] #[.pointer (some ⟨cb, 0, none⟩)], .func (.func 43) #[] #[.pointer (some ⟨cb, 0, none⟩)], .func (.func 44) #[] #[]]] w fun e w' => e = .returned (.tuple #[]) ∧ RV w w' b cb w.heap.size (t.2 0) (rgt (rlist (t.2 0)) true t).1 (rgt (rlist (t.2 0)) true t).2 := by
  have hb := h.at_.lt
  have hc : cb < w.heap.size := World.block_lt_of_cell? _ _ h.cell
  have BL : Below w.heap.size w (w.alloc (.cells #[.func (.func 41) #[] #[.pointer (some ⟨cb, 0, none⟩)], .func (.func 43) #[] #[.pointer (some ⟨cb, 0, none⟩)], .func (.func 44) #[] #[]] 77)) := (Below.refl _ w).alloc (Nat.le_refl _) _
  have V : ∀ k, t.2 0 = k → Hid (RV w (w.alloc (.cells #[.func (.func 41) #[] #[.pointer (some ⟨cb, 0, none⟩)], .func (.func 43) #[] #[.pointer (some ⟨cb, 0, none⟩)], .func (.func 44) #[] #[]] 77)) b cb w.heap.size k true t) := fun k hk => ⟨h.still BL, by simp, by simp, by simp, hk, by omega, by omega, But.of_below BL⟩
  rcases kinds hk with e | e | e
  · have := thrRight_1 (V _ e)
    rw [e]
    exact this
  · have := thrRight_2 (V _ e)
    rw [e]
    exact this
  · have := thrRight_3 (V _ e)
    rw [e]
    exact this
set_option maxRecDepth 100000 in
set_option maxHeartbeats 4000000 in
theorem rgt_any (t : ThP) (w : World) (hk : 1 ≤ t.2 0 ∧ t.2 0 ≤ 3) :
    Calls Try.prog 34 #[.agg #[.int .i64 (t.2 0), .int .i64 (t.2 1), .string (t.1 2), .string (t.1 3), .int .i64 (t.2 4), .int .i64 (t.2 5), .int .i64 (t.2 6)], .agg #[.int .i64 (t.2 0), .int .i64 0, .string ⟨#[]⟩, .string ⟨#[]⟩, .int .i64 0, .int .i64 0, .int .i64 0], .func (.func 35) #[] #[]] w fun e w' => e = .returned (.bool (rgtB t)) ∧ Below w.heap.size w w' := by
  have E := thr_right (boxes_rt w t) hk
  have HB : Hid (ThAt nm (boxes w t) (w.heap.size + 1) (zeroT (t.2 0))) := boxes_bare w t
  have HB0 : Hid (Below w.heap.size w (boxes w t)) := boxes_below w t
  have HN : Hid (¬ TwoB w.heap.size (w.heap.size + 2) (w.heap.size + 1)) := fun e => by rcases e with e | e <;> omega
  unfold rgtB
  obtain ⟨r0, u0, hg0⟩ : ∃ r0 u0, rgt (rlist (t.2 0)) true t = (r0, u0) := ⟨_, _, rfl⟩
  have hkd : u0.2 0 = t.2 0 := by
    have := rgt_kind (rlist (t.2 0)) true t (rlist_off _)
    rw [hg0] at this
    exact this
  rw [hg0] at E ⊢
  dsimp only at E ⊢
  unfold boxes at E
  clear hg0
  cases r0 with
  | false =>
    rw [Bool.false_and]
    go_enter Try.func34, Try.ntmps34
    go_wp2_with fail
    refine E.mono ?_
    rintro e w2 ⟨rfl, V2⟩
    have c0 := V2.rt.cell
    obtain ⟨d0, d1, d2, d3, d4, d5, d6⟩ := ThAt.all V2.rt.at_
    obtain ⟨g0, g1, g2, g3, g4, g5, g6⟩ := ThAt.all (HB.out.but V2.fr HN.out)
    have HB2 : Hid (Below w.heap.size w w2) := HB0.out.trans (V2.fr.below HB0.out.size (fun i e => by rcases e with rfl | rfl <;> omega))
    clear E V2
    go_wp2_with fail
    go_ret
    exact ⟨rfl, HB2.out⟩
  | true =>
    rw [Bool.true_and]
    have kd : u0.2 0 = t.2 0 := hkd
    have Q := fun w => th_eq u0 (zeroT (t.2 0)) w
    have ez : sameB u0 (zeroT (t.2 0)) = zeroB u0 := by unfold zeroB; rw [kd]
    rw [ez] at Q
    clear kd ez hkd
    generalize zeroB u0 = z at *
    go_enter Try.func34, Try.ntmps34
    go_wp2_with fail
    refine E.mono ?_
    rintro e w2 ⟨rfl, V2⟩
    have c0 := V2.rt.cell
    obtain ⟨d0, d1, d2, d3, d4, d5, d6⟩ := ThAt.all V2.rt.at_
    obtain ⟨g0, g1, g2, g3, g4, g5, g6⟩ := ThAt.all (HB.out.but V2.fr HN.out)
    have HB2 : Hid (Below w.heap.size w w2) := HB0.out.trans (V2.fr.below HB0.out.size (fun i e => by rcases e with rfl | rfl <;> omega))
    clear E V2
    go_wp2_with fail
    go_ret
    exact ⟨rfl, HB2.out⟩
set_option maxHeartbeats 4000000 in
theorem right_any (t : ThP) (w : World) :
    Calls Try.prog 27 #[.agg #[.int .i64 (t.2 0), .int .i64 (t.2 1), .string (t.1 2), .string (t.1 3), .int .i64 (t.2 4), .int .i64 (t.2 5), .int .i64 (t.2 6)]] w fun e w' => e = .returned (.bool (rightB t)) ∧ Below w.heap.size w w' := by
  have HB0 : Hid (Below w.heap.size w (boxT w t)) := box_below w t
  have K := isKind_any (t.2 0) (boxT w t)
  unfold rightB
  by_cases hk : 1 ≤ t.2 0 ∧ t.2 0 ≤ 3
  case neg =>
    rw [decide_eq_false hk, Bool.false_and]
    rw [decide_eq_false hk] at K
    clear hk
    go_enter Try.func27, Try.ntmps27
    go_wp2_with fail
    refine K.mono ?_
    rintro e w1 ⟨rfl, rfl⟩
    go_wp2_with fail
    go_ret
    exact ⟨rfl, HB0.out⟩
  case pos =>
    rw [decide_eq_true hk, Bool.true_and]
    rw [decide_eq_true hk] at K
    have E := rgt_any t (boxT w t) hk
    generalize rgtB t = z at *
    clear hk
    go_enter Try.func27, Try.ntmps27
    go_wp2_with fail
    refine K.mono ?_
    rintro e w1 ⟨rfl, rfl⟩
    clear K
    go_wp2_with fail
    refine E.mono ?_
    rintro e w2 ⟨rfl, b2⟩
    have HB2 : Hid (Below w.heap.size w w2) := HB0.out.trans (b2.mono HB0.out.size)
    clear E b2
    go_wp2_with fail
    go_ret
    exact ⟨rfl, HB2.out⟩
end Go.Proofs.Ytlgnbnojjfgfmaa.PP.O
