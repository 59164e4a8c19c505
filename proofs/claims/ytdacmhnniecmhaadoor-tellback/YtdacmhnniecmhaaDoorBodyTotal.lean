/-
  Contracts of Name, Int and Ints in all cases: what is told, and what becomes of the form, by plain functions.
-/
import Derived.Test.YtdacmhnniecmhaaDoorBodyTake2
import Derived.Test.YtdacmhnniecmhaaDoorBodyName
namespace Go.Proofs.YtdacmhnniecmhaaDoor
open Go.ChangeShapes Go.WideShapes Go.ChangeAt Go.RowKit Go.Lib

/-- Whether all numbers are from low to high: an error's number. -/
def rangeE (low high : Int) (l : List Nat) : Int := if ∀ n ∈ l, low ≤ (n : Int) ∧ (n : Int) ≤ high then 0 else 2
theorem rangeE_bad {low high : Int} {l : List Nat} {n : Nat} (hn : n ∈ l) (h : ¬ (low ≤ (n : Int) ∧ (n : Int) ≤ high)) : rangeE low high l = 2 := if_neg (fun hh => h (hh n hn))
theorem rangeE_ok {low high : Int} {l : List Nat} (h : ∀ n ∈ l, low ≤ (n : Int) ∧ (n : Int) ≤ high) : rangeE low high l = 0 := if_pos h
set_option maxHeartbeats 2000000 in
theorem within_any (low high : Int) (v : Value) (l : List Nat) (w : World) (h : Row w v l.length fun i => .int .i64 ((l.getD i 0 : Nat) : Int)) :
    Calls Tryd.prog 70 #[.int .i64 low, .int .i64 high, v] w fun e w' => e = .returned (.int .i64 (rangeE low high l)) ∧ w' = w := by
  obtain ⟨a, cap, rfl, r1, r2, r3⟩ := id h
  unfold maxLen at r2
  obtain ⟨E, hE⟩ : ∃ E, rangeE low high l = E := ⟨_, rfl⟩
  rw [hE]
  have HE : Hid (rangeE low high l = E) := hE
  clear h hE
  go_enter Tryd.func70, Tryd.ntmps70
  go_wp2_with fail
  go_loopw [11] (fun i wr => ∃ k : Nat, i = .int .i64 (k : Int) ∧ k ≤ l.length ∧ wr = w ∧ ∀ j, (hj : j < l.length) → j < k → low ≤ (l[j] : Int) ∧ (l[j] : Int) ≤ high) (fun i _ => l.length - (RowKit.intOf i).toNat)
  case atStart => exact ⟨0, rfl, Nat.zero_le _, rfl, fun j _ h => by omega⟩
  case round =>
    obtain ⟨k, rfl, hk, rfl, hall⟩ := hrel
    by_cases hp : k < l.length
    · have t0 : (k : Int) < (l.length : Int) := by omega
      obtain ⟨b, off, rfl, cc0⟩ := r3 k hp
      have ek : l.getD k 0 = l[k] := by simp [hp]
      have cc : wr.cell? ⟨b, off + k, none⟩ = some (.int .i64 (l[k] : Int)) := by rw [← ek]; exact cc0
      clear r3 cc0 ek
      obtain ⟨x, hx⟩ : ∃ x, l[k] = x := ⟨_, rfl⟩
      rw [hx] at cc
      have HX : Hid (l[k] = x) := hx
      have HA : Hid (∀ j, (hj : j < l.length) → j < k → low ≤ (l[j] : Int) ∧ (l[j] : Int) ≤ high) := hall
      clear hx hall
      by_cases c1 : (x : Int) < low
      · have HO : Hid (E = 2) := by
          have := rangeE_bad (low := low) (high := high) (List.getElem_mem hp) (by rw [HX.out]; omega)
          rw [HE.out] at this
          exact this
        go_wp2_with fail
        go_ret
        exact ⟨by rw [HO.out]; rfl, rfl⟩
      by_cases c2 : high < (x : Int)
      · have HO : Hid (E = 2) := by
          have := rangeE_bad (low := low) (high := high) (List.getElem_mem hp) (by rw [HX.out]; omega)
          rw [HE.out] at this
          exact this
        go_wp2_with fail
        go_ret
        exact ⟨by rw [HO.out]; rfl, rfl⟩
      go_wp2_with fail
      go_roundw
      case rel =>
        refine ⟨k + 1, by simp, by omega, by first | trivial | rfl, fun j hj hjk => ?_⟩
        by_cases e : j = k
        · subst e
          rw [HX.out]
          omega
        · exact HA.out j hj (by omega)
      case measure => simp [RowKit.intOf]; omega
    · obtain rfl : k = l.length := by omega
      have t0 : ¬ (l.length : Int) < (l.length : Int) := by omega
      have HO : Hid (E = 0) := by
        have := rangeE_ok (low := low) (high := high) (l := l) (fun n hn => by
          obtain ⟨j, hj, rfl⟩ := List.getElem_of_mem hn
          exact hall j hj hj)
        rw [HE.out] at this
        exact this
      clear hall
      go_wp2_with fail
      go_ret
      exact ⟨by rw [HO.out]; rfl, rfl⟩
/-- What a text is as a number from low to high: it, an error's number. -/
def intVE (s : ByteArray) (low high : Int) : Nat × Int := if (numE s.data.toList).2 = 0 then (if low ≤ ((numE s.data.toList).1 : Int) ∧ ((numE s.data.toList).1 : Int) ≤ high then ((numE s.data.toList).1, 0) else (0, 2)) else (0, 112)
/-- What becomes of a form that is asked for a field whose text has that error. -/
def askS (L : Int → Option (ByteArray × Bool)) (at_ e t : Int) (err : ByteArray → Int) : (Int → Option (ByteArray × Bool)) × Int × Int := if e = 0 then (match L t with
  | none => (L, t, 110)
  | some (s, _) => if err s = 0 then (updI L t (s, true), at_, 0) else (L, t, err s)) else (L, at_, e)
/-- What is told. -/
def askV {α : Type} (L : Int → Option (ByteArray × Bool)) (e t : Int) (err : ByteArray → Int) (val : ByteArray → α) (zero : α) : α := if e = 0 then (match L t with
  | none => zero
  | some (s, _) => if err s = 0 then val s else zero) else zero
set_option maxHeartbeats 2000000 in
theorem intRead_any (s : ByteArray) (hs : s.size ≤ maxLen) (low high : Int) (b1 b2 : Nat) (w : World) (c1 : w.cell? ⟨b1, 0, none⟩ = some (.int .i64 low)) (c2 : w.cell? ⟨b2, 0, none⟩ = some (.int .i64 high)) :
    Calls Tryd.prog 68 #[.string s, .pointer (some ⟨b1, 0, none⟩), .pointer (some ⟨b2, 0, none⟩)] w fun e w2 => ∃ x : Int, e = .returned (.tuple #[.int .i64 x, .int .i64 (intVE s low high).2]) ∧ ((intVE s low high).2 = 0 → x = ((intVE s low high).1 : Int)) ∧ Below w.heap.size w w2 := by
  have F := fun w => number_any s w hs
  by_cases h0 : (numE s.data.toList).2 = 0
  · obtain ⟨N, hN⟩ : ∃ N, numE s.data.toList = (N, 0) := ⟨_, Prod.ext rfl h0⟩
    have hrow : Row (w.alloc (.cells #[.int .i64 (N : Int)] 3)) (.slice (some ⟨w.heap.size, 0, none⟩) 1 1) [N].length fun i => .int .i64 (([N].getD i 0 : Nat) : Int) := by
      refine ⟨_, 1, rfl, Nat.le_refl _, by unfold maxLen; omega, fun i hi => ⟨w.heap.size, 0, rfl, ?_⟩⟩
      obtain rfl : i = 0 := by simp at hi; omega
      simp
    have G := within_any low high _ [N] _ hrow
    have e1 : (intVE s low high).2 = rangeE low high [N] ∧ ((intVE s low high).2 = 0 → N = (intVE s low high).1) := by
      unfold intVE rangeE
      rw [hN]
      by_cases hr : low ≤ (N : Int) ∧ (N : Int) ≤ high
      · simp [hr]
      · simp [hr]
    rw [hN] at F
    dsimp only at F
    obtain ⟨E, hE⟩ : ∃ E, (intVE s low high).2 = E := ⟨_, rfl⟩
    rw [hE] at e1 ⊢
    rw [← e1.1] at G
    have HV : Hid (E = 0 → N = (intVE s low high).1) := e1.2
    clear hrow hN e1 h0 hE
    generalize (intVE s low high).1 = V at *
    go_enter Tryd.func68, Tryd.ntmps68
    go_wp2_with fail
    refine (F _).mono ?_
    rintro e w1 ⟨rfl, rfl⟩
    go_wp2_with fail
    refine G.mono ?_
    rintro e w1 ⟨rfl, rfl⟩
    go_wp2_with fail
    go_ret2
    exact ⟨_, rfl, fun h => by rw [HV.out h], (Below.refl _ _).alloc (Nat.le_refl _) _⟩
  · have hN : numE s.data.toList = (0, 112) := by
      rcases numE_err s.data.toList with h | h
      · exact absurd h h0
      · exact h
    have e1 : intVE s low high = (0, 112) := by unfold intVE; rw [if_neg h0]
    rw [e1]
    refine (intRead_bad s hs hN b1 b2 w).mono ?_
    rintro e w2 ⟨rfl, hb⟩
    exact ⟨0, rfl, fun _ => rfl, hb⟩
set_option maxHeartbeats 2000000 in
theorem int_wrap {Post : Int → World → Prop} {w : World} {fb : Nat} (t low high : Int)
    (T : Calls Tryd.prog 67 #[.pointer (some ⟨fb, 0, none⟩), .int .i64 t, .func (.func 68) #[] #[.pointer (some ⟨w.heap.size, 0, none⟩), .pointer (some ⟨w.heap.size + 1, 0, none⟩)]] (boxes w low high) fun e w' => ∃ x, e = .returned (.int .i64 x) ∧ Post x w') :
    Calls Tryd.prog 54 #[.pointer (some ⟨fb, 0, none⟩), .int .i64 t, .int .i64 low, .int .i64 high] w fun e w' => ∃ x, e = .returned (.int .i64 x) ∧ Post x w' := by
  go_enter Tryd.func54, Tryd.ntmps54
  go_wp2_with fail
  refine T.mono ?_
  rintro e w1 ⟨x, rfl, hP⟩
  have HP : Hid (Post x w1) := hP
  clear hP
  go_wp2_with fail
  go_ret
  exact ⟨_, rfl, HP.out⟩
theorem askS_err {L : Int → Option (ByteArray × Bool)} {at_ e t : Int} (err : ByteArray → Int) (he : e ≠ 0) : askS L at_ e t err = (L, at_, e) := if_neg he
theorem askS_miss {L : Int → Option (ByteArray × Bool)} {at_ t : Int} (err : ByteArray → Int) (h : L t = none) : askS L at_ 0 t err = (L, t, 110) := by unfold askS; rw [if_pos rfl, h]
theorem askS_good {L : Int → Option (ByteArray × Bool)} {at_ t : Int} {err : ByteArray → Int} {s : ByteArray} {b : Bool} (h : L t = some (s, b)) (hs : err s = 0) : askS L at_ 0 t err = (updI L t (s, true), at_, 0) := by unfold askS; rw [if_pos rfl, h]; simp only; rw [if_pos hs]
theorem askS_bad {L : Int → Option (ByteArray × Bool)} {at_ t : Int} {err : ByteArray → Int} {s : ByteArray} {b : Bool} (h : L t = some (s, b)) (hs : err s ≠ 0) : askS L at_ 0 t err = (L, t, err s) := by unfold askS; rw [if_pos rfl, h]; simp only; rw [if_neg hs]
theorem askV_err {α : Type} {L : Int → Option (ByteArray × Bool)} {e t : Int} (err : ByteArray → Int) (val : ByteArray → α) (zero : α) (he : e ≠ 0) : askV L e t err val zero = zero := if_neg he
theorem askV_miss {α : Type} {L : Int → Option (ByteArray × Bool)} {t : Int} (err : ByteArray → Int) (val : ByteArray → α) (zero : α) (h : L t = none) : askV L 0 t err val zero = zero := by unfold askV; rw [if_pos rfl, h]
theorem askV_good {α : Type} {L : Int → Option (ByteArray × Bool)} {t : Int} {err : ByteArray → Int} {val : ByteArray → α} {zero : α} {s : ByteArray} {b : Bool} (h : L t = some (s, b)) (hs : err s = 0) : askV L 0 t err val zero = val s := by unfold askV; rw [if_pos rfl, h]; simp only; rw [if_pos hs]
theorem askV_bad {α : Type} {L : Int → Option (ByteArray × Bool)} {t : Int} {err : ByteArray → Int} {val : ByteArray → α} {zero : α} {s : ByteArray} {b : Bool} (h : L t = some (s, b)) (hs : err s ≠ 0) : askV L 0 t err val zero = zero := by unfold askV; rw [if_pos rfl, h]; simp only; rw [if_neg hs]
theorem But.none (S : Nat → Prop) {a b : World} (h : Below a.heap.size a b) : But S a b := But.of_below h
/-- Int, in all cases. -/
theorem int_any {n0 : Nat} {w : World} {fb bm n : Nat} {tv : Value} {tags : List Int} {L : Int → Option (ByteArray × Bool)} {at_ e0 : Int} (h : Frm n0 w fb bm n tv tags L at_ e0) (hn : n ≤ 1000000) (t : Int) (h1 : -9223372036854775808 ≤ t) (h2 : t ≤ 9223372036854775807) (hs : ∀ s b, L t = some (s, b) → s.size ≤ 1000000) (low high : Int) :
    Calls Tryd.prog 54 #[.pointer (some ⟨fb, 0, none⟩), .int .i64 t, .int .i64 low, .int .i64 high] w fun e w' => ∃ x, e = .returned (.int .i64 x) ∧ x = askV L e0 t (fun s => (intVE s low high).2) (fun s => ((intVE s low high).1 : Int)) 0 ∧
      Frm n0 w' fb bm (n + 1) tv tags (askS L at_ e0 t (fun s => (intVE s low high).2)).1 (askS L at_ e0 t (fun s => (intVE s low high).2)).2.1 (askS L at_ e0 t (fun s => (intVE s low high).2)).2.2 ∧ But (Two fb bm) w w' := by
  have BB := boxes_below w low high
  have z0 := boxes_0 w low high
  have z1 := boxes_1 w low high
  have zs := boxes_size w low high
  have hb := h.still BB
  refine int_wrap t low high ?_
  by_cases he : e0 = 0
  · subst he
    cases hL : L t with
    | none =>
      refine (takeI_miss hb t h1 h2 hL _).mono ?_
      rintro e w' ⟨rfl, F, B⟩
      exact ⟨0, rfl, by rw [askV_miss _ _ _ hL], by rw [askS_miss _ hL]; exact F.wide (by omega), But.after BB B⟩
    | some p =>
      obtain ⟨s, b⟩ := p
      have hsz := hs s b hL
      have R0 : ∀ w1, Below (boxes w low high).heap.size (boxes w low high) w1 → _ := fun w1 (hb : Below (boxes w low high).heap.size (boxes w low high) w1) => intRead_any s (by unfold maxLen; omega) low high w.heap.size (w.heap.size + 1) w1 ((hb.cell (p := ⟨w.heap.size, 0, none⟩) (by rw [zs]; simp)).trans z0) ((hb.cell (p := ⟨w.heap.size + 1, 0, none⟩) (by rw [zs]; simp)).trans z1)
      by_cases hv : (intVE s low high).2 = 0
      · refine (takeI_good hb hn t h1 h2 s b hL w.heap.size (w.heap.size + 1) ((intVE s low high).1 : Int) (fun w1 k => (R0 w1 k).mono ?_)).mono ?_
        · rintro e w2 ⟨x, rfl, hx, hB⟩
          exact ⟨by rw [hx hv, hv], hB⟩
        · rintro e w' ⟨rfl, F, B⟩
          exact ⟨_, rfl, by rw [askV_good hL hv], by rw [askS_good (err := fun s => (intVE s low high).2) hL hv]; exact F, But.after BB B⟩
      · refine (takeI_bad' hb t h1 h2 s b hL w.heap.size (w.heap.size + 1) (intVE s low high).2 hv (fun w1 k => (R0 w1 k).mono ?_)).mono ?_
        · rintro e w2 ⟨x, rfl, hx, hB⟩
          exact ⟨x, rfl, hB⟩
        · rintro e w' ⟨rfl, F, B⟩
          exact ⟨_, rfl, by rw [askV_bad hL hv], by rw [askS_bad (err := fun s => (intVE s low high).2) hL hv]; exact F.wide (by omega), But.after BB B⟩
  · refine (takeI_err hb he t _).mono ?_
    rintro e w' ⟨rfl, rfl⟩
    exact ⟨0, rfl, by rw [askV_err _ _ _ he], by rw [askS_err _ he]; exact hb.wide (by omega), But.of_below BB⟩
/-- Whether a text is a name: an error's number. -/
def nameVE (s : ByteArray) : Int := if vldB s = true then 0 else 43
/-- Name, in all cases. -/
theorem name_wrap {Post : ByteArray → World → Prop} {w : World} {fb : Nat} (t : Int)
    (T : Calls Tryd.prog 65 #[.pointer (some ⟨fb, 0, none⟩), .int .i64 t, .func (.func 66) #[] #[]] w fun e w' => ∃ x, e = .returned (.string x) ∧ Post x w') :
    Calls Tryd.prog 52 #[.pointer (some ⟨fb, 0, none⟩), .int .i64 t] w fun e w' => ∃ x, e = .returned (.string x) ∧ Post x w' := by
  go_enter Tryd.func52, Tryd.ntmps52
  go_wp2_with fail
  refine T.mono ?_
  rintro e w1 ⟨x, rfl, hP⟩
  have HP : Hid (Post x w1) := hP
  clear hP
  go_wp2_with fail
  go_ret
  exact ⟨_, rfl, HP.out⟩
theorem name_any {n0 : Nat} {w : World} {fb bm n : Nat} {tv : Value} {tags : List Int} {L : Int → Option (ByteArray × Bool)} {at_ e0 : Int} (h : Frm n0 w fb bm n tv tags L at_ e0) (hn : n ≤ 1000000) (t : Int) (h1 : -9223372036854775808 ≤ t) (h2 : t ≤ 9223372036854775807) :
    Calls Tryd.prog 52 #[.pointer (some ⟨fb, 0, none⟩), .int .i64 t] w fun e w' => ∃ x, e = .returned (.string x) ∧ x = askV L e0 t nameVE id ⟨#[]⟩ ∧
      Frm n0 w' fb bm (n + 1) tv tags (askS L at_ e0 t nameVE).1 (askS L at_ e0 t nameVE).2.1 (askS L at_ e0 t nameVE).2.2 ∧ But (Two fb bm) w w' := by
  refine name_wrap t ?_
  by_cases he : e0 = 0
  · subst he
    cases hL : L t with
    | none =>
      refine (takeS_miss h t h1 h2 hL _).mono ?_
      rintro e w' ⟨rfl, F, B⟩
      exact ⟨_, rfl, by rw [askV_miss _ _ _ hL], by rw [askS_miss _ hL]; exact F.wide (by omega), B⟩
    | some p =>
      obtain ⟨s, b⟩ := p
      by_cases hv : vldB s = true
      · have hv0 : nameVE s = 0 := if_pos hv
        refine (takeS_good h hn t h1 h2 s b hL s (fun w1 _ => nameRead_good s hv w1)).mono ?_
        rintro e w' ⟨rfl, F, B⟩
        exact ⟨_, rfl, by rw [askV_good hL hv0]; rfl, by rw [askS_good hL hv0]; exact F, B⟩
      · have hv0 : nameVE s = 43 := if_neg hv
        refine (takeS_bad h t h1 h2 s b hL ⟨#[]⟩ 43 (by omega) (fun w1 _ => nameRead_bad s (by simpa using hv) w1)).mono ?_
        rintro e w' ⟨rfl, F, B⟩
        exact ⟨_, rfl, by rw [askV_bad hL (by rw [hv0]; omega)], by rw [askS_bad hL (by rw [hv0]; omega), hv0]; exact F.wide (by omega), B⟩
  · refine (takeS_err h he t _).mono ?_
    rintro e w' ⟨rfl, rfl⟩
    exact ⟨_, rfl, by rw [askV_err _ _ _ he], by rw [askS_err _ he]; exact h.wide (by omega), But.refl _ _⟩
end Go.Proofs.YtdacmhnniecmhaaDoor
