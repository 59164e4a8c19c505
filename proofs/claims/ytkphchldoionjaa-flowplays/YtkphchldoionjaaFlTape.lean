/-
  A tape in memory; contracts of package flow's made, has, New, Print and Total, of a tape and of what is none.
-/
import Derived.Test.YtkphchldoionjaaFlStep
namespace Go.Proofs.Ytkphchldoionjaa.FL
open Go.ChangeShapes Go.WideShapes Go.ChangeAt Go.RowKit Go.Lib

/-- Block g holds n numbers, and may be written. -/
structure IntG (w : World) (g n : Nat) (f : Nat → Int) : Prop where
  cell : ∀ j, j < n → w.cell? ⟨g, j, none⟩ = some (.int .i64 (f j))
  thaw : ∀ j, w.frozen? ⟨g, j, none⟩ = false
  lt : g < w.heap.size
theorem IntG.kept {w w' : World} {g n : Nat} {f : Nat → Int} {S : Nat → Prop} (h : IntG w g n f) (k : But S w w') (hS : ¬ S g) : IntG w' g n f :=
  ⟨fun j hj => (k.cell h.lt hS).trans (h.cell j hj), fun j => (k.frozen h.lt hS).trans (h.thaw j), Nat.lt_of_lt_of_le h.lt k.size⟩
theorem IntG.below {w w' : World} {g n : Nat} {f : Nat → Int} (h : IntG w g n f) (k : Below w.heap.size w w') : IntG w' g n f := h.kept (S := fun _ => False) (But.of_below k) id
theorem IntG.set {w : World} {g n : Nat} {f : Nat → Int} (h : IntG w g n f) (i : Nat) (x : Int) : IntG (w.setCell ⟨g, i, none⟩ (.int .i64 x)) g n (upd f i x) := by
  refine ⟨fun k hk => ?_, fun k => by rw [World.frozen?_setCell]; exact h.thaw k, by simp; exact h.lt⟩
  by_cases e : k = i
  · subst e
    rw [World.cell?_setCell_same' _ _ _ (by rw [h.cell k hk]; rfl), upd_same]
  · rw [World.cell?_setCell_other _ _ _ _ (fun q => e (by injection q with _ q; exact q.symm)), upd_other _ _ e]
    exact h.cell k hk
theorem info_int' : (Try.prog.info? 3).map (fun i => (i.zero, i.size, i.bytes)) = some (some (.int .i64 0), 1, 8) := by kernel_rfl
theorem run_make_ints (n : Nat) (hn : n ≤ 1000) (w : World) : (Instr.makeSlice 28 (.int .i64 (n : Int)) (.int .i64 (n : Int))).run Try.prog w = .ok (.slice (some ⟨w.heap.size, 0, none⟩) n n) (w.alloc (.cells (madeCells #[.int .i64 0] n) 3)) := by
  obtain ⟨i0, hi0, hz0, hzs, hzb⟩ := info_parts info_int'
  have := run_make (P := Try.prog) w 28 3 i0 _ Try.underlying28 hi0 hz0 .i64 .i64 (n : Int) (n : Int) (by omega) (by omega) (by rw [hzb]; omega) (by omega)
  rw [hzs, Int.toNat_natCast, Nat.mul_one] at this
  exact this
theorem IntG.new (w : World) (n : Nat) : IntG (w.alloc (.cells (madeCells #[.int .i64 0] n) 3)) w.heap.size n (fun _ => 0) :=
  ⟨fun j hj => by simp [madeCells, hj, Nat.mod_one], fun j => by simp, by simp⟩

/-- The world holds at block p a tape of n symbols with its totals in block g, both from block B on. -/
structure TapeAt (w : World) (B p g n : Nat) (T : Nat → Int) : Prop where
  c0 : w.cell? ⟨p, 0, none⟩ = some (.slice (some ⟨g, 0, none⟩) n n)
  box : IntG w g n T
  n1 : 1 ≤ n
  n16 : n ≤ 16
  gp : g ≠ p
  lp : B ≤ p
  lg : B ≤ g
  good : Good n T
theorem TapeAt.pt {w : World} {B p g n : Nat} {T : Nat → Int} (K : TapeAt w B p g n T) : p < w.heap.size := World.block_lt_of_cell? _ _ K.c0
theorem TapeAt.kept {w w' : World} {B p g n : Nat} {T : Nat → Int} {S : Nat → Prop} (K : TapeAt w B p g n T) (k : But S w w') (hp : ¬ S p) (hg : ¬ S g) : TapeAt w' B p g n T :=
  ⟨(k.cell K.pt hp).trans K.c0, K.box.kept k hg, K.n1, K.n16, K.gp, K.lp, K.lg, K.good⟩
theorem TapeAt.below {w w' : World} {B p g n : Nat} {T : Nat → Int} (K : TapeAt w B p g n T) (k : Below w.heap.size w w') : TapeAt w' B p g n T := K.kept (S := fun _ => False) (But.of_below k) id id
/-- A tape that is none. -/
def NoTape (w : World) (r : Value) : Prop := r = .pointer none ∨ ∃ q, r = .pointer (some ⟨q, 0, none⟩) ∧ w.cell? ⟨q, 0, none⟩ = some (.slice none 0 0)

theorem made_yes {w : World} {B p g n : Nat} {T : Nat → Int} (K : TapeAt w B p g n T) : Calls Try.prog 16 #[.pointer (some ⟨p, 0, none⟩)] w fun e w' => e = .returned (.bool true) ∧ w = w' := by
  have h0 := K.c0
  have t : (0 : Int) < (n : Int) := by have := K.n1; omega
  clear K
  go_enter Try.func16, Try.ntmps16
  go_wp2
  go_ret
  exact ⟨by simp; omega, rfl⟩
theorem made_no {w : World} {r : Value} (h : NoTape w r) : Calls Try.prog 16 #[r] w fun e w' => e = .returned (.bool false) ∧ w = w' := by
  rcases h with rfl | ⟨q, rfl, h⟩
  · go_enter Try.func16, Try.ntmps16
    go_wp2
    go_ret
    exact ⟨rfl, rfl⟩
  · go_enter Try.func16, Try.ntmps16
    go_wp2
    go_ret
    exact ⟨by simp, rfl⟩
theorem has_yes {w : World} {B p g n : Nat} {T : Nat → Int} (K : TapeAt w B p g n T) (s : Int) : Calls Try.prog 17 #[.pointer (some ⟨p, 0, none⟩), .int .i64 s] w fun e w' => e = .returned (.bool (inB s 0 ((n : Int) - 1))) ∧ w = w' := by
  have F := made_yes K
  have F2 := fun w => within_any s 0 ((n : Int) - 1) (by have := K.n1; omega) w
  have hw : wrap64 ((n : Int) - 1) = (n : Int) - 1 := wrap_in _ (by omega) (by have := K.n16; omega)
  have h0 := K.c0
  generalize inB s 0 ((n : Int) - 1) = b at *
  clear K
  go_enter Try.func17, Try.ntmps17
  go_wp2_with fail
  refine F.mono ?_
  rintro e w1 ⟨rfl, rfl⟩
  go_wp2_with fail
  refine (F2 _).mono ?_
  rintro e w2 ⟨rfl, rfl⟩
  go_wp2_with fail
  go_ret
  exact ⟨rfl, rfl⟩
theorem has_no {w : World} {r : Value} (h : NoTape w r) (s : Int) : Calls Try.prog 17 #[r, .int .i64 s] w fun e w' => e = .returned (.bool false) ∧ w = w' := by
  have F := made_no h
  obtain ⟨a, rfl⟩ : ∃ a, r = .pointer a := by rcases h with rfl | ⟨q, rfl, _⟩ <;> exact ⟨_, rfl⟩
  clear h
  go_enter Try.func17, Try.ntmps17
  go_wp2_with fail
  refine F.mono ?_
  rintro e w1 ⟨rfl, rfl⟩
  go_wp2_with fail
  go_ret
  exact ⟨rfl, rfl⟩
theorem total_yes {w : World} {B p g n : Nat} {T : Nat → Int} (K : TapeAt w B p g n T) (s : Int) : Calls Try.prog 11 #[.pointer (some ⟨p, 0, none⟩), .int .i64 s] w fun e w' => e = .returned (.int .i64 (toT n T s)) ∧ w = w' := by
  have F := has_yes K s
  have h0 := K.c0
  unfold toT
  cases hb : inB s 0 ((n : Int) - 1)
  · rw [hb] at F
    simp only [Bool.false_eq_true, if_false]
    clear K hb
    go_enter Try.func11, Try.ntmps11
    go_wp2_with fail
    refine F.mono ?_
    rintro e w1 ⟨rfl, rfl⟩
    go_wp2_with fail
    go_ret
    exact ⟨rfl, rfl⟩
  · rw [hb] at F
    have b := inB_iff.1 hb
    obtain ⟨i, rfl⟩ : ∃ i : Nat, s = (i : Int) := ⟨s.toNat, by omega⟩
    have hi : i < n := by omega
    have d := K.box.cell i hi
    simp only [if_true, Int.toNat_natCast]
    clear K hb b
    go_enter Try.func11, Try.ntmps11
    go_wp2_with fail
    refine F.mono ?_
    rintro e w1 ⟨rfl, rfl⟩
    go_wp2_with fail
    go_ret
    exact ⟨rfl, rfl⟩
theorem total_no {w : World} {r : Value} (h : NoTape w r) (s : Int) : Calls Try.prog 11 #[r, .int .i64 s] w fun e w' => e = .returned (.int .i64 0) ∧ w = w' := by
  have F := has_no h s
  obtain ⟨a, rfl⟩ : ∃ a, r = .pointer a := by rcases h with rfl | ⟨q, rfl, _⟩ <;> exact ⟨_, rfl⟩
  clear h
  go_enter Try.func11, Try.ntmps11
  go_wp2_with fail
  refine F.mono ?_
  rintro e w1 ⟨rfl, rfl⟩
  go_wp2_with fail
  go_ret
  exact ⟨rfl, rfl⟩
set_option maxHeartbeats 1000000 in
/-- Print of a tape. -/
theorem print_yes {w : World} {B p g n : Nat} {T : Nat → Int} (K : TapeAt w B p g n T) (s q : Int) : Calls Try.prog 9 #[.pointer (some ⟨p, 0, none⟩), .int .i64 s, .int .i64 q] w fun e w' => e = .returned (.int .i64 (prE n T s q)) ∧ TapeAt w' B p g n (prT n T s q) ∧ But (fun k => k = g) w w' := by
  have F0 := made_yes K
  have F1 := has_yes K s
  have F2 := fun w => within_any q 1 1099511627776 (by omega) w
  have hG := K.good.next s q
  by_cases hbad : (inB s 0 ((n : Int) - 1) && inB q 1 1099511627776) = false
  · have eE : prE n T s q = 2 := by unfold prE; rw [hbad]; rfl
    have eT : prT n T s q = T := by unfold prT; rw [eE]; rfl
    rw [eE, eT]
    have R : TapeAt w B p g n T ∧ But (fun k => k = g) w w := ⟨K, But.refl _ _⟩
    have R' : Hid (TapeAt w B p g n T ∧ But (fun k => k = g) w w) := R
    clear R eE eT hG K
    cases h1 : inB s 0 ((n : Int) - 1)
    · rw [h1] at F1
      clear hbad h1 F2
      go_enter Try.func9, Try.ntmps9
      go_wp2_with fail
      refine F0.mono ?_
      rintro e w1 ⟨rfl, rfl⟩
      go_wp2_with fail
      refine F1.mono ?_
      rintro e w1 ⟨rfl, rfl⟩
      go_wp2_with fail
      go_ret
      exact ⟨rfl, R'.out⟩
    · rw [h1] at F1 hbad
      rw [Bool.true_and] at hbad
      rw [hbad] at F2
      clear hbad h1
      go_enter Try.func9, Try.ntmps9
      go_wp2_with fail
      refine F0.mono ?_
      rintro e w1 ⟨rfl, rfl⟩
      go_wp2_with fail
      refine F1.mono ?_
      rintro e w1 ⟨rfl, rfl⟩
      go_wp2_with fail
      refine (F2 _).mono ?_
      rintro e w1 ⟨rfl, rfl⟩
      go_wp2_with fail
      go_ret
      exact ⟨rfl, R'.out⟩
  · have hok : (inB s 0 ((n : Int) - 1) && inB q 1 1099511627776) = true := by simpa using hbad
    clear hbad
    have hok' := hok
    simp only [Bool.and_eq_true] at hok'
    rw [hok'.1] at F1
    rw [hok'.2] at F2
    have b1 := inB_iff.1 hok'.1
    have b2 := inB_iff.1 hok'.2
    obtain ⟨i, rfl⟩ : ∃ i : Nat, s = (i : Int) := ⟨s.toNat, by omega⟩
    have hi : i < n := by omega
    have d := K.box.cell i hi
    have h0 := K.c0
    have gd := K.good i hi
    have hw : wrap64 (T i + q) = T i + q := wrap_in _ (by omega) (by omega)
    by_cases ho : 4611686018427387904 < T i + q
    · have eE : prE n T i q = 10 := by unfold prE; rw [hok, if_pos rfl, Int.toNat_natCast, if_pos ho]
      have eT : prT n T i q = T := by unfold prT; rw [eE]; rfl
      rw [eE, eT]
      have R' : Hid (TapeAt w B p g n T ∧ But (fun k => k = g) w w) := ⟨K, But.refl _ _⟩
      clear eE eT hG K hok hok' b1 b2 gd
      go_enter Try.func9, Try.ntmps9
      go_wp2_with fail
      refine F0.mono ?_
      rintro e w1 ⟨rfl, rfl⟩
      go_wp2_with fail
      refine F1.mono ?_
      rintro e w1 ⟨rfl, rfl⟩
      go_wp2_with fail
      refine (F2 _).mono ?_
      rintro e w1 ⟨rfl, rfl⟩
      go_wp2_with fail
      go_ret
      exact ⟨rfl, R'.out⟩
    · have eE : prE n T i q = 0 := by unfold prE; rw [hok, if_pos rfl, Int.toNat_natCast, if_neg ho]
      have eT : prT n T i q = upd T i (T i + q) := by unfold prT; rw [eE, if_pos rfl, Int.toNat_natCast]
      rw [eT] at hG
      rw [eE, eT]
      have R' : Hid (∀ v, v = T i + q → TapeAt (w.setCell ⟨g, i, none⟩ (.int .i64 v)) B p g n (upd T i (T i + q)) ∧ But (fun k => k = g) w (w.setCell ⟨g, i, none⟩ (.int .i64 v))) := by
        rintro v rfl
        have k : But (fun k => k = g) w (w.setCell ⟨g, i, none⟩ (.int .i64 (T i + q))) := (But.refl _ _).setCell _ _ _ (fun _ => rfl)
        exact ⟨⟨(k.cell K.pt (Ne.symm K.gp)).trans K.c0, K.box.set i _, K.n1, K.n16, K.gp, K.lp, K.lg, hG⟩, k⟩
      have fz := K.box.thaw i
      clear eE eT hG K hok hok' b1 b2 gd
      go_enter Try.func9, Try.ntmps9
      go_wp2_with fail
      refine F0.mono ?_
      rintro e w1 ⟨rfl, rfl⟩
      go_wp2_with fail
      refine F1.mono ?_
      rintro e w1 ⟨rfl, rfl⟩
      go_wp2_with fail
      refine (F2 _).mono ?_
      rintro e w1 ⟨rfl, rfl⟩
      go_wp2_with fail
      go_ret
      exact ⟨rfl, R'.out _ rfl⟩
theorem print_no {w : World} {r : Value} (h : NoTape w r) (s q : Int) : Calls Try.prog 9 #[r, .int .i64 s, .int .i64 q] w fun e w' => e = .returned (.int .i64 1) ∧ w = w' := by
  have F := made_no h
  obtain ⟨a, rfl⟩ : ∃ a, r = .pointer a := by rcases h with rfl | ⟨q, rfl, _⟩ <;> exact ⟨_, rfl⟩
  clear h
  go_enter Try.func9, Try.ntmps9
  go_wp2_with fail
  refine F.mono ?_
  rintro e w1 ⟨rfl, rfl⟩
  go_wp2_with fail
  go_ret
  exact ⟨rfl, rfl⟩
theorem new_out (n : Int) (w : World) (h : n < 1 ∨ 16 < n) : Calls Try.prog 8 #[.int .i64 n] w fun e w' => e = .returned (.tuple #[.pointer none, .int .i64 2]) ∧ w = w' := by
  have F := fun w => within_any n 1 16 (by omega) w
  rw [inB_no h] at F
  clear h
  go_enter Try.func8, Try.ntmps8
  go_wp2_with fail
  refine (F _).mono ?_
  rintro e w1 ⟨rfl, rfl⟩
  go_wp2_with fail
  go_ret2
  exact ⟨rfl, rfl⟩
theorem new_in (n : Nat) (w : World) (h1 : 1 ≤ n) (h2 : n ≤ 16) (B : Nat) (hB : B ≤ w.heap.size) : Calls Try.prog 8 #[.int .i64 (n : Int)] w fun e w' => e = .returned (.tuple #[.pointer (some ⟨w.heap.size + 1, 0, none⟩), .int .i64 0]) ∧ TapeAt w' B (w.heap.size + 1) w.heap.size n (fun _ => 0) ∧ Below w.heap.size w w' ∧ w'.heap.size = w.heap.size + 2 := by
  have F := fun w => within_any n 1 16 (by omega) w
  rw [inB_yes (by omega) (by omega)] at F
  have hmk := run_make_ints n (by omega)
  have HN := IntG.new w n
  have sz : (w.alloc (.cells (madeCells #[.int .i64 0] n) 3)).heap.size = w.heap.size + 1 := by simp
  have b1 : Below w.heap.size w (w.alloc (.cells (madeCells #[.int .i64 0] n) 3)) := (Below.refl _ _).alloc (Nat.le_refl _) _
  have R : Hid (∀ w' : World, w' = (w.alloc (.cells (madeCells #[.int .i64 0] n) 3)).alloc (.cells #[.slice (some ⟨w.heap.size, 0, none⟩) n n] 41) → TapeAt w' B (w.heap.size + 1) w.heap.size n (fun _ => 0) ∧ Below w.heap.size w w' ∧ w'.heap.size = w.heap.size + 2) := by
    rintro w' rfl
    generalize w.alloc (.cells (madeCells #[.int .i64 0] n) 3) = w2 at *
    have b2 : Below w2.heap.size w2 (w2.alloc (.cells #[.slice (some ⟨w.heap.size, 0, none⟩) n n] 41)) := (Below.refl _ _).alloc (Nat.le_refl _) _
    refine ⟨⟨by rw [← sz]; simp, HN.below b2, h1, h2, by omega, by omega, hB, fun i _ => by omega⟩, b1.trans (b2.mono (by omega)), by simp; omega⟩
  clear HN sz b1
  go_enter Try.func8, Try.ntmps8
  go_wp2_with fail
  refine (F _).mono ?_
  rintro e w1 ⟨rfl, rfl⟩
  go_wp2_with fail
  go_ret2
  exact ⟨rfl, R.out _ rfl⟩
end Go.Proofs.Ytkphchldoionjaa.FL
