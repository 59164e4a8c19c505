/-
  Contracts of ring's lay, grow, Push and Pop, at int.
-/
import Derived.Test.YtdikjfajbjedcaaRingI
namespace Go.Proofs.Ytdikjfajbjedcaa.RI
open Go.ChangeShapes Go.WideShapes Go.ChangeAt Go.RowKit Go.Lib

theorem mod_one {C f i n : Nat} (hi : i ≤ n) (hn : n < C) (e : (f + i) % C = (f + n) % C) : i = n := by
  have h1 := Nat.div_add_mod (f + i) C
  have h2 := Nat.div_add_mod (f + n) C
  rw [e] at h1
  rcases Nat.lt_trichotomy ((f + i) / C) ((f + n) / C) with h | h | h
  · have := Nat.mul_le_mul_left C (Nat.succ_le_of_lt h)
    rw [Nat.succ_eq_add_one, Nat.mul_add] at this
    omega
  · rw [h] at h1; omega
  · have := Nat.mul_le_mul_left C (Nat.le_of_lt h)
    omega
set_option maxRecDepth 100000 in
set_option maxHeartbeats 2000000 in
/-- lay puts the things into the front of a list of its own. -/
theorem lay_any {w : World} {p C f room n : Nat} {S : Option Addr} {g : Nat → Int} (h : Rng w p S C f room n g) (b m : Nat) (hm : n ≤ m) (hb : ¬ own p S b) (ht : ∀ j, j < m → (w.cell? ⟨b, j, none⟩).isSome = true) (hz : ∀ j, w.frozen? ⟨b, j, none⟩ = false) :
    Calls Try.prog 30 #[.pointer (some ⟨p, 0, none⟩), .slice (some ⟨b, 0, none⟩) m m] w fun e w' => (∃ v, e = .returned v) ∧ But (fun k => k = b) w w' ∧
      (∀ j, j < n → w'.cell? ⟨b, j, none⟩ = some (.int .i64 (g j))) ∧ (∀ j, n ≤ j → w'.cell? ⟨b, j, none⟩ = w.cell? ⟨b, j, none⟩) ∧ (∀ j, w'.frozen? ⟨b, j, none⟩ = false) := by
  have F1 := len_any h
  have hn : n ≤ 1024 := Nat.le_trans h.fits (Nat.le_trans h.capped h.most)
  have HZ : Hid (∀ j, j < m → (w.cell? ⟨b, j, none⟩).isSome = true) := ht
  have HF : Hid (∀ j, w.frozen? ⟨b, j, none⟩ = false) := hz
  clear ht hz
  go_enter Try.func30, Try.ntmps30
  go_wp2_with fail
  refine F1.mono ?_
  rintro e w1 ⟨rfl, rfl⟩
  clear F1
  go_wp2_with fail
  go_loopw [7] (fun i wr => ∃ k : Nat, i = .int .i64 (k : Int) ∧ k ≤ n ∧ But (fun k => k = b) w1 wr ∧ Hid ((∀ j, j < k → wr.cell? ⟨b, j, none⟩ = some (.int .i64 (g j))) ∧ (∀ j, k ≤ j → wr.cell? ⟨b, j, none⟩ = w1.cell? ⟨b, j, none⟩) ∧ (∀ j, wr.frozen? ⟨b, j, none⟩ = false))) (fun i _ => n - (RowKit.intOf i).toNat)
  case atStart => exact ⟨0, rfl, Nat.zero_le _, But.refl _ _, fun j hj => absurd hj (by omega), fun _ _ => rfl, HF.out⟩
  case round =>
    obtain ⟨k, rfl, hk, B, HI⟩ := hrel
    by_cases hlt : k < n
    · have t : (k : Int) < (n : Int) := by omega
      have t2 : (k : Int) < (m : Int) := by omega
      have R := h.kept B (fun i hi e => hb (by rw [← e]; exact hi))
      obtain ⟨q, rfl, hq, Q⟩ := R.got (by have := h.fits; omega)
      have h1 := R.ccells
      have h2 := R.cfirst
      have hfC := Q.head
      have hcr := R.capped
      have hrm := R.most
      have F2 := cell_any p C f k (some ⟨q, 0, none⟩) wr.drew (by omega) (by omega) (by omega) h1 h2
      have hlC := Nat.mod_lt (f + k) (show 0 < C by omega)
      have h3 := Q.things k hlt
      obtain ⟨u, hu⟩ : ∃ u, (f + k) % C = u := ⟨_, rfl⟩
      rw [hu] at F2 h3 hlC
      have t3 : (u : Int) < (C : Int) := by omega
      obtain ⟨old, ho⟩ := Option.isSome_iff_exists.1 (HZ.out k (by omega))
      have hold : wr.cell? ⟨b, k, none⟩ = some old := (HI.out.2.1 k (Nat.le_refl _)).trans ho
      have hfr := HI.out.2.2 k
      have hbp : ¬ b = p := fun e => hb (.inl e)
      have hbq : ¬ b = q := fun e => hb (by subst e; exact .inr rfl)
      obtain ⟨x, hx⟩ : ∃ x, g k = x := ⟨_, rfl⟩
      have HX : Hid (g k = x) := hx
      rw [hx] at h3
      clear hx hu ho R Q h
      go_wp2_with fail
      go_region_held3 (fun w' => w'.cell? ⟨p, 1, none⟩ = some (.slice (some ⟨q, 0, none⟩) C C) ∧ w'.cell? ⟨q, u, none⟩ = some (.int .i64 x)) (go_keep) (first
        | (go_at_call 24; refine F2.mono ?_; rintro e w2 ⟨rfl, m2, rfl⟩))
      go_wp2_with fail
      go_roundw
      case rel =>
        refine ⟨k + 1, by simp, by omega, But.setCell (S := fun k => k = b) (B.drewN _) b k _ (fun _ => rfl), fun j hj => ?_, fun j hj => ?_, fun j => by rw [World.frozen?_setCell]; exact HI.out.2.2 j⟩
        · by_cases e : j = k
          · subst e
            rw [HX.out]
            exact World.cell?_setCell_same' _ _ _ (by show (wr.cell? _).isSome = true; rw [hold]; rfl)
          · rw [World.cell?_setCell_other _ _ _ _ (by intro e'; injection e' with _ e2; exact e e2.symm)]
            exact HI.out.1 j (by omega)
        · rw [World.cell?_setCell_other _ _ _ _ (by intro e'; injection e' with _ e2; omega)]
          exact HI.out.2.1 j (by omega)
      case measure => simp [RowKit.intOf]; omega
    · obtain rfl : k = n := by omega
      have t : ¬ (k : Int) < (k : Int) := by omega
      clear h
      go_wp2_with fail
      go_end0
      exact ⟨⟨_, rfl⟩, B, HI.out⟩
theorem info_thing : (Try.prog.info? 3).map (fun i => (i.zero, i.size, i.bytes)) = some (some (.int .i64 0), 1, 8) := by kernel_rfl
theorem run_make_things (K : Nat) (hK : K ≤ 1024) (w : World) : (Instr.makeSlice 29 (.int .i64 (K : Int)) (.int .i64 (K : Int))).run Try.prog w = .ok (.slice (some ⟨w.heap.size, 0, none⟩) K K) (w.alloc (.cells (madeCells #[.int .i64 0] K) 3)) := by
  obtain ⟨i0, hi0, hz0, hzs, hzb⟩ := info_parts info_thing
  have := run_make (P := Try.prog) w 29 3 i0 _ Try.underlying29 hi0 hz0 .i64 .i64 (K : Int) (K : Int) (by omega) (by omega) (by rw [hzb]; omega) (by omega)
  rw [hzs, Int.toNat_natCast, Nat.mul_one] at this
  exact this
theorem made_thing (K i : Nat) (h : i < K) : (madeCells #[.int .i64 0] K)[i]? = some (.int .i64 0) := by
  simp [madeCells, h, Nat.mod_one]

/-- A ring whose cells were laid anew. -/
theorem Rng.grown {w W : World} {p C f room n : Nat} {S : Option Addr} {g : Nat → Int} (h : Rng w p S C f room n g) (K : Nat) (hK : n < K) (hKr : K ≤ room) (B : But (fun k => k = w.heap.size) w W) (there : ∀ j, j < K → (W.cell? ⟨w.heap.size, j, none⟩).isSome = true) (things : ∀ j, j < n → W.cell? ⟨w.heap.size, j, none⟩ = some (.int .i64 (g j))) (thaw : ∀ j, W.frozen? ⟨w.heap.size, j, none⟩ = false) :
    Rng ((W.setCell ⟨p, 1, none⟩ (.slice (some ⟨w.heap.size, 0, none⟩) K K)).setCell ⟨p, 2, none⟩ (.int .i64 0)) p (some ⟨w.heap.size, 0, none⟩) K 0 room n g := by
  have hp := h.pthere
  have hne : ¬ p = w.heap.size := by omega
  have hcell := fun j => B.cell (o := j) hp hne
  refine ⟨?_, ?_, ?_, ?_, ?_, .inr ⟨_, rfl, fun e => hne e.symm, ⟨by omega, fun j hj => ?_, fun j => ?_, fun i hi => ?_⟩⟩, by omega, hKr, h.first, h.most⟩
  · rw [World.cell?_setCell_other _ _ _ _ (by simp), World.cell?_setCell_other _ _ _ _ (by simp), hcell]; exact h.croom
  · rw [World.cell?_setCell_other _ _ _ _ (by simp)]
    exact World.cell?_setCell_same' _ _ _ (by rw [hcell, h.ccells]; rfl)
  · refine World.cell?_setCell_same' _ _ _ ?_
    rw [World.cell?_setCell_other _ _ _ _ (by simp), hcell, h.cfirst]; rfl
  · rw [World.cell?_setCell_other _ _ _ _ (by simp), World.cell?_setCell_other _ _ _ _ (by simp), hcell]; exact h.csize
  · intro j; rw [World.frozen?_setCell, World.frozen?_setCell, B.frozen hp hne]; exact h.pthaw j
  · rw [World.cell?_setCell_other _ _ _ _ (by intro e; injection e with e1; exact hne e1), World.cell?_setCell_other _ _ _ _ (by intro e; injection e with e1; exact hne e1)]; exact there j hj
  · rw [World.frozen?_setCell, World.frozen?_setCell]; exact thaw j
  · rw [World.cell?_setCell_other _ _ _ _ (by intro e; injection e with e1; exact hne e1), World.cell?_setCell_other _ _ _ _ (by intro e; injection e with e1; exact hne e1), Nat.zero_add, Nat.mod_eq_of_lt (by omega)]; exact things i hi

set_option maxRecDepth 100000 in
set_option maxHeartbeats 2000000 in
theorem grow_at {w : World} {p C f room n : Nat} {S : Option Addr} {g : Nat → Int} (h : Rng w p S C f room n g) (K : Nat) (hK : n < K) (hKr : K ≤ room) (hmin : (K : Int) = min (2 * (n : Int) + 1) (room : Int)) :
    Calls Try.prog 23 #[.pointer (some ⟨p, 0, none⟩)] w fun e w' => (∃ v, e = .returned v) ∧ Rng w' p (some ⟨w.heap.size, 0, none⟩) K 0 room n g ∧ But (fun k => k = p) w w' := by
  have hrm := h.most
  have hmk := run_make_things K (by omega)
  have hcell := made_thing K
  obtain ⟨A, HA'⟩ : ∃ A, madeCells #[.int .i64 0] K = A := ⟨_, rfl⟩
  rw [HA'] at hmk hcell
  have HC : Hid (∀ i, i < K → A[i]? = some (.int .i64 0)) := hcell
  clear HA' hcell
  have h1 := h.csize
  have h2 := h.croom
  have hpt := h.pthere
  have h3 := h.pthaw 1
  have h4 := h.pthaw 2
  have k1 := h.ccells
  have k2 := h.cfirst
  rw [hmin] at hmk
  have HM : Hid ((K : Int) = min (2 * (n : Int) + 1) (room : Int)) := hmin
  clear hmin
  go_enter Try.func23, Try.ntmps23
  go_wp2_with fail
  go_region
  go_wp2_with fail
  have A0 : Below w.heap.size w (w.alloc (.cells A 3)).drew := ((Below.refl _ w).alloc (Nat.le_refl _) _).drew
  have hno : ¬ own p S w.heap.size := fun e => by have := h.there e; omega
  have c0 : ∀ j, j < K → (w.alloc (.cells A 3)).drew.cell? ⟨w.heap.size, j, none⟩ = some (.int .i64 0) := fun j hj => by
    show (w.alloc (.cells A 3)).cell? ⟨w.heap.size, j, none⟩ = some (.int .i64 0)
    rw [World.cell?_alloc_at _ _ _ _ rfl]; exact HC.out j hj
  have f0 : ∀ j, (w.alloc (.cells A 3)).drew.frozen? ⟨w.heap.size, j, none⟩ = false := fun j => World.frozen?_alloc_at (w := w) A _ w.heap.size j rfl
  have F1 := lay_any (h.below A0) w.heap.size K (by omega) hno (fun j hj => by rw [c0 j hj]; rfl) f0
  have HP : Hid (∀ j, j < K → (w.alloc (.cells A 3)).drew.cell? ⟨w.heap.size, j, none⟩ = some (.int .i64 0)) := c0
  clear c0 f0 hmk
  refine F1.mono ?_
  rintro e W ⟨⟨v, rfl⟩, BW, L1, L2, L3⟩
  have B : But (fun k => k = w.heap.size) w W := (But.of_below A0).trans BW (fun _ _ e => e)
  have hne : ¬ p = w.heap.size := by omega
  have q1 := (B.cell (o := 1) hpt hne).trans k1
  have q2 := (B.cell (o := 2) hpt hne).trans k2
  have q3 := (B.frozen (o := 1) hpt hne).trans h3
  have q4 := (B.frozen (o := 2) hpt hne).trans h4
  have HG : Hid (Rng ((W.setCell ⟨p, 1, none⟩ (.slice (some ⟨w.heap.size, 0, none⟩) K K)).setCell ⟨p, 2, none⟩ (.int .i64 0)) p (some ⟨w.heap.size, 0, none⟩) K 0 room n g) :=
    h.grown K hK hKr B (fun j hj => by
      by_cases e : j < n
      · rw [L1 j e]; rfl
      · rw [L2 j (by omega), HP.out j hj]; rfl) L1 L3
  clear F1 L1 L2 L3 A0 BW
  go_wp2_with fail
  go_end0
  refine ⟨⟨_, rfl⟩, HG.out, ?_⟩
  have B' : But (fun k => k = p) w W := B.mono (fun i hi e => absurd e (by omega))
  exact But.setCell (S := fun k => k = p) (But.setCell (S := fun k => k = p) B' p 1 _ (fun _ => rfl)) p 2 _ (fun _ => rfl)
theorem grow_any {w : World} {p C f room n : Nat} {S : Option Addr} {g : Nat → Int} (h : Rng w p S C f room n g) (hn : n < room) :
    Calls Try.prog 23 #[.pointer (some ⟨p, 0, none⟩)] w fun e w' => (∃ v, e = .returned v) ∧ ∃ K, n < K ∧ Rng w' p (some ⟨w.heap.size, 0, none⟩) K 0 room n g ∧ But (fun k => k = p) w w' :=
  (grow_at h (min (2 * n + 1) room) (by omega) (by omega) (by omega)).mono fun _ _ ⟨h1, h2, h3⟩ => ⟨h1, _, by omega, h2, h3⟩

/-- A ring with one thing more. -/
theorem Rng.pushed {w : World} {p C f room n q : Nat} {g : Nat → Int} (h : Rng w p (some ⟨q, 0, none⟩) C f room n g) (hq : q ≠ p) (Q : Held w q C f n g) (hn : n < C) (x : Int) :
    Rng ((w.setCell ⟨q, (f + n) % C, none⟩ (.int .i64 x)).setCell ⟨p, 3, none⟩ (.int .i64 ((n : Int) + 1))) p (some ⟨q, 0, none⟩) C f room (n + 1) (upd g n x) := by
  have hf := Q.head
  have hlt := Nat.mod_lt (f + n) (show 0 < C by omega)
  have o1 : ∀ j, (⟨q, (f + n) % C, none⟩ : Addr) ≠ ⟨p, j, none⟩ := fun j e => by injection e with e1; exact hq e1
  have o2 : ∀ j, (⟨p, 3, none⟩ : Addr) ≠ ⟨q, j, none⟩ := fun j e => by injection e with e1; exact hq e1.symm
  refine ⟨?_, ?_, ?_, ?_, ?_, .inr ⟨_, rfl, hq, ⟨hf, fun j hj => ?_, fun j => ?_, fun i hi => ?_⟩⟩, by omega, h.capped, h.first, h.most⟩
  · rw [World.cell?_setCell_other _ _ _ _ (by simp), World.cell?_setCell_other _ _ _ _ (o1 _)]; exact h.croom
  · rw [World.cell?_setCell_other _ _ _ _ (by simp), World.cell?_setCell_other _ _ _ _ (o1 _)]; exact h.ccells
  · rw [World.cell?_setCell_other _ _ _ _ (by simp), World.cell?_setCell_other _ _ _ _ (o1 _)]; exact h.cfirst
  · rw [Int.natCast_add]
    exact World.cell?_setCell_same' _ _ _ (by rw [World.cell?_setCell_other _ _ _ _ (o1 _), h.csize]; rfl)
  · intro j; rw [World.frozen?_setCell, World.frozen?_setCell]; exact h.pthaw j
  · rw [World.cell?_setCell_other _ _ _ _ (o2 _)]
    by_cases e : (f + n) % C = j
    · rw [e, World.cell?_setCell_same' _ _ _ (Q.there j hj)]; rfl
    · rw [World.cell?_setCell_other _ _ _ _ (by intro e'; injection e' with _ e2; exact e e2)]; exact Q.there j hj
  · rw [World.frozen?_setCell, World.frozen?_setCell]; exact Q.thaw j
  · rw [World.cell?_setCell_other _ _ _ _ (o2 _)]
    by_cases e : i = n
    · subst e
      rw [upd_same, World.cell?_setCell_same' _ _ _ (Q.there _ hlt)]
    · rw [upd_other _ _ e, World.cell?_setCell_other _ _ _ _ (by intro e'; injection e' with _ e2; exact e (mod_one (by omega) (by omega) e2.symm))]; exact Q.things i (by omega)

set_option maxHeartbeats 2000000 in
theorem push_full {w : World} {p C f room : Nat} {S : Option Addr} {g : Nat → Int} (h : Rng w p S C f room room g) (x : Int) :
    Calls Try.prog 8 #[.pointer (some ⟨p, 0, none⟩), .int .i64 x] w fun e w' => e = .returned (.int .i64 40) ∧ ∃ m, w' = w.drewN m := by
  have F1 := made_yes p room w h.croom h.first
  have h1 := h.csize
  have h2 := h.croom
  go_enter Try.func8, Try.ntmps8
  go_wp2_with fail
  refine F1.mono ?_
  rintro e w1 ⟨rfl, rfl⟩
  go_wp2_with fail
  go_quiet (fail)
  go_wp2_with fail
  go_ret
  exact ⟨rfl, _, rfl⟩
theorem pushN {w : World} {r : Value} (h : NoRng w r) (x : Int) : Calls Try.prog 8 #[r, .int .i64 x] w fun e w' => e = .returned (.int .i64 1) ∧ w' = w := by
  have F1 := made_no h
  go_enter Try.func8, Try.ntmps8
  go_wp2_with fail
  refine F1.mono ?_
  rintro e w1 ⟨rfl, rfl⟩
  go_wp2_with fail
  go_ret
  exact ⟨rfl, rfl⟩
set_option maxRecDepth 100000 in
set_option maxHeartbeats 4000000 in
theorem push_room {w : World} {p C f room n : Nat} {S : Option Addr} {g : Nat → Int} (h : Rng w p S C f room n g) (hn : n < C) (x : Int) :
    Calls Try.prog 8 #[.pointer (some ⟨p, 0, none⟩), .int .i64 x] w fun e w' => e = .returned (.int .i64 0) ∧ Rng w' p S C f room (n + 1) (upd g n x) ∧ But (own p S) w w' := by
  have F1 := made_yes p room w h.croom h.first
  have hcr := h.capped
  have hrm := h.most
  obtain ⟨q, rfl, hq, Q⟩ := h.got (by omega)
  have h0 := h.croom
  have h1 := h.ccells
  have h2 := h.cfirst
  have h3 := h.csize
  have z3 := h.pthaw 3
  have hfC := Q.head
  have t1 : ((n : Int) == (room : Int)) = false := beq_false_of_ne (by omega)
  have t2 : ((n : Int) == (C : Int)) = false := beq_false_of_ne (by omega)
  have t1' : ¬ n = room := by omega
  have t2' : ¬ n = C := by omega
  have hlC := Nat.mod_lt (f + n) (show 0 < C by omega)
  obtain ⟨old, ho⟩ := Option.isSome_iff_exists.1 (Q.there _ hlC)
  have hfr := Q.thaw ((f + n) % C)
  have F2 := fun (m0 : Nat) => cell_any p C f n (some ⟨q, 0, none⟩) (w.drewN m0) (by omega) (by omega) (by omega) h1 h2
  have HR : Hid (Rng ((w.setCell ⟨q, (f + n) % C, none⟩ (.int .i64 x)).setCell ⟨p, 3, none⟩ (.int .i64 ((n : Int) + 1))) p (some ⟨q, 0, none⟩) C f room (n + 1) (upd g n x)) := h.pushed hq Q hn x
  obtain ⟨u, hu⟩ : ∃ u, (f + n) % C = u := ⟨_, rfl⟩
  rw [hu] at hlC ho hfr F2 HR
  have t3 : (u : Int) < (C : Int) := by omega
  have hqp : ¬ q = p := hq
  clear hu Q h
  go_enter Try.func8, Try.ntmps8
  go_wp2_with fail
  refine F1.mono ?_
  rintro e w1 ⟨rfl, rfl⟩
  go_wp2_with fail
  go_quiet (fail)
  go_wp2_with fail
  go_quiet (fail)
  go_wp2_with fail
  go_region_held3 (fun w' => w'.cell? ⟨p, 1, none⟩ = some (.slice (some ⟨q, 0, none⟩) C C) ∧ w'.cell? ⟨p, 3, none⟩ = some (.int .i64 (n : Int))) (go_keep) (first
    | (go_at_call 24; refine (F2 _).mono ?_; rintro e w2 ⟨rfl, m2, rfl⟩))
  go_wp2_with fail
  go_ret
  refine ⟨rfl, HR.out.below (below_drewN _ _ _), ?_⟩
  exact But.setCell (S := own p (some ⟨q, 0, none⟩)) (But.setCell (S := own p (some ⟨q, 0, none⟩)) ((But.refl _ w1).drewN _) q u _ (fun _ => .inr rfl)) p 3 _ (fun _ => .inl rfl)
set_option maxRecDepth 100000 in
set_option maxHeartbeats 4000000 in
theorem push_grow {w : World} {p f room n : Nat} {S : Option Addr} {g : Nat → Int} (h : Rng w p S n f room n g) (hn : n < room) (x : Int) :
    Calls Try.prog 8 #[.pointer (some ⟨p, 0, none⟩), .int .i64 x] w fun e w' => e = .returned (.int .i64 0) ∧ ∃ K q, w.heap.size ≤ q ∧ Rng w' p (some ⟨q, 0, none⟩) K 0 room (n + 1) (upd g n x) ∧ But (own p S) w w' := by
  have F1 := made_yes p room w h.croom h.first
  have hrm := h.most
  have h0 := h.croom
  have h1 := h.ccells
  have h3 := h.csize
  have t1 : ((n : Int) == (room : Int)) = false := beq_false_of_ne (by omega)
  have t1' : ¬ n = room := by omega
  have F3 := fun (m0 : Nat) => grow_any (h.below (below_drewN w.heap.size m0 w)) hn
  have hpt := h.pthere
  clear h
  go_enter Try.func8, Try.ntmps8
  go_wp2_with fail
  refine F1.mono ?_
  rintro e w1 ⟨rfl, rfl⟩
  go_wp2_with fail
  go_quiet (fail)
  go_wp2_with fail
  go_quiet (fail)
  go_wp2_with fail
  refine (F3 _).mono ?_
  clear F1 F3 h0 h1 h3
  rintro e W ⟨⟨v, rfl⟩, C, hC, h, BW⟩
  have hcr := h.capped
  obtain ⟨q, e', hq, Q⟩ := h.got (by omega)
  have hqs : w1.heap.size = q := by injection e' with e'; injection e'
  rw [e'] at h
  have h1 := h.ccells
  have h2 := h.cfirst
  have h3 := h.csize
  have z3 := h.pthaw 3
  have hfC := Q.head
  have hlC := Nat.mod_lt (0 + n) (show 0 < C by omega)
  obtain ⟨old, ho⟩ := Option.isSome_iff_exists.1 (Q.there _ hlC)
  have hfr := Q.thaw ((0 + n) % C)
  have F2 := fun (m0 : Nat) => cell_any p C 0 n (some ⟨q, 0, none⟩) (W.drewN m0) (by omega) (by omega) (by omega) h1 h2
  have HR : Hid (Rng ((W.setCell ⟨q, (0 + n) % C, none⟩ (.int .i64 x)).setCell ⟨p, 3, none⟩ (.int .i64 ((n : Int) + 1))) p (some ⟨q, 0, none⟩) C 0 room (n + 1) (upd g n x)) := h.pushed hq Q (by omega) x
  obtain ⟨u, hu⟩ : ∃ u, (0 + n) % C = u := ⟨_, rfl⟩
  rw [hu] at hlC ho hfr F2 HR
  have t3 : (u : Int) < (C : Int) := by omega
  have hqp : ¬ q = p := hq
  have HQ : Hid (w1.heap.size = q) := hqs
  have HB : Hid (But (fun k => k = p) w1 W) := (But.of_below (below_drewN w1.heap.size _ w1)).trans BW (fun _ _ e => e)
  clear hu Q h e' hqs BW
  go_wp2_with fail
  go_region_held3 (fun w' => w'.cell? ⟨p, 1, none⟩ = some (.slice (some ⟨q, 0, none⟩) C C) ∧ w'.cell? ⟨p, 3, none⟩ = some (.int .i64 (n : Int))) (go_keep) (first
    | (go_at_call 24; refine (F2 _).mono ?_; rintro e w2 ⟨rfl, m2, rfl⟩))
  go_wp2_with fail
  go_ret
  refine ⟨rfl, C, q, Nat.le_of_eq HQ.out, HR.out.below (below_drewN _ _ _), ?_⟩
  have B1 : But (own p S) w1 W := HB.out.mono (fun _ _ e => .inl e)
  exact But.setCell (S := own p S) (But.setCell (S := own p S) (B1.drewN _) q u _ (fun hlt => absurd hlt (by have := HQ.out; omega))) p 3 _ (fun _ => .inl rfl)
theorem push_ok {w : World} {p C f room n : Nat} {S : Option Addr} {g : Nat → Int} (h : Rng w p S C f room n g) (hn : n < room) (x : Int) :
    Calls Try.prog 8 #[.pointer (some ⟨p, 0, none⟩), .int .i64 x] w fun e w' => e = .returned (.int .i64 0) ∧
      ∃ S' C' f', Rng w' p S' C' f' room (n + 1) (upd g n x) ∧ But (own p S) w w' ∧ ∀ k, own p S' k → own p S k ∨ w.heap.size ≤ k := by
  by_cases hC : n < C
  · exact (push_room h hC x).mono fun e w' ⟨h1, h2, h3⟩ => ⟨h1, S, C, f, h2, h3, fun k hk => .inl hk⟩
  · obtain rfl : n = C := by have := h.fits; omega
    refine (push_grow h hn x).mono fun e w' ⟨h1, K, q, hq, h2, h3⟩ => ⟨h1, _, K, 0, h2, h3, fun k hk => ?_⟩
    rcases hk with e | e
    · exact .inl (.inl e)
    · injection e with e
      injection e with e
      exact .inr (by omega)

/-- A ring with its first thing gone. -/
theorem Rng.popped {w : World} {p C f room n q : Nat} {g : Nat → Int} (h : Rng w p (some ⟨q, 0, none⟩) C f room (n + 1) g) (hq : q ≠ p) (Q : Held w q C f (n + 1) g) :
    Rng (((w.setCell ⟨q, f, none⟩ (.int .i64 0)).setCell ⟨p, 2, none⟩ (.int .i64 (((f + 1) % C : Nat) : Int))).setCell ⟨p, 3, none⟩ (.int .i64 (n : Int))) p (some ⟨q, 0, none⟩) C ((f + 1) % C) room n (fun i => g (i + 1)) := by
  have hf := Q.head
  have hfit := h.fits
  have hlt := Nat.mod_lt (f + 1) (show 0 < C by omega)
  have o1 : ∀ j, (⟨q, f, none⟩ : Addr) ≠ ⟨p, j, none⟩ := fun j e => by injection e with e1; exact hq e1
  have o2 : ∀ i j, (⟨p, i, none⟩ : Addr) ≠ ⟨q, j, none⟩ := fun i j e => by injection e with e1; exact hq e1.symm
  refine ⟨?_, ?_, ?_, ?_, ?_, .inr ⟨_, rfl, hq, ⟨hlt, fun j hj => ?_, fun j => ?_, fun i hi => ?_⟩⟩, by omega, h.capped, h.first, h.most⟩
  · rw [World.cell?_setCell_other _ _ _ _ (by simp), World.cell?_setCell_other _ _ _ _ (by simp), World.cell?_setCell_other _ _ _ _ (o1 _)]; exact h.croom
  · rw [World.cell?_setCell_other _ _ _ _ (by simp), World.cell?_setCell_other _ _ _ _ (by simp), World.cell?_setCell_other _ _ _ _ (o1 _)]; exact h.ccells
  · rw [World.cell?_setCell_other _ _ _ _ (by simp)]
    exact World.cell?_setCell_same' _ _ _ (by rw [World.cell?_setCell_other _ _ _ _ (o1 _), h.cfirst]; rfl)
  · exact World.cell?_setCell_same' _ _ _ (by rw [World.cell?_setCell_other _ _ _ _ (by simp), World.cell?_setCell_other _ _ _ _ (o1 _), h.csize]; rfl)
  · intro j; rw [World.frozen?_setCell, World.frozen?_setCell, World.frozen?_setCell]; exact h.pthaw j
  · rw [World.cell?_setCell_other _ _ _ _ (o2 _ _), World.cell?_setCell_other _ _ _ _ (o2 _ _)]
    by_cases e : f = j
    · rw [e, World.cell?_setCell_same' _ _ _ (Q.there j hj)]; rfl
    · rw [World.cell?_setCell_other _ _ _ _ (by intro e'; injection e' with _ e2; exact e e2)]; exact Q.there j hj
  · rw [World.frozen?_setCell, World.frozen?_setCell, World.frozen?_setCell]; exact Q.thaw j
  · have e : ((f + 1) % C + i) % C = (f + (i + 1)) % C := by rw [Nat.mod_add_mod]; congr 1; omega
    rw [e, World.cell?_setCell_other _ _ _ _ (o2 _ _), World.cell?_setCell_other _ _ _ _ (o2 _ _), World.cell?_setCell_other _ _ _ _ (by
      intro e'
      injection e' with _ e2
      have h0 : (f + 0) % C = f := by rw [Nat.add_zero, Nat.mod_eq_of_lt hf]
      have := mod_one (C := C) (f := f) (i := 0) (n := i + 1) (by omega) (by omega) (by rw [h0]; exact e2)
      omega)]
    exact Q.things (i + 1) (by omega)

set_option maxHeartbeats 2000000 in
theorem pop_none {w : World} {p C f room : Nat} {S : Option Addr} {g : Nat → Int} (h : Rng w p S C f room 0 g) :
    Calls Try.prog 10 #[.pointer (some ⟨p, 0, none⟩)] w fun e w' => e = .returned (.tuple #[.int .i64 0, .int .i64 50]) ∧ w' = w := by
  have F1 := peek_none h
  go_enter Try.func10, Try.ntmps10
  go_wp2_with fail
  refine F1.mono ?_
  rintro e w1 ⟨rfl, rfl⟩
  go_wp2_with fail
  go_ret2
  exact ⟨rfl, rfl⟩
set_option maxHeartbeats 2000000 in
theorem popN {w : World} {r : Value} (h : NoRng w r) : Calls Try.prog 10 #[r] w fun e w' => e = .returned (.tuple #[.int .i64 0, .int .i64 1]) ∧ w' = w := by
  have F1 := peekN h
  go_enter Try.func10, Try.ntmps10
  go_wp2_with fail
  refine F1.mono ?_
  rintro e w1 ⟨rfl, rfl⟩
  go_wp2_with fail
  go_ret2
  exact ⟨rfl, rfl⟩
set_option maxRecDepth 100000 in
set_option maxHeartbeats 4000000 in
theorem pop_some {w : World} {p C f room n : Nat} {S : Option Addr} {g : Nat → Int} (h : Rng w p S C f room (n + 1) g) :
    Calls Try.prog 10 #[.pointer (some ⟨p, 0, none⟩)] w fun e w' => e = .returned (.tuple #[.int .i64 (g 0), .int .i64 0]) ∧ ∃ f', Rng w' p S C f' room n (fun i => g (i + 1)) ∧ But (own p S) w w' := by
  have F1 := peek_some h (by omega)
  have hfit := h.fits
  have hcr := h.capped
  have hrm := h.most
  obtain ⟨q, rfl, hq, Q⟩ := h.got (by omega)
  have h1 := h.ccells
  have h2 := h.cfirst
  have h3 := h.csize
  have z2 := h.pthaw 2
  have z3 := h.pthaw 3
  have hfC := Q.head
  have t3 : (f : Int) < (C : Int) := by omega
  obtain ⟨old, ho⟩ := Option.isSome_iff_exists.1 (Q.there _ hfC)
  have hfr := Q.thaw f
  have hqp : ¬ q = p := hq
  have o1 : ∀ j, (w.setCell ⟨q, f, none⟩ (.int .i64 0)).cell? ⟨p, j, none⟩ = w.cell? ⟨p, j, none⟩ := fun j => World.cell?_setCell_other _ _ _ _ (fun e => by injection e with e1; exact hq e1)
  have F2 := fun (m0 : Nat) => cell_any p C f 1 (some ⟨q, 0, none⟩) ((w.setCell ⟨q, f, none⟩ (.int .i64 0)).drewN m0) (by omega) (by omega) (by omega) ((o1 1).trans h1) ((o1 2).trans h2)
  have HR : Hid (Rng (((w.setCell ⟨q, f, none⟩ (.int .i64 0)).setCell ⟨p, 2, none⟩ (.int .i64 (((f + 1) % C : Nat) : Int))).setCell ⟨p, 3, none⟩ (.int .i64 (n : Int))) p (some ⟨q, 0, none⟩) C ((f + 1) % C) room n (fun i => g (i + 1))) := h.popped hq Q
  obtain ⟨u, hu⟩ : ∃ u, (f + 1) % C = u := ⟨_, rfl⟩
  rw [hu] at F2 HR
  generalize g 0 = x at *
  clear hu Q h o1
  go_enter Try.func10, Try.ntmps10
  go_wp2_with fail
  refine F1.mono ?_
  rintro e w1 ⟨rfl, m1, rfl⟩
  go_wp2_with fail
  go_region
  go_wp2_with fail
  refine (F2 _).mono ?_
  rintro e w2 ⟨rfl, m2, rfl⟩
  go_wp2_with fail
  go_ret2
  refine ⟨rfl, u, HR.out.below (below_drewN _ _ _), ?_⟩
  exact But.setCell (S := own p (some ⟨q, 0, none⟩)) (But.setCell (S := own p (some ⟨q, 0, none⟩)) (But.drewN (But.setCell (S := own p (some ⟨q, 0, none⟩)) (But.refl _ w) q f _ (fun _ => .inr rfl)) _) p 2 _ (fun _ => .inl rfl)) p 3 _ (fun _ => .inl rfl)
end Go.Proofs.Ytdikjfajbjedcaa.RI
