/-
  Contracts of ring's lay, grow, Push and Pop, at orders.
-/
import Derived.Test.YtlgnbnojjfgfmaaSnRing
namespace Go.Proofs.Ytlgnbnojjfgfmaa.SN
open Go.ChangeShapes Go.WideShapes Go.ChangeAt Go.RowKit Go.Lib

theorem mod_one {C f i n : Nat} (hi : i ≤ n) (hn : n < C) (e : (f + i) % C = (f + n) % C) : i = n := by
  have h1 := Nat.div_add_mod (f + i) C
  have h2 := Nat.div_add_mod (f + n) C
  rw [e] at h1
  rcases Nat.lt_trichotomy ((f + i) / C) ((f + n) / C) with h | h | h
  · have := Nat.mul_le_mul_left C (Nat.succ_le_of_lt h)
    rw [Nat.succ_eq_add_one, Nat.mul_add] at this
    omega
  · rw [h] at h1; omega
  · have := Nat.mul_le_mul_left C (Nat.le_of_lt h)
    omega
/-- Block b from place k on is as it was; below, it has the orders that g tells. -/
structure Laid (w wr : World) (b k : Nat) (g : Nat → Od) : Prop where
  done : ∀ j, j < k → Sev wr b (j * 7) (g j)
  rest : ∀ j, k * 7 ≤ j → wr.cell? ⟨b, j, none⟩ = w.cell? ⟨b, j, none⟩
  thaw : ∀ j, wr.frozen? ⟨b, j, none⟩ = false
theorem Laid.below {w wr wr' : World} {b k : Nat} {g : Nat → Od} (h : Laid w wr b k g) (hb : b < wr.heap.size) (x : Below wr.heap.size wr wr') : Laid w wr' b k g :=
  have e : ∀ j, wr'.cell? ⟨b, j, none⟩ = wr.cell? ⟨b, j, none⟩ := fun j => x.cell (p := ⟨b, j, none⟩) hb
  ⟨fun j hj i hi => (e _).trans (h.done j hj i hi), fun j hj => (e j).trans (h.rest j hj), fun j => (x.frozen (p := ⟨b, j, none⟩) hb).trans (h.thaw j)⟩
theorem Laid.next {w wr : World} {b k m : Nat} {g : Nat → Od} (h : Laid w wr b k g) (hk : k < m) (ht : ∀ j, j < m * 7 → (w.cell? ⟨b, j, none⟩).isSome = true) : Laid w (put7 wr b (k * 7) (g k)) b (k + 1) g := by
  refine ⟨fun j hj => ?_, fun j hj => ?_, fun j => by rw [put7_frozen]; exact h.thaw j⟩
  · by_cases e : j = k
    · subst e
      exact put7_in _ _ _ _ (fun i hi => by rw [h.rest _ (by omega)]; exact ht _ (by omega))
    · intro i hi
      rw [put7_out _ _ _ _ _ _ (.inr (.inl (by omega)))]
      exact h.done j (by omega) i hi
  · rw [put7_out _ _ _ _ _ _ (.inr (.inr (by omega)))]
    exact h.rest j (by omega)
set_option maxRecDepth 100000 in
set_option maxHeartbeats 8000000 in
/-- lay puts the orders into the front of a list of its own. -/
theorem lay_any {w : World} {p C f room n : Nat} {S : Option Addr} {g : Nat → Od} (h : Rng w p S C f room n g) (b m : Nat) (hm : n ≤ m) (hb : ¬ own p S b) (ht : ∀ j, j < m * 7 → (w.cell? ⟨b, j, none⟩).isSome = true) (hz : ∀ j, w.frozen? ⟨b, j, none⟩ = false) :
    Calls Try.prog 45 #[.pointer (some ⟨p, 0, none⟩), .slice (some ⟨b, 0, none⟩) m m] w fun e w' => (∃ v, e = .returned v) ∧ But (fun k => k = b) w w' ∧ Laid w w' b n g := by
  have F1 := len_any h
  have hn : n ≤ 1024 := Nat.le_trans h.fits (Nat.le_trans h.capped h.most)
  have HZ : Hid (∀ j, j < m * 7 → (w.cell? ⟨b, j, none⟩).isSome = true) := ht
  have HF : Hid (∀ j, w.frozen? ⟨b, j, none⟩ = false) := hz
  clear ht hz
  go_enter Try.func45, Try.ntmps45
  go_wp2_with fail
  refine F1.mono ?_
  rintro e w1 ⟨rfl, rfl⟩
  clear F1
  go_wp2_with fail
  go_loopw [7] (fun i wr => ∃ k : Nat, i = .int .i64 (k : Int) ∧ k ≤ n ∧ But (fun k => k = b) w1 wr ∧ Hid (Laid w1 wr b k g)) (fun i _ => n - (RowKit.intOf i).toNat)
  case atStart => exact ⟨0, rfl, Nat.zero_le _, But.refl _ _, fun j hj => absurd hj (by omega), fun _ _ => rfl, HF.out⟩
  case round =>
    obtain ⟨k, rfl, hk, B, HI⟩ := hrel
    by_cases hlt : k < n
    · have t : (k : Int) < (n : Int) := by omega
      have t2 : (k : Int) < (m : Int) := by omega
      have R := h.kept B (fun i hi e => hb (by rw [← e]; exact hi))
      obtain ⟨q, rfl, hq, Q⟩ := R.got (by have := h.fits; omega)
      have h1 := R.ccells
      have h2 := R.cfirst
      have hfC := Q.head
      have hcr := R.capped
      have hrm := R.most
      have F2 := cell_any p C f k (some ⟨q, 0, none⟩) wr.drew (by omega) (by omega) (by omega) h1 h2
      have hlC := Nat.mod_lt (f + k) (show 0 < C by omega)
      have h3 := Q.things k hlt
      obtain ⟨u, hu⟩ : ∃ u, (f + k) % C = u := ⟨_, rfl⟩
      rw [hu] at F2 h3 hlC
      have t3 : (u : Int) < (C : Int) := by omega
      have hs : ∀ j, j < 7 → (wr.cell? ⟨b, k * 7 + j, none⟩).isSome = true := fun j hj => by rw [HI.out.rest _ (by omega)]; exact HZ.out _ (by omega)
      obtain ⟨old0, ho0⟩ := Option.isSome_iff_exists.1 (hs 0 (by omega))
      have fo0 := HI.out.thaw (k * 7)
      obtain ⟨old1, ho1⟩ := Option.isSome_iff_exists.1 (hs 1 (by omega))
      have fo1 := HI.out.thaw (k * 7 + 1)
      obtain ⟨old2, ho2⟩ := Option.isSome_iff_exists.1 (hs 2 (by omega))
      have fo2 := HI.out.thaw (k * 7 + 2)
      obtain ⟨old3, ho3⟩ := Option.isSome_iff_exists.1 (hs 3 (by omega))
      have fo3 := HI.out.thaw (k * 7 + 3)
      obtain ⟨old4, ho4⟩ := Option.isSome_iff_exists.1 (hs 4 (by omega))
      have fo4 := HI.out.thaw (k * 7 + 4)
      obtain ⟨old5, ho5⟩ := Option.isSome_iff_exists.1 (hs 5 (by omega))
      have fo5 := HI.out.thaw (k * 7 + 5)
      obtain ⟨old6, ho6⟩ := Option.isSome_iff_exists.1 (hs 6 (by omega))
      have fo6 := HI.out.thaw (k * 7 + 6)
      rw [Nat.add_zero] at ho0
      have hbp : ¬ b = p := fun e => hb (.inl e)
      have hbq : ¬ b = q := fun e => hb (by subst e; exact .inr rfl)
      have HN : Hid (∀ W, Below wr.heap.size wr W → Laid w1 (put7 W b (k * 7) (g k)) b (k + 1) g ∧ But (fun k => k = b) w1 (put7 W b (k * 7) (g k))) := fun W hW =>
        have hbl : b < wr.heap.size := by
          obtain ⟨_, e⟩ := Option.isSome_iff_exists.1 (hs 0 (by omega))
          exact World.block_lt_of_cell? _ _ e
        ⟨(HI.out.below hbl hW).next (by omega) HZ.out, put7_but (B.trans (But.of_below (S := fun _ => False) hW) (fun _ _ e => e.elim)) b _ _ (fun _ => rfl)⟩
      obtain ⟨x, hx⟩ : ∃ x, g k = x := ⟨_, rfl⟩
      rw [hx] at h3 HN
      obtain ⟨c0, c1, c2, c3, c4, c5, c6⟩ := h3.all
      clear hx hu R Q h h3 hs
      obtain ⟨xk, xs, xi, xy, xd, xq, xp⟩ := x
      simp only at c0 c1 c2 c3 c4 c5 c6
      simp only [put7] at HN
      go_wp2_with fail
      go_region_held3 (fun w' => w'.cell? ⟨p, 1, none⟩ = some (.slice (some ⟨q, 0, none⟩) C C) ∧ w'.cell? ⟨q, u * 7, none⟩ = some (.int .i64 xk) ∧ w'.cell? ⟨q, u * 7 + 1, none⟩ = some (.int .i64 xs) ∧ w'.cell? ⟨q, u * 7 + 2, none⟩ = some (.string xi) ∧ w'.cell? ⟨q, u * 7 + 3, none⟩ = some (.string xy) ∧ w'.cell? ⟨q, u * 7 + 4, none⟩ = some (.int .i64 xd) ∧ w'.cell? ⟨q, u * 7 + 5, none⟩ = some (.int .i64 xq) ∧ w'.cell? ⟨q, u * 7 + 6, none⟩ = some (.int .i64 xp)) (go_keep) (first
        | (go_at_call 37; refine F2.mono ?_; rintro e w2 ⟨rfl, m2, rfl⟩))
      go_wp2_with fail
      go_roundw
      case rel => exact ⟨k + 1, by simp, by omega, (HN.out _ (below_drewN _ _ _)).2, (HN.out _ (below_drewN _ _ _)).1⟩
      case measure => simp [RowKit.intOf]; omega
    · obtain rfl : k = n := by omega
      have t : ¬ (k : Int) < (k : Int) := by omega
      clear h
      go_wp2_with fail
      go_end0
      exact ⟨⟨_, rfl⟩, B, HI.out⟩
theorem info_thing : (Try.prog.info? 34).map (fun i => (i.zero, i.size, i.bytes)) = some (some (.agg #[.int .i64 0, .int .i64 0, .string ⟨#[]⟩, .string ⟨#[]⟩, .int .i64 0, .int .i64 0, .int .i64 0]), 7, 72) := by kernel_rfl
theorem run_make_things (K : Nat) (hK : K ≤ 1024) (w : World) : (Instr.makeSlice 50 (.int .i64 (K : Int)) (.int .i64 (K : Int))).run Try.prog w = .ok (.slice (some ⟨w.heap.size, 0, none⟩) K K) (w.alloc (.cells (madeCells #[.int .i64 0, .int .i64 0, .string ⟨#[]⟩, .string ⟨#[]⟩, .int .i64 0, .int .i64 0, .int .i64 0] (K * 7)) 34)) := by
  obtain ⟨i0, hi0, hz0, hzs, hzb⟩ := info_parts info_thing
  have := run_make (P := Try.prog) w 50 34 i0 _ Try.underlying50 hi0 hz0 .i64 .i64 (K : Int) (K : Int) (by omega) (by omega) (by rw [hzb]; omega) (by omega)
  rw [hzs, Int.toNat_natCast] at this
  exact this
theorem made_thing (K i : Nat) (h : i < K * 7) : ((madeCells #[.int .i64 0, .int .i64 0, .string ⟨#[]⟩, .string ⟨#[]⟩, .int .i64 0, .int .i64 0, .int .i64 0] (K * 7))[i]?).isSome = true := by
  simp [madeCells, h]
/-- A ring whose cells were laid anew. -/
theorem Rng.grown {w W : World} {p C f room n : Nat} {S : Option Addr} {g : Nat → Od} (h : Rng w p S C f room n g) (K : Nat) (hK : n < K) (hKr : K ≤ room) (B : But (fun k => k = w.heap.size) w W) (there : ∀ j, j < K * 7 → (W.cell? ⟨w.heap.size, j, none⟩).isSome = true) (things : ∀ j, j < n → Sev W w.heap.size (j * 7) (g j)) (thaw : ∀ j, W.frozen? ⟨w.heap.size, j, none⟩ = false) :
    Rng ((W.setCell ⟨p, 1, none⟩ (.slice (some ⟨w.heap.size, 0, none⟩) K K)).setCell ⟨p, 2, none⟩ (.int .i64 0)) p (some ⟨w.heap.size, 0, none⟩) K 0 room n g := by
  have hp := h.pthere
  have hne : ¬ p = w.heap.size := by omega
  have hcell := fun j => B.cell (o := j) hp hne
  refine ⟨?_, ?_, ?_, ?_, ?_, .inr ⟨_, rfl, fun e => hne e.symm, ⟨by omega, fun j hj => ?_, fun j => ?_, fun i hi => ?_⟩⟩, by omega, hKr, h.first, h.most⟩
  · rw [World.cell?_setCell_other _ _ _ _ (by simp), World.cell?_setCell_other _ _ _ _ (by simp), hcell]; exact h.croom
  · rw [World.cell?_setCell_other _ _ _ _ (by simp)]
    exact World.cell?_setCell_same' _ _ _ (by rw [hcell, h.ccells]; rfl)
  · refine World.cell?_setCell_same' _ _ _ ?_
    rw [World.cell?_setCell_other _ _ _ _ (by simp), hcell, h.cfirst]; rfl
  · rw [World.cell?_setCell_other _ _ _ _ (by simp), World.cell?_setCell_other _ _ _ _ (by simp), hcell]; exact h.csize
  · intro j; rw [World.frozen?_setCell, World.frozen?_setCell, B.frozen hp hne]; exact h.pthaw j
  · rw [World.cell?_setCell_other _ _ _ _ (by intro e; injection e with e1; exact hne e1), World.cell?_setCell_other _ _ _ _ (by intro e; injection e with e1; exact hne e1)]; exact there j hj
  · rw [World.frozen?_setCell, World.frozen?_setCell]; exact thaw j
  · intro r hr
    rw [World.cell?_setCell_other _ _ _ _ (by intro e; injection e with e1; exact hne e1), World.cell?_setCell_other _ _ _ _ (by intro e; injection e with e1; exact hne e1), Nat.zero_add, Nat.mod_eq_of_lt (by omega)]; exact things i hi r hr
set_option maxRecDepth 100000 in
set_option maxHeartbeats 4000000 in
theorem grow_at {w : World} {p C f room n : Nat} {S : Option Addr} {g : Nat → Od} (h : Rng w p S C f room n g) (K : Nat) (hK : n < K) (hKr : K ≤ room) (hmin : (K : Int) = min (2 * (n : Int) + 1) (room : Int)) :
    Calls Try.prog 36 #[.pointer (some ⟨p, 0, none⟩)] w fun e w' => (∃ v, e = .returned v) ∧ Rng w' p (some ⟨w.heap.size, 0, none⟩) K 0 room n g ∧ But (fun k => k = p) w w' := by
  have hrm := h.most
  have hmk := run_make_things K (by omega)
  have hcell := made_thing K
  obtain ⟨A, HA'⟩ : ∃ A, madeCells #[.int .i64 0, .int .i64 0, .string ⟨#[]⟩, .string ⟨#[]⟩, .int .i64 0, .int .i64 0, .int .i64 0] (K * 7) = A := ⟨_, rfl⟩
  rw [HA'] at hmk hcell
  have HC : Hid (∀ i, i < K * 7 → (A[i]?).isSome = true) := hcell
  clear HA' hcell
  have h1 := h.csize
  have h2 := h.croom
  have hpt := h.pthere
  have h3 := h.pthaw 1
  have h4 := h.pthaw 2
  have k1 := h.ccells
  have k2 := h.cfirst
  rw [hmin] at hmk
  have HM : Hid ((K : Int) = min (2 * (n : Int) + 1) (room : Int)) := hmin
  clear hmin
  go_enter Try.func36, Try.ntmps36
  go_wp2_with fail
  go_region
  go_wp2_with fail
  have A0 : Below w.heap.size w (w.alloc (.cells A 34)).drew := ((Below.refl _ w).alloc (Nat.le_refl _) _).drew
  have hno : ¬ own p S w.heap.size := fun e => by have := h.there e; omega
  have c0 : ∀ j, j < K * 7 → ((w.alloc (.cells A 34)).drew.cell? ⟨w.heap.size, j, none⟩).isSome = true := fun j hj => by
    show ((w.alloc (.cells A 34)).cell? ⟨w.heap.size, j, none⟩).isSome = true
    rw [World.cell?_alloc_at _ _ _ _ rfl]; exact HC.out j hj
  have f0 : ∀ j, (w.alloc (.cells A 34)).drew.frozen? ⟨w.heap.size, j, none⟩ = false := fun j => World.frozen?_alloc_at (w := w) A _ w.heap.size j rfl
  have F1 := lay_any (h.below A0) w.heap.size K (by omega) hno c0 f0
  have HP : Hid (∀ j, j < K * 7 → ((w.alloc (.cells A 34)).drew.cell? ⟨w.heap.size, j, none⟩).isSome = true) := c0
  clear c0 f0 hmk
  refine F1.mono ?_
  rintro e W ⟨⟨v, rfl⟩, BW, L⟩
  have B : But (fun k => k = w.heap.size) w W := (But.of_below A0).trans BW (fun _ _ e => e)
  have hne : ¬ p = w.heap.size := by omega
  have q1 := (B.cell (o := 1) hpt hne).trans k1
  have q2 := (B.cell (o := 2) hpt hne).trans k2
  have q3 := (B.frozen (o := 1) hpt hne).trans h3
  have q4 := (B.frozen (o := 2) hpt hne).trans h4
  have HG : Hid (Rng ((W.setCell ⟨p, 1, none⟩ (.slice (some ⟨w.heap.size, 0, none⟩) K K)).setCell ⟨p, 2, none⟩ (.int .i64 0)) p (some ⟨w.heap.size, 0, none⟩) K 0 room n g) :=
    h.grown K hK hKr B (fun j hj => by
      by_cases e : j < n * 7
      · have := L.done (j / 7) (by omega) (j % 7) (by omega)
        rw [show j / 7 * 7 + j % 7 = j by omega] at this
        rw [this]; rfl
      · rw [L.rest j (by omega)]; exact HP.out j hj) L.done L.thaw
  clear F1 L A0 BW
  go_wp2_with fail
  go_end0
  refine ⟨⟨_, rfl⟩, HG.out, ?_⟩
  have B' : But (fun k => k = p) w W := B.mono (fun i hi e => absurd e (by omega))
  exact But.setCell (S := fun k => k = p) (But.setCell (S := fun k => k = p) B' p 1 _ (fun _ => rfl)) p 2 _ (fun _ => rfl)
theorem grow_any {w : World} {p C f room n : Nat} {S : Option Addr} {g : Nat → Od} (h : Rng w p S C f room n g) (hn : n < room) :
    Calls Try.prog 36 #[.pointer (some ⟨p, 0, none⟩)] w fun e w' => (∃ v, e = .returned v) ∧ ∃ K, n < K ∧ Rng w' p (some ⟨w.heap.size, 0, none⟩) K 0 room n g ∧ But (fun k => k = p) w w' :=
  (grow_at h (min (2 * n + 1) room) (by omega) (by omega) (by omega)).mono fun _ _ ⟨h1, h2, h3⟩ => ⟨h1, _, by omega, h2, h3⟩
end Go.Proofs.Ytlgnbnojjfgfmaa.SN
