/-
  The contract of ring's Pop, at orders.
-/
import Derived.Test.YtlgnbnojjfgfmaaSnRingMove
namespace Go.Proofs.Ytlgnbnojjfgfmaa.SN
open Go.ChangeShapes Go.WideShapes Go.ChangeAt Go.RowKit Go.Lib

theorem put7_size (w : World) (b a : Nat) (x : Od) : w.heap.size ≤ (put7 w b a x).heap.size := (put7_but (S := fun _ => True) (But.refl _ w) b a x (fun _ => trivial)).size
/-- A ring with its first order gone. -/
theorem Rng.popped {w W : World} {p C f room n q : Nat} {g : Nat → Od} (h : Rng w p (some ⟨q, 0, none⟩) C f room (n + 1) g) (hq : q ≠ p) (Q : Held w q C f (n + 1) g) (hW : Below (put7 w q (f * 7) o0).heap.size (put7 w q (f * 7) o0) W) :
    Rng ((W.setCell ⟨p, 2, none⟩ (.int .i64 (((f + 1) % C : Nat) : Int))).setCell ⟨p, 3, none⟩ (.int .i64 (n : Int))) p (some ⟨q, 0, none⟩) C ((f + 1) % C) room n (fun i => g (i + 1)) := by
  have hf := Q.head
  have hfit := h.fits
  have hlt := Nat.mod_lt (f + 1) (show 0 < C by omega)
  have hsz := put7_size w q (f * 7) o0
  have hpt := h.pthere
  have hqt := Q.lt
  have cW : ∀ k j, k < w.heap.size → W.cell? ⟨k, j, none⟩ = (put7 w q (f * 7) o0).cell? ⟨k, j, none⟩ := fun k j hk => hW.cell (p := ⟨k, j, none⟩) (Nat.lt_of_lt_of_le hk hsz)
  have fW : ∀ k j, k < w.heap.size → W.frozen? ⟨k, j, none⟩ = w.frozen? ⟨k, j, none⟩ := fun k j hk => (hW.frozen (p := ⟨k, j, none⟩) (Nat.lt_of_lt_of_le hk hsz)).trans (put7_frozen _ _ _ _ _ _)
  have o1 : ∀ j, W.cell? ⟨p, j, none⟩ = w.cell? ⟨p, j, none⟩ := fun j => (cW p j hpt).trans (put7_out _ _ _ _ _ _ (.inl (Ne.symm hq)))
  have o2 : ∀ i j, (⟨p, i, none⟩ : Addr) ≠ ⟨q, j, none⟩ := fun i j e => by injection e with e1; exact hq e1.symm
  refine ⟨?_, ?_, ?_, ?_, ?_, .inr ⟨_, rfl, hq, ⟨hlt, fun j hj => ?_, fun j => ?_, fun i hi => ?_⟩⟩, by omega, h.capped, h.first, h.most⟩
  · rw [World.cell?_setCell_other _ _ _ _ (by simp), World.cell?_setCell_other _ _ _ _ (by simp), o1]; exact h.croom
  · rw [World.cell?_setCell_other _ _ _ _ (by simp), World.cell?_setCell_other _ _ _ _ (by simp), o1]; exact h.ccells
  · rw [World.cell?_setCell_other _ _ _ _ (by simp)]
    exact World.cell?_setCell_same' _ _ _ (by rw [o1, h.cfirst]; rfl)
  · exact World.cell?_setCell_same' _ _ _ (by rw [World.cell?_setCell_other _ _ _ _ (by simp), o1, h.csize]; rfl)
  · intro j; rw [World.frozen?_setCell, World.frozen?_setCell, fW _ _ hpt]; exact h.pthaw j
  · rw [World.cell?_setCell_other _ _ _ _ (o2 _ _), World.cell?_setCell_other _ _ _ _ (o2 _ _), cW _ _ hqt]
    exact put7_some _ _ _ _ (Q.there j hj)
  · rw [World.frozen?_setCell, World.frozen?_setCell, fW _ _ hqt]; exact Q.thaw j
  · intro r hr
    have e : ((f + 1) % C + i) % C = (f + (i + 1)) % C := by rw [Nat.mod_add_mod]; congr 1; omega
    have hne : (f + (i + 1)) % C ≠ f := fun e2 => by
      have h0 : (f + 0) % C = f := by rw [Nat.add_zero, Nat.mod_eq_of_lt hf]
      have := mod_one (C := C) (f := f) (i := 0) (n := i + 1) (by omega) (by omega) (by rw [h0]; exact e2.symm)
      omega
    rw [e, World.cell?_setCell_other _ _ _ _ (o2 _ _), World.cell?_setCell_other _ _ _ _ (o2 _ _), cW _ _ hqt, put7_out _ _ _ _ _ _ (.inr (by omega))]
    exact Q.things (i + 1) (by omega) r hr
/-- A block that may be written, with an order. -/
structure Bx (w : World) (b : Nat) (x : Od) : Prop where
  sev : Sev w b 0 x
  thaw : ∀ j, w.frozen? ⟨b, j, none⟩ = false
theorem Bx.kept {T : Nat → Prop} {w w' : World} {b : Nat} {x : Od} (h : Bx w b x) (k : But T w w') (hb : ¬ T b) : Bx w' b x := ⟨h.sev.kept k hb, fun j => (k.frozen h.sev.lt hb).trans (h.thaw j)⟩
theorem Bx.below {w w' : World} {b : Nat} {x : Od} (h : Bx w b x) (k : Below w.heap.size w w') : Bx w' b x := h.kept (T := fun _ => False) (But.of_below k) id
theorem Bx.new (w : World) (x : Od) (t : TypeId) : Bx (w.alloc (.cells #[.int .i64 x.k, .int .i64 x.s, .string x.i, .string x.y, .int .i64 x.d, .int .i64 x.q, .int .i64 x.p] t)) w.heap.size x := ⟨boxO_sev w x t, fun j => by simp⟩
theorem Bx.thaws {w : World} {b : Nat} {x : Od} (h : Bx w b x) : w.frozen? ⟨b, 0, none⟩ = false ∧ w.frozen? ⟨b, 1, none⟩ = false ∧ w.frozen? ⟨b, 2, none⟩ = false ∧ w.frozen? ⟨b, 3, none⟩ = false ∧ w.frozen? ⟨b, 4, none⟩ = false ∧ w.frozen? ⟨b, 5, none⟩ = false ∧ w.frozen? ⟨b, 6, none⟩ = false := ⟨h.thaw 0, h.thaw 1, h.thaw 2, h.thaw 3, h.thaw 4, h.thaw 5, h.thaw 6⟩
/-- An order put into a block of its own. -/
def put0 (w : World) (b : Nat) (x : Od) : World := ((((((w.setCell ⟨b, 0, none⟩ (.int .i64 x.k)).setCell ⟨b, 1, none⟩ (.int .i64 x.s)).setCell ⟨b, 2, none⟩ (.string x.i)).setCell ⟨b, 3, none⟩ (.string x.y)).setCell ⟨b, 4, none⟩ (.int .i64 x.d)).setCell ⟨b, 5, none⟩ (.int .i64 x.q)).setCell ⟨b, 6, none⟩ (.int .i64 x.p)
theorem put0_eq (w : World) (b : Nat) (x : Od) : put0 w b x = put7 w b 0 x := rfl
theorem Bx.put {w : World} {b : Nat} {x : Od} (h : Bx w b x) (y : Od) : Bx (put0 w b y) b y :=
  ⟨by rw [put0_eq]; exact put7_in _ _ _ _ (fun j hj => by rw [h.sev j hj]; rfl), fun j => by rw [put0_eq, put7_frozen]; exact h.thaw j⟩
theorem put0_but {S : Nat → Prop} {v w : World} (h : But S v w) (b : Nat) (x : Od) (hb : b < v.heap.size → S b) : But S v (put0 w b x) := by rw [put0_eq]; exact put7_but h b 0 x hb
theorem cell_drawn (p C f b : Nat) (S : Option Addr) (w : World) (hC : 0 < C) (hf : f ≤ 4096) (hb : b ≤ 4096) (h1 : w.cell? ⟨p, 1, none⟩ = some (.slice S C C)) (h2 : w.cell? ⟨p, 2, none⟩ = some (.int .i64 (f : Int))) (m0 : Nat) :
    Calls Try.prog 37 #[.pointer (some ⟨p, 0, none⟩), .int .i64 (b : Int)] (w.drewN m0) fun e w' => e = .returned (.int .i64 (((f + b) % C : Nat) : Int)) ∧ ∃ m, w' = (w.drewN m0).drewN m :=
  cell_any p C f b S (w.drewN m0) hC hf hb h1 h2
theorem Bx.gave {w w1 : World} {x : Od} (h : Bx w1 w.heap.size x) (B : Below w.heap.size w w1) (y : Od) : Bx (put0 w1 w.heap.size y) w.heap.size y ∧ Below w.heap.size w (put0 w1 w.heap.size y) :=
  ⟨h.put y, (put0_but (But.of_below (S := fun k => k = w.heap.size) B) _ _ (fun _ => rfl)).below (Nat.le_refl _) (fun _ e => Nat.le_of_eq e.symm)⟩
theorem below1 (w : World) (o : Obj) : Below w.heap.size w (w.alloc o) := (Below.refl _ _).alloc (Nat.le_refl _) _
set_option maxRecDepth 100000 in
set_option maxHeartbeats 4000000 in
theorem pop_none {w : World} {p C f room : Nat} {S : Option Addr} {g : Nat → Od} (h : Rng w p S C f room 0 g) :
    Calls Try.prog 29 #[.pointer (some ⟨p, 0, none⟩)] w fun e w' => e = .returned (.tuple #[oV o0, .int .i64 50]) ∧ Below w.heap.size w w' := by
  have B0 : Below w.heap.size w (w.alloc (.cells #[.int .i64 0, .int .i64 0, .string ⟨#[]⟩, .string ⟨#[]⟩, .int .i64 0, .int .i64 0, .int .i64 0] 34)) := below1 _ _
  have F1 := peek_none (h.below B0)
  have hx : Bx (w.alloc (.cells #[.int .i64 0, .int .i64 0, .string ⟨#[]⟩, .string ⟨#[]⟩, .int .i64 0, .int .i64 0, .int .i64 0] 34)) w.heap.size o0 := Bx.new w o0 34
  have F1' : Calls Try.prog 38 #[.pointer (some ⟨p, 0, none⟩)] (w.alloc (.cells #[.int .i64 0, .int .i64 0, .string ⟨#[]⟩, .string ⟨#[]⟩, .int .i64 0, .int .i64 0, .int .i64 0] 34)) fun e w' => e = .returned (.tuple #[.agg #[.int .i64 0, .int .i64 0, .string ⟨#[]⟩, .string ⟨#[]⟩, .int .i64 0, .int .i64 0, .int .i64 0], .int .i64 50]) ∧ Hid (Bx w' w.heap.size o0 ∧ Below w.heap.size w w') :=
    F1.mono fun _ _ ⟨he, b⟩ => ⟨he, hx.below b, B0.trans (b.mono B0.size)⟩
  clear h F1 hx B0
  go_enter Try.func29, Try.ntmps29
  go_wp2_with fail
  refine F1'.mono ?_
  rintro e w1 ⟨rfl, HP⟩
  clear F1'
  obtain ⟨c0, c1, c2, c3, c4, c5, c6⟩ := HP.out.1.sev.all0
  obtain ⟨f0, f1, f2, f3, f4, f5, f6⟩ := HP.out.1.thaws
  simp only [o0] at c0 c1 c2 c3 c4 c5 c6
  have hlt := HP.out.1.sev.lt
  have hne : ¬ w.heap.size = w1.heap.size := by omega
  have hne' : ¬ w1.heap.size = w.heap.size := by omega
  have HQ := HP.out.1.gave HP.out.2 o0
  simp only [put0, o0] at HQ
  go_wp2_with fail
  generalize hW : World.setCell _ ⟨w.heap.size, 6, none⟩ _ = W at HQ ⊢
  obtain ⟨g0, g1, g2, g3, g4, g5, g6⟩ := HQ.1.sev.all0
  simp only at g0 g1 g2 g3 g4 g5 g6
  have ly := HQ.1.sev.lt
  refine bodyPost_ret (v := .tuple #[oV o0, .int .i64 50]) (by simp [results, Try.results29, go_sem, o0, g0, g1, g2, g3, g4, g5, g6, ly]) rfl ⟨rfl, ?_⟩
  exact HQ.2.alloc HQ.2.size _
set_option maxRecDepth 100000 in
set_option maxHeartbeats 4000000 in
theorem pop_some {w : World} {p C f room n : Nat} {S : Option Addr} {g : Nat → Od} (h : Rng w p S C f room (n + 1) g) :
    Calls Try.prog 29 #[.pointer (some ⟨p, 0, none⟩)] w fun e w' => e = .returned (.tuple #[oV (g 0), .int .i64 0]) ∧ ∃ f', Rng w' p S C f' room n (fun i => g (i + 1)) ∧ But (own p S) w w' := by
  have B0 : Below w.heap.size w (w.alloc (.cells #[.int .i64 0, .int .i64 0, .string ⟨#[]⟩, .string ⟨#[]⟩, .int .i64 0, .int .i64 0, .int .i64 0] 34)) := below1 _ _
  have F1 := peek_some (h.below B0) (by omega)
  have hx : Bx (w.alloc (.cells #[.int .i64 0, .int .i64 0, .string ⟨#[]⟩, .string ⟨#[]⟩, .int .i64 0, .int .i64 0, .int .i64 0] 34)) w.heap.size o0 := Bx.new w o0 34
  have F1' : Calls Try.prog 38 #[.pointer (some ⟨p, 0, none⟩)] (w.alloc (.cells #[.int .i64 0, .int .i64 0, .string ⟨#[]⟩, .string ⟨#[]⟩, .int .i64 0, .int .i64 0, .int .i64 0] 34)) fun e w' => e = .returned (.tuple #[oV (g 0), .int .i64 0]) ∧ Hid (Rng w' p S C f room (n + 1) g ∧ Bx w' w.heap.size o0 ∧ Below w.heap.size w w') :=
    F1.mono fun _ _ ⟨he, b⟩ => ⟨he, (h.below B0).below b, hx.below b, B0.trans (b.mono B0.size)⟩
  have HT : Hid (∀ k, own p S k → k < w.heap.size) := fun k hk => h.there hk
  have hfit := h.fits
  have hcr := h.capped
  have hrm := h.most
  clear h F1 hx B0
  obtain ⟨x, hx⟩ : ∃ x, g 0 = x := ⟨_, rfl⟩
  rw [hx] at F1' ⊢
  clear hx
  obtain ⟨xk, xs, xi, xy, xd, xq, xp⟩ := x
  dsimp only [oV] at F1'
  go_enter Try.func29, Try.ntmps29
  go_wp2_with fail
  refine F1'.mono ?_
  rintro e w1 ⟨rfl, HP⟩
  clear F1'
  have B1 : Below w1.heap.size w1 ((w1.alloc (.cells #[.int .i64 xk, .int .i64 xs, .string xi, .string xy, .int .i64 xd, .int .i64 xq, .int .i64 xp] 34)).alloc (.cells #[.int .i64 0, .int .i64 0, .string ⟨#[]⟩, .string ⟨#[]⟩, .int .i64 0, .int .i64 0, .int .i64 0] 34)) := below2 _ _ _
  have HP3 : Hid (Rng ((w1.alloc (.cells #[.int .i64 xk, .int .i64 xs, .string xi, .string xy, .int .i64 xd, .int .i64 xq, .int .i64 xp] 34)).alloc (.cells #[.int .i64 0, .int .i64 0, .string ⟨#[]⟩, .string ⟨#[]⟩, .int .i64 0, .int .i64 0, .int .i64 0] 34)) p S C f room (n + 1) g ∧ Bx ((w1.alloc (.cells #[.int .i64 xk, .int .i64 xs, .string xi, .string xy, .int .i64 xd, .int .i64 xq, .int .i64 xp] 34)).alloc (.cells #[.int .i64 0, .int .i64 0, .string ⟨#[]⟩, .string ⟨#[]⟩, .int .i64 0, .int .i64 0, .int .i64 0] 34)) w.heap.size o0 ∧ Below w.heap.size w ((w1.alloc (.cells #[.int .i64 xk, .int .i64 xs, .string xi, .string xy, .int .i64 xd, .int .i64 xq, .int .i64 xp] 34)).alloc (.cells #[.int .i64 0, .int .i64 0, .string ⟨#[]⟩, .string ⟨#[]⟩, .int .i64 0, .int .i64 0, .int .i64 0] 34)) ∧ Bx ((w1.alloc (.cells #[.int .i64 xk, .int .i64 xs, .string xi, .string xy, .int .i64 xd, .int .i64 xq, .int .i64 xp] 34)).alloc (.cells #[.int .i64 0, .int .i64 0, .string ⟨#[]⟩, .string ⟨#[]⟩, .int .i64 0, .int .i64 0, .int .i64 0] 34)) w1.heap.size ⟨xk, xs, xi, xy, xd, xq, xp⟩ ∧ Bx ((w1.alloc (.cells #[.int .i64 xk, .int .i64 xs, .string xi, .string xy, .int .i64 xd, .int .i64 xq, .int .i64 xp] 34)).alloc (.cells #[.int .i64 0, .int .i64 0, .string ⟨#[]⟩, .string ⟨#[]⟩, .int .i64 0, .int .i64 0, .int .i64 0] 34)) (w1.heap.size + 1) o0) := by
    refine ⟨HP.out.1.below B1, HP.out.2.1.below B1, HP.out.2.2.trans (B1.mono HP.out.2.2.size), (Bx.new w1 ⟨xk, xs, xi, xy, xd, xq, xp⟩ 34).below (below1 _ _), ?_⟩
    have := Bx.new (w1.alloc (.cells #[.int .i64 xk, .int .i64 xs, .string xi, .string xy, .int .i64 xd, .int .i64 xq, .int .i64 xp] 34)) o0 34
    rw [show (w1.alloc (.cells #[.int .i64 xk, .int .i64 xs, .string xi, .string xy, .int .i64 xd, .int .i64 xq, .int .i64 xp] 34)).heap.size = w1.heap.size + 1 by simp] at this
    exact this
  have hs1 := HP.out.2.1.sev.lt
  clear HP B1
  go_wp2_with fail
  generalize hW : World.alloc (World.alloc w1 _) _ = w3 at HP3 ⊢
  clear hW
  obtain ⟨q, rfl, hq, Q⟩ := HP3.out.1.got (by omega)
  have h1 := HP3.out.1.ccells
  have h2 := HP3.out.1.cfirst
  have h3 := HP3.out.1.csize
  have z2 := HP3.out.1.pthaw 2
  have z3 := HP3.out.1.pthaw 3
  have hfC := Q.head
  have t3 : (f : Int) < (C : Int) := by omega
  have hs : ∀ j, j < 7 → (w3.cell? ⟨q, f * 7 + j, none⟩).isSome = true := fun j hj => Q.there _ (by omega)
  have HQ : Hid (∀ j, w3.frozen? ⟨q, j, none⟩ = false) := Q.thaw
  obtain ⟨old0, ho0⟩ := Option.isSome_iff_exists.1 (hs 0 (by omega))
  have fo0 := HQ.out (f * 7)
  obtain ⟨old1, ho1⟩ := Option.isSome_iff_exists.1 (hs 1 (by omega))
  have fo1 := HQ.out (f * 7 + 1)
  obtain ⟨old2, ho2⟩ := Option.isSome_iff_exists.1 (hs 2 (by omega))
  have fo2 := HQ.out (f * 7 + 2)
  obtain ⟨old3, ho3⟩ := Option.isSome_iff_exists.1 (hs 3 (by omega))
  have fo3 := HQ.out (f * 7 + 3)
  obtain ⟨old4, ho4⟩ := Option.isSome_iff_exists.1 (hs 4 (by omega))
  have fo4 := HQ.out (f * 7 + 4)
  obtain ⟨old5, ho5⟩ := Option.isSome_iff_exists.1 (hs 5 (by omega))
  have fo5 := HQ.out (f * 7 + 5)
  obtain ⟨old6, ho6⟩ := Option.isSome_iff_exists.1 (hs 6 (by omega))
  have fo6 := HQ.out (f * 7 + 6)
  rw [Nat.add_zero] at ho0
  have hqr := HT.out q (.inr rfl)
  have hpr := HT.out p (.inl rfl)
  have hqp : ¬ q = p := hq
  have hqp' : ¬ p = q := fun e => hq e.symm
  have n1 : ¬ q = w.heap.size := by omega
  have n2 : ¬ q = w1.heap.size := by omega
  have n3 : ¬ q = w1.heap.size + 1 := by omega
  have n4 : ¬ p = w.heap.size := by omega
  have n5 : ¬ p = w1.heap.size := by omega
  have n6 : ¬ p = w1.heap.size + 1 := by omega
  have n7 : ¬ w.heap.size = w1.heap.size := by omega
  have n8 : ¬ w1.heap.size = w.heap.size := by omega
  obtain ⟨c0, c1, c2, c3, c4, c5, c6⟩ := HP3.out.2.2.2.1.sev.all0
  obtain ⟨d0, d1, d2, d3, d4, d5, d6⟩ := HP3.out.2.2.2.2.sev.all0
  obtain ⟨r0, r1, r2, r3, r4, r5, r6⟩ := HP3.out.2.1.sev.all0
  obtain ⟨f0, f1, f2, f3, f4, f5, f6⟩ := HP3.out.2.1.thaws
  simp only [o0] at c0 c1 c2 c3 c4 c5 c6 d0 d1 d2 d3 d4 d5 d6 r0 r1 r2 r3 r4 r5 r6
  have o1 : ∀ j, (put7 w3 q (f * 7) o0).cell? ⟨p, j, none⟩ = w3.cell? ⟨p, j, none⟩ := fun j => put7_out _ _ _ _ _ _ (.inl (Ne.symm hq))
  have F2 := cell_drawn p C f 1 (some ⟨q, 0, none⟩) (put7 w3 q (f * 7) o0) (by omega) (by omega) (by omega) ((o1 1).trans h1) ((o1 2).trans h2)
  have HR : Hid (∀ W, Below (put7 w3 q (f * 7) o0).heap.size (put7 w3 q (f * 7) o0) W → (Rng (put0 ((W.setCell ⟨p, 2, none⟩ (.int .i64 (((f + 1) % C : Nat) : Int))).setCell ⟨p, 3, none⟩ (.int .i64 (n : Int))) w.heap.size ⟨xk, xs, xi, xy, xd, xq, xp⟩) p (some ⟨q, 0, none⟩) C ((f + 1) % C) room n (fun i => g (i + 1)) ∧ But (own p (some ⟨q, 0, none⟩)) w (put0 ((W.setCell ⟨p, 2, none⟩ (.int .i64 (((f + 1) % C : Nat) : Int))).setCell ⟨p, 3, none⟩ (.int .i64 (n : Int))) w.heap.size ⟨xk, xs, xi, xy, xd, xq, xp⟩)) ∧ Bx (put0 ((W.setCell ⟨p, 2, none⟩ (.int .i64 (((f + 1) % C : Nat) : Int))).setCell ⟨p, 3, none⟩ (.int .i64 (n : Int))) w.heap.size ⟨xk, xs, xi, xy, xd, xq, xp⟩) w.heap.size ⟨xk, xs, xi, xy, xd, xq, xp⟩) := fun W hW => by
    have R := HP3.out.1.popped hq Q hW
    have BA : But (own p (some ⟨q, 0, none⟩)) w3 W := (put7_but (But.refl _ _) q (f * 7) o0 (fun _ => .inr rfl)).trans (But.of_below (S := fun _ => False) hW) (fun _ _ e => e.elim)
    have BC := (BA.setCell p 2 (.int .i64 (((f + 1) % C : Nat) : Int)) (fun _ => .inl rfl)).setCell p 3 (.int .i64 (n : Int)) (fun _ => .inl rfl)
    have BB := (But.of_below (S := own p (some ⟨q, 0, none⟩)) HP3.out.2.2.1).trans BC (fun _ _ e => e)
    have hno : ¬ own p (some ⟨q, 0, none⟩) w.heap.size := fun e => by have := HT.out _ e; omega
    have X := (HP3.out.2.1.kept BC hno).put ⟨xk, xs, xi, xy, xd, xq, xp⟩
    exact ⟨⟨R.kept (put0_but (S := fun k => k = w.heap.size) (But.refl _ _) _ _ (fun _ => rfl)) (fun i hi e => hno (e ▸ hi)), put0_but BB _ _ (fun hlt => absurd hlt (by omega))⟩, X⟩
  obtain ⟨u, hu⟩ : ∃ u, (f + 1) % C = u := ⟨_, rfl⟩
  rw [hu] at F2 HR
  simp only [put7, put0, o0] at HR F2
  clear hu Q o1 hs HP3 HQ
  go_region
  go_wp2_with fail
  refine (F2 _).mono ?_
  rintro e w2 ⟨rfl, m2, rfl⟩
  go_wp2_with fail
  have HV := HR.out _ (below_drewN _ (1 + m2) _)
  generalize hV : World.setCell _ ⟨w.heap.size, 6, none⟩ _ = V at HV ⊢
  obtain ⟨g0, g1, g2, g3, g4, g5, g6⟩ := HV.2.sev.all0
  simp only at g0 g1 g2 g3 g4 g5 g6
  refine bodyPost_ret (v := .tuple #[oV ⟨xk, xs, xi, xy, xd, xq, xp⟩, .int .i64 0]) (by simp [results, Try.results29, go_sem, g0, g1, g2, g3, g4, g5, g6]) rfl ⟨rfl, _, HV.1⟩
end Go.Proofs.Ytlgnbnojjfgfmaa.SN
