/-
  Contract of router's round, for each of the two functions that it is handed.
-/
import Derived.Test.YtbjibmfehphffaaRoShares
import Derived.Deep.RegionHeld3
namespace Go.Proofs.Ytbjibmfehphffaa.RO
open Go.ChangeShapes Go.WideShapes Go.ChangeAt Go.RowKit

/-- A share's cells. -/
def cS (x : Sh) (j : Nat) : Value := if j = 0 then .int .i64 x.pl else if j = 1 then .int .i64 x.sh else if j = 2 then .int .i64 x.st else .int .i64 x.gt
def Fou (w : World) (b a : Nat) (x : Sh) : Prop := ∀ j, j < 4 → w.cell? ⟨b, a + j, none⟩ = some (cS x j)
theorem Fou.all {w : World} {b a : Nat} {x : Sh} (h : Fou w b a x) : w.cell? ⟨b, a, none⟩ = some (.int .i64 x.pl) ∧ w.cell? ⟨b, a + 1, none⟩ = some (.int .i64 x.sh) ∧ w.cell? ⟨b, a + 2, none⟩ = some (.int .i64 x.st) ∧ w.cell? ⟨b, a + 3, none⟩ = some (.int .i64 x.gt) :=
  ⟨h 0 (by omega), h 1 (by omega), h 2 (by omega), h 3 (by omega)⟩
/-- Block g, which may be written, holds shares. -/
structure ShG (w : World) (g : Nat) (xs : List Sh) : Prop where
  cell : ∀ i x, xs[i]? = some x → Fou w g (i * 4) x
  thaw : ∀ j, w.frozen? ⟨g, j, none⟩ = false
  lt : g < w.heap.size
theorem ShG.kept {T : Nat → Prop} {w w' : World} {g : Nat} {xs : List Sh} (h : ShG w g xs) (k : But T w w') (hb : ¬ T g) : ShG w' g xs :=
  ⟨fun i x hx j hj => (k.cell h.lt hb).trans (h.cell i x hx j hj), fun j => (k.frozen h.lt hb).trans (h.thaw j), Nat.lt_of_lt_of_le h.lt k.size⟩
theorem ShG.below {w w' : World} {g : Nat} {xs : List Sh} (h : ShG w g xs) (k : Below w.heap.size w w') : ShG w' g xs := h.kept (T := fun _ => False) (But.of_below k) id
/-- One more was got at place i. -/
theorem ShG.set {w : World} {g : Nat} {ys zs : List Sh} {x : Sh} (h : ShG w g (ys ++ x :: zs)) (z : Int) (W : World) (hW : Below w.heap.size w W) :
    ShG (W.setCell ⟨g, ys.length * 4 + 3, none⟩ (.int .i64 z)) g ((ys ++ [⟨x.pl, x.sh, x.st, z⟩]) ++ zs) ∧ But (fun k => k = g) w (W.setCell ⟨g, ys.length * 4 + 3, none⟩ (.int .i64 z)) := by
  have hB : But (fun k => k = g) w (W.setCell ⟨g, ys.length * 4 + 3, none⟩ (.int .i64 z)) := But.setCell (S := fun k => k = g) (But.of_below hW) g _ _ (fun _ => rfl)
  have k := h.below hW
  have hx : (ys ++ x :: zs)[ys.length]? = some x := by simp
  refine ⟨⟨fun i y hy j hj => ?_, fun j => by rw [World.frozen?_setCell]; exact k.thaw j, by simpa using k.lt⟩, hB⟩
  have ne : ∀ i j, j < 4 → (i ≠ ys.length ∨ j ≠ 3) → (⟨g, ys.length * 4 + 3, none⟩ : Addr) ≠ ⟨g, i * 4 + j, none⟩ := fun i j hj h e => by
    injection e with _ e2
    rcases h with h | h <;> omega
  rw [List.append_assoc] at hy
  by_cases ei : i = ys.length
  · subst ei
    have ey : y = ⟨x.pl, x.sh, x.st, z⟩ := by simpa using hy.symm
    subst ey
    by_cases ej : j = 3
    · subst ej
      rw [World.cell?_setCell_same' _ _ _ (by rw [k.cell _ x hx 3 (by omega)]; rfl)]
      rfl
    · rw [World.cell?_setCell_other _ _ _ _ (ne _ _ hj (.inr ej)), k.cell _ x hx j hj]
      rcases (show j = 0 ∨ j = 1 ∨ j = 2 by omega) with rfl | rfl | rfl <;> rfl
  · rw [World.cell?_setCell_other _ _ _ _ (ne _ _ hj (.inl ei))]
    refine k.cell i y ?_ j hj
    rw [← hy]
    rcases Nat.lt_or_ge i ys.length with c | c
    · rw [List.getElem?_append_left c, List.getElem?_append_left c]
    · rw [List.getElem?_append_right c, List.getElem?_append_right c]
      obtain ⟨m, hm⟩ : ∃ m, i - ys.length = m + 1 := ⟨i - ys.length - 1, by omega⟩
      rw [hm]
      simp
theorem ShG.get {w : World} {g : Nat} {ys zs : List Sh} {x : Sh} (h : ShG w g (ys ++ x :: zs)) : Fou w g (ys.length * 4) x := h.cell _ _ (by simp)
/-- The slice value v is a list of shares in a block from B on. -/
def Shs (B : Nat) (w : World) (v : Value) (xs : List Sh) : Prop := (xs = [] ∧ v = .slice none 0 0) ∨ ∃ g cap, v = .slice (some ⟨g, 0, none⟩) xs.length cap ∧ B ≤ g ∧ ShG w g xs
theorem shs_of_own {w : World} {B : Nat} {v : Value} {xs : List Sh} (h : w.ownsRow B 66 4 v xs.length (allS xs)) : Shs B w v xs := by
  have hcs := fun g hg => h.cells (g := g) hg
  rcases h.2 with ⟨rfl, e⟩ | ⟨g, cap, cur, rfl, hb, hg, _⟩
  · exact .inl ⟨List.eq_nil_of_length_eq_zero e, rfl⟩
  · refine .inr ⟨g, cap, rfl, hb, fun i x hx j hj => ?_, fun j => by simp [World.frozen?, hg], (Array.getElem?_eq_some_iff.1 hg).1⟩
    have := hcs g rfl (i * 4 + j) (cS x j) (by
      rw [allS_at xs i j x hx hj]
      rcases (show j = 0 ∨ j = 1 ∨ j = 2 ∨ j = 3 by omega) with rfl | rfl | rfl | rfl <;> rfl)
    rw [Addr.add_lit, Nat.zero_add] at this
    exact this
theorem clos1_any (x0 x1 x2 x3 : Int) (w : World) : Calls Try.prog 34 #[.agg #[.int .i64 x0, .int .i64 x1, .int .i64 x2, .int .i64 x3]] w fun e w' => e = .returned (.int .i64 x1) ∧ Below w.heap.size w w' := by
  go_enter Try.func34, Try.ntmps34
  go_wp2
  go_ret
  exact ⟨rfl, (Below.refl _ _).alloc (Nat.le_refl _) _⟩
theorem clos2_any (x0 x1 x2 x3 z : Int) (p : Nat) (w : World) (hc : w.cell? ⟨p, 0, none⟩ = some (.int .i64 z)) : Calls Try.prog 35 #[.agg #[.int .i64 x0, .int .i64 x1, .int .i64 x2, .int .i64 x3], .pointer (some ⟨p, 0, none⟩)] w fun e w' => e = .returned (.int .i64 z) ∧ Below w.heap.size w w' := by
  have n : p < w.heap.size := World.block_lt_of_cell? _ _ hc
  go_enter Try.func35, Try.ntmps35
  go_wp2
  go_ret
  exact ⟨rfl, (Below.refl _ _).alloc (Nat.le_refl _) _⟩
theorem give_ok {u : Sh → Int} {l : Int} {x : Sh} (h : ShOk x) (hl : 0 ≤ l) (hu : 0 ≤ u x) : flE (min (u x) l) x.st = 0 := by
  have := h.st1
  unfold flE
  rw [if_neg (by unfold stepBad; omega)]
theorem round1_nil (w : World) (l : Int) : Calls Try.prog 33 #[.slice none 0 0, .int .i64 l, .func (.func 34) #[] #[]] w fun e w' => e = .returned (.int .i64 l) ∧ w = w' := by
  go_enter Try.func33, Try.ntmps33
  go_wp2_with fail
  refine wp_loop_rounds 1 ?_
  rw [rounds_succ]
  go_wp2_with fail
  go_ret
  exact ⟨rfl, rfl⟩
set_option maxRecDepth 100000 in
set_option maxHeartbeats 4000000 in
theorem round1_any (xs : List Sh) (g cap : Nat) (l0 : Int) (w : World) (h : ShG w g xs) (hok : ∀ x ∈ xs, ShOk x ∧ x.gt = 0) (hn : xs.length ≤ 1000) (h0 : 0 ≤ l0) (h1 : l0 ≤ 1099511627776) :
    Calls Try.prog 33 #[.slice (some ⟨g, 0, none⟩) xs.length cap, .int .i64 l0, .func (.func 34) #[] #[]] w fun e w' => e = .returned (.int .i64 (rndZ shn l0 xs)) ∧ Hid (ShG w' g (rndL shn l0 xs) ∧ But (fun k => k = g) w w') := by
  have HOK : Hid (∀ x ∈ xs, ShOk x ∧ x.gt = 0) := hok
  have HH : Hid (ShG w g xs) := h
  clear h hok
  go_enter Try.func33, Try.ntmps33
  go_wp2_with fail
  go_loopw [1, 13] (fun y x wr => ∃ (l : Int) (ys zs : List Sh), y = .int .i64 l ∧ x = .int .i64 (ys.length : Int) ∧ 0 ≤ l ∧ l ≤ 1099511627776 ∧ Hid (ys.length + zs.length = xs.length ∧ (∀ x ∈ zs, x ∈ xs) ∧ rndL shn l0 xs = ys ++ rndL shn l zs ∧ rndZ shn l0 xs = rndZ shn l zs ∧ ShG wr g (ys ++ zs) ∧ But (fun k => k = g) w wr)) (fun _ x _ => xs.length - (RowKit.intOf x).toNat)
  case atStart => exact ⟨l0, [], xs, rfl, rfl, h0, h1, by simp, fun _ h => h, rfl, rfl, HH.out, But.refl _ _⟩
  case round =>
    obtain ⟨l, ys, zs, rfl, rfl, hl0, hl1, HI⟩ := hrel
    cases zs with
    | nil =>
      have t : ¬ (ys.length : Int) < (xs.length : Int) := by have := HI.out.1; simp at this; omega
      have HR : Hid (rndZ shn l0 xs = l) := HI.out.2.2.2.1
      go_wp2_with fail
      go_ret
      exact ⟨by rw [HR.out]; rfl, by have := HI.out.2.2.1; rw [this]; exact HI.out.2.2.2.2.1, HI.out.2.2.2.2.2⟩
    | cons x zs =>
      have hle : ys.length + zs.length + 1 = xs.length := by have := HI.out.1; simp at this; omega
      have t : (ys.length : Int) < (xs.length : Int) := by omega
      have ok := HOK.out x (HI.out.2.1 x (by simp))
      have hc := HI.out.2.2.2.2.1.get
      have hz := fun j => HI.out.2.2.2.2.1.thaw j
      have hlt := HI.out.2.2.2.2.1.lt
      have hu : 0 ≤ shn x := ok.1.sh1
      have bd := give_bd (u := shn) ok.1 hl0 hu
      have fe := give_ok (u := shn) ok.1 hl0 hu
      have F := fun w => floor_any (min (shn x) l) x.st w (by have := ok.1.sh2; omega) (by have := ok.1.st2; omega)
      rw [fe] at F
      have hg1 := ok.1.gt1
      have hg2 := ok.2
      have HSET := fun z W hW => HI.out.2.2.2.2.1.set z W hW
      have e1 : rndL shn l (x :: zs) = ⟨x.pl, x.sh, x.st, x.gt + give shn l x⟩ :: rndL shn (l - give shn l x) zs := rfl
      have e2 : rndZ shn l (x :: zs) = rndZ shn (l - give shn l x) zs := rfl
      have hgv : flN (min (shn x) l) x.st = give shn l x := rfl
      rw [hgv] at F
      obtain ⟨b0, b1, _, _, _⟩ := bd
      generalize give shn l x = N at *
      have HN : Hid (rndL shn l0 xs = (ys ++ [⟨x.pl, x.sh, x.st, x.gt + N⟩]) ++ rndL shn (l - N) zs ∧ rndZ shn l0 xs = rndZ shn (l - N) zs ∧ (∀ y ∈ zs, y ∈ xs)) := by
        refine ⟨?_, HI.out.2.2.2.1.trans e2, fun y hy => HI.out.2.1 y (List.mem_cons_of_mem _ hy)⟩
        rw [HI.out.2.2.1, e1]
        simp
      have HS : Hid (∀ z W, Below wr.heap.size wr W → ShG (W.setCell ⟨g, ys.length * 4 + 3, none⟩ (.int .i64 z)) g ((ys ++ [⟨x.pl, x.sh, x.st, z⟩]) ++ zs) ∧ But (fun k => k = g) wr (W.setCell ⟨g, ys.length * 4 + 3, none⟩ (.int .i64 z))) := HSET
      have HB : Hid (But (fun k => k = g) w wr) := HI.out.2.2.2.2.2
      clear HSET e1 e2 hgv fe HI ok hu HOK HH
      obtain ⟨x0, x1, x2, x3⟩ := x
      obtain ⟨c0, c1, c2, c3⟩ := hc.all
      clear hc
      simp only [shn] at c0 c1 c2 c3 F hg1 hg2 HN HS
      subst hg2
      have keep : ∀ {W : World} {q o : Nat} {v : Value}, q < wr.heap.size → Below wr.drew.heap.size wr.drew W → wr.cell? ⟨q, o, none⟩ = some v → W.cell? ⟨q, o, none⟩ = some v := fun hq hb hc => (hb.cell (p := ⟨_, _, none⟩) hq).trans hc
      have F1 := fun w => clos1_any x0 x1 x2 0 w
      go_wp2_with fail
      go_region_held3 (fun w' => w'.cell? ⟨g, ys.length * 4, none⟩ = some (.int .i64 x0) ∧ w'.cell? ⟨g, ys.length * 4 + 1, none⟩ = some (.int .i64 x1) ∧ w'.cell? ⟨g, ys.length * 4 + 2, none⟩ = some (.int .i64 x2) ∧ w'.cell? ⟨g, ys.length * 4 + 3, none⟩ = some (.int .i64 0)) (go_keep) (first
       | (go_at_call 34; refine (F1 _).mono ?_; rintro e w2 ⟨rfl, hb2⟩; have d0 := keep hlt hb2 c0; have d1 := keep hlt hb2 c1; have d2 := keep hlt hb2 c2; have d3 := keep hlt hb2 c3)
       | (go_at_call 39; refine (F _).mono ?_; rintro e w3 ⟨rfl, hb3⟩; have B3 : Below wr.drew.heap.size wr.drew w3 := hb2.trans (hb3.mono hb2.size); have e0 := keep hlt B3 c0; have e1 := keep hlt B3 c1; have e2 := keep hlt B3 c2; have e3 := keep hlt B3 c3))
      have fz : w3.frozen? ⟨g, ys.length * 4 + 3, none⟩ = false := (B3.frozen (p := ⟨g, _, none⟩) hlt).trans (hz _)
      have BW : Hid (Below wr.heap.size wr w3) := (below_drewN _ 1 _).trans (B3.mono (Nat.le_refl _))
      clear keep F F1 c0 c1 c2 c3 hz B3 hb3
      go_wp2_with fail
      go_roundw
      case rel =>
        have G := HS.out (0 + N) w3 BW.out
        refine ⟨l - N, ys ++ [⟨x0, x1, x2, 0 + N⟩], zs, rfl, by simp, by omega, by omega, by simp; omega, HN.out.2.2, HN.out.1, HN.out.2.1, ?_, ?_⟩
        · first | exact G.1 | (have := G.1; simp only [Int.zero_add] at this ⊢; exact this)
        · first | exact HB.out.trans G.2 (fun _ _ e => e) | (have := HB.out.trans G.2 (fun _ _ e => e); simp only [Int.zero_add] at this ⊢; exact this)
      case measure => simp [RowKit.intOf] <;> omega
theorem round2_nil (w : World) (l : Int) (p : Nat) : Calls Try.prog 33 #[.slice none 0 0, .int .i64 l, .func (.func 35) #[] #[.pointer (some ⟨p, 0, none⟩)]] w fun e w' => e = .returned (.int .i64 l) ∧ w = w' := by
  go_enter Try.func33, Try.ntmps33
  go_wp2_with fail
  refine wp_loop_rounds 1 ?_
  rw [rounds_succ]
  go_wp2_with fail
  go_ret
  exact ⟨rfl, rfl⟩
set_option maxRecDepth 100000 in
set_option maxHeartbeats 4000000 in
theorem round2_any (xs : List Sh) (g cap : Nat) (l0 : Int) (w : World) (p : Nat) (z : Int) (hp : w.cell? ⟨p, 0, none⟩ = some (.int .i64 z)) (hz0 : 0 ≤ z) (hz1 : z ≤ 1099511627776) (hpg : p ≠ g) (h : ShG w g xs) (hok : ∀ x ∈ xs, ShOk x ∧ x.gt ≤ 1099511627776) (hn : xs.length ≤ 1000) (h0 : 0 ≤ l0) (h1 : l0 ≤ 1099511627776) :
    Calls Try.prog 33 #[.slice (some ⟨g, 0, none⟩) xs.length cap, .int .i64 l0, .func (.func 35) #[] #[.pointer (some ⟨p, 0, none⟩)]] w fun e w' => e = .returned (.int .i64 (rndZ (fun _ => z) l0 xs)) ∧ Hid (ShG w' g (rndL (fun _ => z) l0 xs) ∧ But (fun k => k = g) w w') := by
  have HOK : Hid (∀ x ∈ xs, ShOk x ∧ x.gt ≤ 1099511627776) := hok
  have HH : Hid (ShG w g xs) := h
  clear h hok
  go_enter Try.func33, Try.ntmps33
  go_wp2_with fail
  go_loopw [1, 13] (fun y x wr => ∃ (l : Int) (ys zs : List Sh), y = .int .i64 l ∧ x = .int .i64 (ys.length : Int) ∧ 0 ≤ l ∧ l ≤ 1099511627776 ∧ Hid (ys.length + zs.length = xs.length ∧ (∀ x ∈ zs, x ∈ xs) ∧ rndL (fun _ => z) l0 xs = ys ++ rndL (fun _ => z) l zs ∧ rndZ (fun _ => z) l0 xs = rndZ (fun _ => z) l zs ∧ ShG wr g (ys ++ zs) ∧ But (fun k => k = g) w wr)) (fun _ x _ => xs.length - (RowKit.intOf x).toNat)
  case atStart => exact ⟨l0, [], xs, rfl, rfl, h0, h1, by simp, fun _ h => h, rfl, rfl, HH.out, But.refl _ _⟩
  case round =>
    obtain ⟨l, ys, zs, rfl, rfl, hl0, hl1, HI⟩ := hrel
    cases zs with
    | nil =>
      have t : ¬ (ys.length : Int) < (xs.length : Int) := by have := HI.out.1; simp at this; omega
      have HR : Hid (rndZ (fun _ => z) l0 xs = l) := HI.out.2.2.2.1
      go_wp2_with fail
      go_ret
      exact ⟨by rw [HR.out]; rfl, by have := HI.out.2.2.1; rw [this]; exact HI.out.2.2.2.2.1, HI.out.2.2.2.2.2⟩
    | cons x zs =>
      have hle : ys.length + zs.length + 1 = xs.length := by have := HI.out.1; simp at this; omega
      have t : (ys.length : Int) < (xs.length : Int) := by omega
      have ok := HOK.out x (HI.out.2.1 x (by simp))
      have hc := HI.out.2.2.2.2.1.get
      have hz := fun j => HI.out.2.2.2.2.1.thaw j
      have hlt := HI.out.2.2.2.2.1.lt
      have hu : 0 ≤ (fun _ => z) x := hz0
      have bd := give_bd (u := (fun _ => z)) ok.1 hl0 hu
      have fe := give_ok (u := (fun _ => z)) ok.1 hl0 hu
      have F := fun w => floor_any (min ((fun _ => z) x) l) x.st w (by have := hz1; omega) (by have := ok.1.st2; omega)
      rw [fe] at F
      have hg1 := ok.1.gt1
      have hg2 := ok.2
      have HSET := fun z W hW => HI.out.2.2.2.2.1.set z W hW
      have e1 : rndL (fun _ => z) l (x :: zs) = ⟨x.pl, x.sh, x.st, x.gt + give (fun _ => z) l x⟩ :: rndL (fun _ => z) (l - give (fun _ => z) l x) zs := rfl
      have e2 : rndZ (fun _ => z) l (x :: zs) = rndZ (fun _ => z) (l - give (fun _ => z) l x) zs := rfl
      have hgv : flN (min ((fun _ => z) x) l) x.st = give (fun _ => z) l x := rfl
      rw [hgv] at F
      obtain ⟨b0, b1, _, _, _⟩ := bd
      generalize give (fun _ => z) l x = N at *
      have HN : Hid (rndL (fun _ => z) l0 xs = (ys ++ [⟨x.pl, x.sh, x.st, x.gt + N⟩]) ++ rndL (fun _ => z) (l - N) zs ∧ rndZ (fun _ => z) l0 xs = rndZ (fun _ => z) (l - N) zs ∧ (∀ y ∈ zs, y ∈ xs)) := by
        refine ⟨?_, HI.out.2.2.2.1.trans e2, fun y hy => HI.out.2.1 y (List.mem_cons_of_mem _ hy)⟩
        rw [HI.out.2.2.1, e1]
        simp
      have HS : Hid (∀ z W, Below wr.heap.size wr W → ShG (W.setCell ⟨g, ys.length * 4 + 3, none⟩ (.int .i64 z)) g ((ys ++ [⟨x.pl, x.sh, x.st, z⟩]) ++ zs) ∧ But (fun k => k = g) wr (W.setCell ⟨g, ys.length * 4 + 3, none⟩ (.int .i64 z))) := HSET
      have HB : Hid (But (fun k => k = g) w wr) := HI.out.2.2.2.2.2
      have hp1 : wr.cell? ⟨p, 0, none⟩ = some (.int .i64 z) := (HB.out.cell (World.block_lt_of_cell? _ _ hp) hpg).trans hp
      have lp := World.block_lt_of_cell? _ _ hp1
      clear HSET e1 e2 hgv fe HI ok hu HOK HH hp
      obtain ⟨x0, x1, x2, x3⟩ := x
      obtain ⟨c0, c1, c2, c3⟩ := hc.all
      clear hc
      simp only at c0 c1 c2 c3 F hg1 hg2 HN HS
      have keep : ∀ {W : World} {q o : Nat} {v : Value}, q < wr.heap.size → Below wr.drew.heap.size wr.drew W → wr.cell? ⟨q, o, none⟩ = some v → W.cell? ⟨q, o, none⟩ = some v := fun hq hb hc => (hb.cell (p := ⟨_, _, none⟩) hq).trans hc
      have F1 : ∀ w : World, w.cell? ⟨p, 0, none⟩ = some (.int .i64 z) → Calls Try.prog 35 #[.agg #[.int .i64 x0, .int .i64 x1, .int .i64 x2, .int .i64 x3], .pointer (some ⟨p, 0, none⟩)] w fun e w' => e = .returned (.int .i64 z) ∧ Below w.heap.size w w' := fun w hc => clos2_any x0 x1 x2 x3 z p w hc
      go_wp2_with fail
      go_region_held3 (fun w' => w'.cell? ⟨g, ys.length * 4, none⟩ = some (.int .i64 x0) ∧ w'.cell? ⟨g, ys.length * 4 + 1, none⟩ = some (.int .i64 x1) ∧ w'.cell? ⟨g, ys.length * 4 + 2, none⟩ = some (.int .i64 x2) ∧ w'.cell? ⟨g, ys.length * 4 + 3, none⟩ = some (.int .i64 x3)) (go_keep) (first
       | (go_at_call 35; refine (F1 wr.drew hp1).mono ?_; rintro e w2 ⟨rfl, hb2⟩; have d0 := keep hlt hb2 c0; have d1 := keep hlt hb2 c1; have d2 := keep hlt hb2 c2; have d3 := keep hlt hb2 c3)
       | (go_at_call 39; refine (F _).mono ?_; rintro e w3 ⟨rfl, hb3⟩; have B3 : Below wr.drew.heap.size wr.drew w3 := hb2.trans (hb3.mono hb2.size); have e0 := keep hlt B3 c0; have e1 := keep hlt B3 c1; have e2 := keep hlt B3 c2; have e3 := keep hlt B3 c3))
      have fz : w3.frozen? ⟨g, ys.length * 4 + 3, none⟩ = false := (B3.frozen (p := ⟨g, _, none⟩) hlt).trans (hz _)
      have BW : Hid (Below wr.heap.size wr w3) := (below_drewN _ 1 _).trans (B3.mono (Nat.le_refl _))
      clear keep F F1 c0 c1 c2 c3 hz B3 hb3
      go_wp2_with fail
      go_roundw
      case rel =>
        have G := HS.out (x3 + N) w3 BW.out
        refine ⟨l - N, ys ++ [⟨x0, x1, x2, x3 + N⟩], zs, rfl, by simp, by omega, by omega, by simp; omega, HN.out.2.2, HN.out.1, HN.out.2.1, ?_, ?_⟩
        · first | exact G.1 | (have := G.1; simp only [Int.zero_add] at this ⊢; exact this)
        · first | exact HB.out.trans G.2 (fun _ _ e => e) | (have := HB.out.trans G.2 (fun _ _ e => e); simp only [Int.zero_add] at this ⊢; exact this)
      case measure => simp [RowKit.intOf] <;> omega
end Go.Proofs.Ytbjibmfehphffaa.RO
