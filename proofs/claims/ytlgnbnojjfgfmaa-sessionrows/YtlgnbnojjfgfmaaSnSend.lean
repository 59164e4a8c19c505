/-
  The contract of session's Send.
-/
import Derived.Test.YtlgnbnojjfgfmaaSnNew
namespace Go.Proofs.Ytlgnbnojjfgfmaa.SN
open Go.ChangeShapes Go.WideShapes Go.ChangeAt Go.RowKit Go.Lib

theorem rightO_any (o : Od) (w : World) : Calls Try.prog 27 #[.agg #[.int .i64 o.k, .int .i64 1, .string o.i, .string o.y, .int .i64 o.d, .int .i64 o.q, .int .i64 o.p]] w fun e w' => e = .returned (.bool (rgO o)) ∧ Below w.heap.size w w' := PP.O.right_any (th (num o 1)) w
/-- What isMade says of a session behind the box of an order. -/
theorem boxed_isMade {w : World} {p r C f : Nat} {S : Option Addr} {x : Ss} (h : SesAt w p r S C f x) (o : Od) : Calls Try.prog 25 #[.pointer (some ⟨p, 0, none⟩)] (boxO w o) fun e w' => e = .returned (.bool true) ∧ boxO w o = w' := isMade_yes (h.below (below1 w _)).six.c1
/-- A number put into the box. -/
theorem Bx.number {w : World} {b : Nat} {o : Od} (h : Bx w b o) (n : Int) : Bx (w.setCell ⟨b, 1, none⟩ (.int .i64 n)) b (num o n) := by
  refine ⟨fun j hj => ?_, fun j => by rw [World.frozen?_setCell]; exact h.thaw j⟩
  by_cases e : j = 1
  · subst e
    exact World.cell?_setCell_same' _ _ _ (by rw [show w.cell? ⟨b, 1, none⟩ = _ from h.sev 1 (by omega)]; rfl)
  · rw [World.cell?_setCell_other _ _ _ _ (by intro e'; injection e' with _ e2; omega), h.sev j hj]
    unfold oc num
    simp only [if_neg e]
set_option maxRecDepth 100000 in
set_option maxHeartbeats 8000000 in
theorem send_any {w : World} {p r C f : Nat} {S : Option Addr} {x : Ss} (h : SesAt w p r S C f x) (o : Od) (hs : x.sn ≤ 4096) : Calls Try.prog 15 #[.pointer (some ⟨p, 0, none⟩), oV o] w fun e w' => e = .returned (.tuple #[.int .i64 (sndN x o), .int .i64 (sndE x o)]) ∧ SesOk w w' p r S (sndX x o) := by
  have HT : Hid (∀ k, ownS p r S k → k < w.heap.size) := fun k hk => h.there hk
  have B0 : Below w.heap.size w (boxO w o) := below1 _ _
  have F1 := isMade_yes (h.below B0).six.c1
  have B1 : Below w.heap.size w (boxO w (num o 1)) := below1 _ _
  have F2 := (rightO_any o (boxO w (num o 1))).mono fun e w' (he : _ ∧ _) => (⟨he.1, (h.below B1).below he.2, (Bx.new w (num o 1) 34).below he.2, B1.trans (he.2.mono B1.size)⟩ : e = .returned (.bool (rgO o)) ∧ Hid (SesAt w' p r S C f x ∧ Bx w' w.heap.size (num o 1) ∧ Below w.heap.size w w'))
  have HS : Hid (SesAt w p r S C f x) := h
  have hpx : ¬ p = w.heap.size := by have := h.six.lt; omega
  clear h B0 B1
  cases hr : rgO o
  case false =>
    obtain ⟨e1, e2, e3⟩ := snd_bad (x := x) hr
    rw [e1, e2, e3]
    rw [hr] at F2
    clear hr e1 e2 e3
    obtain ⟨xk, xs, xi, xy, xd, xq, xp⟩ := o
    dsimp only [oV, boxO, num] at F1 F2 ⊢
    go_enter Try.func15, Try.ntmps15
    go_wp2_with fail
    refine F1.mono ?_
    rintro e w1 ⟨rfl, rfl⟩
    go_wp2_with fail
    refine F2.mono ?_
    rintro e w2 ⟨rfl, HP⟩
    clear F1 F2
    go_wp2_with fail
    go_ret2
    exact ⟨rfl, HS.out.ok HP.out.2.2⟩
  case true =>
  cases hd : x.dn
  case true =>
    obtain ⟨e1, e2, e3⟩ := snd_down hr hd
    rw [e1, e2, e3]
    rw [hr] at F2
    have HD : Hid (x.dn = true) := hd
    clear hr e1 e2 e3 hd
    obtain ⟨xk, xs, xi, xy, xd, xq, xp⟩ := o
    dsimp only [oV, boxO, num] at F1 F2 ⊢
    go_enter Try.func15, Try.ntmps15
    go_wp2_with fail
    refine F1.mono ?_
    rintro e w1 ⟨rfl, rfl⟩
    go_wp2_with fail
    refine F2.mono ?_
    rintro e w2 ⟨rfl, HP⟩
    have c5 := HP.out.1.six.c5
    rw [HD.out] at c5
    clear F1 F2
    go_wp2_with fail
    go_ret2
    exact ⟨rfl, HS.out.ok HP.out.2.2⟩
  case false =>
  have HD : Hid (x.dn = false) := hd
  obtain ⟨E, hE⟩ : ∃ E, Hid (sndE x o = E) := ⟨_, rfl⟩
  obtain ⟨N, hN⟩ : ∃ N, Hid (sndN x o = N) := ⟨_, rfl⟩
  obtain ⟨X, hX⟩ : ∃ X, Hid (sndX x o = X) := ⟨_, rfl⟩
  rw [hE.out, hN.out, hX.out]
  have HF : Hid (∀ g : x.room ≤ x.sn - x.out, E = 40 ∧ N = 0 ∧ x = X) := fun g => by have := snd_full hr hd g; rw [hE.out, hN.out, hX.out] at this; exact ⟨this.1, this.2.1, this.2.2.symm⟩
  have HO : Hid (∀ g : ¬ x.room ≤ x.sn - x.out, E = 0 ∧ N = (x.sn : Int) + 1 ∧ X = ⟨x.room, x.sn + 1, x.out, x.tk, x.fa, x.dn, upd x.L x.sn (num o ((x.sn : Int) + 1))⟩) := fun g => by have := snd_ok hr hd g; rw [hE.out, hN.out, hX.out] at this; exact this
  rw [hr] at F2
  clear hr hd hE hN hX
  obtain ⟨xk, xs, xi, xy, xd, xq, xp⟩ := o
  dsimp only [oV, boxO, num] at F1 F2 HO ⊢
  have t : (x.sn : Int) ≤ 4096 := by omega
  go_enter Try.func15, Try.ntmps15
  go_wp2_with fail
  refine F1.mono ?_
  rintro e w1 ⟨rfl, rfl⟩
  go_wp2_with fail
  refine F2.mono ?_
  rintro e w2 ⟨rfl, HP⟩
  clear F1 F2
  have c0 := HP.out.1.six.c0
  have c2 := HP.out.1.six.c2
  have c5 := HP.out.1.six.c5
  rw [HD.out] at c5
  obtain ⟨d0, d1, d2, d3, d4, d5, d6⟩ := HP.out.2.1.sev.all0
  obtain ⟨f0, f1, f2, f3, f4, f5, f6⟩ := HP.out.2.1.thaws
  simp only at d0 d1 d2 d3 d4 d5 d6
  have hbx : w.heap.size < w2.heap.size := HP.out.2.1.sev.lt
  obtain ⟨w3, hw3⟩ : ∃ w3, Hid (w3 = w2.setCell ⟨w.heap.size, 1, none⟩ (.int .i64 ((x.sn : Int) + 1))) := ⟨_, rfl⟩
  have hno : ¬ ownS p r S w.heap.size := fun e => by have := HT.out _ e; omega
  have HP3 : Hid (SesAt w3 p r S C f x ∧ Bx w3 w.heap.size ⟨xk, ((x.sn : Int) + 1), xi, xy, xd, xq, xp⟩ ∧ Below w.heap.size w w3) := by
    have k : But (fun j => j = w.heap.size) w2 w3 := by rw [hw3.out]; exact (But.refl _ _).setCell _ _ _ (fun _ => rfl)
    refine ⟨HP.out.1.kept k (fun i hi e => hno (e ▸ hi)), by rw [hw3.out]; exact HP.out.2.1.number _, (But.of_below (S := fun j => j = w.heap.size) HP.out.2.2 |>.trans k (fun _ _ e => e)).below (Nat.le_refl _) (fun _ e => Nat.le_of_eq e.symm)⟩
  clear HP
  go_upto_region 9 with fail
  rw [← hw3.out]
  clear c0 c2 c5 d0 d1 d2 d3 d4 d5 d6 f0 f1 f2 f3 f4 f5 f6 hw3 HD
  have c0 := HP3.out.1.six.c0
  have c2 := HP3.out.1.six.c2
  have k2 := HP3.out.1.six.thaw 2
  obtain ⟨d0, d1, d2, d3, d4, d5, d6⟩ := HP3.out.2.1.sev.all0
  simp only at d0 d1 d2 d3 d4 d5 d6
  have R := HP3.out.1.rng.below (below_drewN _ 1 _)
  have hra := HP3.out.1.ord
  have b3 : Below w.heap.size w w3.drew := HP3.out.2.2.drew
  have hno' : ¬ own r S w.heap.size := fun e => hno (.inr e)
  have hs3 := HP3.out.2.2.size
  by_cases hf : x.room ≤ x.sn - x.out
  · obtain ⟨rfl, rfl, rfl⟩ := HF.out hf
    have e0 : x.sn - x.out = x.room := by have := R.fits; have := R.capped; omega
    rw [e0] at R
    have F3 := (push_full R ⟨xk, ((x.sn : Int) + 1), xi, xy, xd, xq, xp⟩).mono fun e w' (he : _ ∧ _) => (⟨he.1, (HP3.out.1.below (below_drewN _ 1 _)).below he.2, (HP3.out.2.1.below (below_drewN _ 1 _)).below he.2, b3.trans (he.2.mono b3.size)⟩ : e = .returned (.int .i64 40) ∧ Hid (SesAt w' p r S C f x ∧ Bx w' w.heap.size ⟨xk, ((x.sn : Int) + 1), xi, xy, xd, xq, xp⟩ ∧ Below w.heap.size w w'))
    dsimp only [oV] at F3
    clear R hf e0 HF HO hno hno' b3 hra HP3
    go_region_held3 (fun w' => w'.cell? ⟨p, 0, none⟩ = some (.pointer (some ⟨r, 0, none⟩)) ∧ w'.cell? ⟨w.heap.size, 0, none⟩ = some (.int .i64 xk) ∧ w'.cell? ⟨w.heap.size, 1, none⟩ = some (.int .i64 ((x.sn : Int) + 1)) ∧ w'.cell? ⟨w.heap.size, 2, none⟩ = some (.string xi) ∧ w'.cell? ⟨w.heap.size, 3, none⟩ = some (.string xy) ∧ w'.cell? ⟨w.heap.size, 4, none⟩ = some (.int .i64 xd) ∧ w'.cell? ⟨w.heap.size, 5, none⟩ = some (.int .i64 xq) ∧ w'.cell? ⟨w.heap.size, 6, none⟩ = some (.int .i64 xp)) (go_keep) (first
      | (go_at_call 28; refine F3.mono ?_; rintro e w4 ⟨rfl, HQ⟩; have k0 := HQ.out.1.six.c0; obtain ⟨m0, m1, m2, m3, m4, m5, m6⟩ := HQ.out.2.1.sev.all0; simp only at m0 m1 m2 m3 m4 m5 m6))
    go_wp2_with fail
    go_ret2
    exact ⟨rfl, HS.out.ok HQ.out.2.2⟩
  · obtain ⟨rfl, rfl, rfl⟩ := HO.out hf
    have F3 := (push_ok R (by omega) ⟨xk, ((x.sn : Int) + 1), xi, xy, xd, xq, xp⟩).mono fun e w' (he : _ ∧ _) => (by
      obtain ⟨h1, S', C', f', R', k', o'⟩ := he
      refine ⟨h1, ?_, ⟨S', C', f', R', (But.of_below b3).trans (k'.mono (fun _ _ e => .inr e)) (fun _ _ e => e), fun k hk => (o' k hk).imp id (fun e => ?_)⟩, ?_⟩
      · exact (HP3.out.1.six.kept (But.of_below (below_drewN _ 1 _)) (T := fun _ => False) id).kept k' HP3.out.1.apart
      · exact Nat.le_trans b3.size e
      · exact (HP3.out.2.1.below (below_drewN _ 1 _)).kept k' hno'
      : e = .returned (.int .i64 0) ∧ Hid (Six w' p r x) ∧ Hid (∃ S' C' f', Rng w' r S' C' f' x.room (x.sn - x.out + 1) (upd (fun i => x.L (x.out + i)) (x.sn - x.out) ⟨xk, ((x.sn : Int) + 1), xi, xy, xd, xq, xp⟩) ∧ But (ownS p r S) w w' ∧ ∀ k, own r S' k → own r S k ∨ w.heap.size ≤ k) ∧ Hid (Bx w' w.heap.size ⟨xk, ((x.sn : Int) + 1), xi, xy, xd, xq, xp⟩))
    dsimp only [oV] at F3
    have HAP : Hid (¬ own r S p ∧ p < w.heap.size ∧ x.out ≤ x.sn) := ⟨HS.out.apart, HS.out.six.lt, hra⟩
    clear R hf HF HO hno hno' b3 hra HP3
    go_region_held3 (fun w' => w'.cell? ⟨p, 0, none⟩ = some (.pointer (some ⟨r, 0, none⟩)) ∧ w'.cell? ⟨w.heap.size, 0, none⟩ = some (.int .i64 xk) ∧ w'.cell? ⟨w.heap.size, 1, none⟩ = some (.int .i64 ((x.sn : Int) + 1)) ∧ w'.cell? ⟨w.heap.size, 2, none⟩ = some (.string xi) ∧ w'.cell? ⟨w.heap.size, 3, none⟩ = some (.string xy) ∧ w'.cell? ⟨w.heap.size, 4, none⟩ = some (.int .i64 xd) ∧ w'.cell? ⟨w.heap.size, 5, none⟩ = some (.int .i64 xq) ∧ w'.cell? ⟨w.heap.size, 6, none⟩ = some (.int .i64 xp)) (go_keep) (first
      | (go_at_call 28; refine F3.mono ?_; rintro e w4 ⟨rfl, HQ6, HQR, HQB⟩; have k0 := HQ6.out.c0; obtain ⟨m0, m1, m2, m3, m4, m5, m6⟩ := HQB.out.sev.all0; simp only at m0 m1 m2 m3 m4 m5 m6))
    have n2 := HQ6.out.c2
    have z2 := HQ6.out.thaw 2
    go_wp2_with fail
    go_ret2
    refine ⟨rfl, ?_⟩
    obtain ⟨S', C', f', R', k', o'⟩ := HQR.out
    obtain ⟨ap, pl, hra⟩ := HAP.out
    have hap : ¬ own r S' p := fun e => (o' p e).elim ap (fun e => by omega)
    have kp : But (fun j => j = p) w4 (w4.setCell ⟨p, 2, none⟩ (.int .i64 ((x.sn : Int) + 1))) := (But.refl _ _).setCell p 2 _ (fun _ => rfl)
    refine ⟨S', C', f', ⟨HQ6.out.set2 _ rfl rfl rfl rfl, ?_, hap, ?_⟩, k'.trans kp (fun _ _ e => .inl e), fun k hk => ?_⟩
    · show Rng _ r S' C' f' x.room (x.sn + 1 - x.out) _
      rw [show x.sn + 1 - x.out = x.sn - x.out + 1 by omega]
      refine (R'.kept kp (fun i hi e => hap (e ▸ hi))).same (fun i hi => ?_)
      by_cases e : i = x.sn - x.out
      · subst e
        show upd _ _ _ _ = upd x.L x.sn _ (x.out + (x.sn - x.out))
        rw [upd_same, show x.out + (x.sn - x.out) = x.sn by omega, upd_same]
      · show upd _ _ _ _ = upd x.L x.sn _ (x.out + i)
        rw [upd_other _ _ e, upd_other _ _ (by omega)]
    · show x.out ≤ x.sn + 1; omega
    · rcases hk with e | e
      · exact .inl (.inl e)
      · exact (o' k e).imp .inr id
theorem sendN {w : World} {v : Value} (h : NoSes w v) (o : Od) : Calls Try.prog 15 #[v, oV o] w fun e w' => e = .returned (.tuple #[.int .i64 0, .int .i64 1]) ∧ Below w.heap.size w w' := by
  have F1 := isMade_no (h.below (below1 w (.cells #[.int .i64 o.k, .int .i64 o.s, .string o.i, .string o.y, .int .i64 o.d, .int .i64 o.q, .int .i64 o.p] 34)))
  clear h
  obtain ⟨xk, xs, xi, xy, xd, xq, xp⟩ := o
  dsimp only [oV] at F1 ⊢
  go_enter Try.func15, Try.ntmps15
  go_wp2_with fail
  refine F1.mono ?_
  rintro e w1 ⟨rfl, rfl⟩
  go_wp2_with fail
  go_ret2
  exact ⟨rfl, below1 _ _⟩
end Go.Proofs.Ytlgnbnojjfgfmaa.SN
