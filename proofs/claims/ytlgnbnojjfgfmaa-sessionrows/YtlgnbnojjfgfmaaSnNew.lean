/-
  Contracts of session's New, Pop and Send.
-/
import Derived.Test.YtlgnbnojjfgfmaaSnSes
namespace Go.Proofs.Ytlgnbnojjfgfmaa.SN
open Go.ChangeShapes Go.WideShapes Go.ChangeAt Go.RowKit Go.Lib

/-- A session that New made. -/
def newX (room : Nat) : Ss := ⟨room, 0, 0, 0, 0, false, fun _ => o0⟩
theorem snew_no (room : Int) (w : World) (h : room < 1 ∨ 1024 < room) : Calls Try.prog 8 #[.int .i64 room] w fun e w' => e = .returned (.tuple #[.pointer none, .int .i64 2]) ∧ w = w' := by
  have F1 := new_no room w h
  clear h
  go_enter Try.func8, Try.ntmps8
  go_wp2_with fail
  refine F1.mono ?_
  rintro e w1 ⟨rfl, rfl⟩
  go_wp2_with fail
  go_ret2
  exact ⟨rfl, rfl⟩
set_option maxHeartbeats 1000000 in
theorem snew_yes (room : Nat) (w : World) (h1 : 0 < room) (h2 : room ≤ 1024) : Calls Try.prog 8 #[.int .i64 (room : Int)] w fun e w' => e = .returned (.tuple #[.pointer (some ⟨w.heap.size + 1, 0, none⟩), .int .i64 0]) ∧ SesAt w' (w.heap.size + 1) w.heap.size none 0 0 (newX room) ∧ Below w.heap.size w w' ∧ w'.heap.size = w.heap.size + 2 := by
  have F1 := new_yes room w h1 h2
  go_enter Try.func8, Try.ntmps8
  go_wp2_with fail
  refine F1.mono ?_
  rintro e w1 ⟨rfl, R, B, hs⟩
  clear F1
  have HP : Hid ((∀ g, Rng w1 w.heap.size none 0 0 room 0 g) ∧ Below w.heap.size w w1 ∧ w1.heap.size = w.heap.size + 1) := ⟨R, B, hs⟩
  clear R B hs
  go_wp2_with fail
  go_ret2
  obtain ⟨R, B, hs⟩ := HP.out
  rw [← hs]
  refine ⟨rfl, ⟨⟨by simp, by simp, by simp; rfl, by simp; rfl, by simp; rfl, by simp; rfl, fun j => by simp⟩, (R _).below (below1 _ _), fun e => ?_, Nat.le_refl _⟩, B.trans ((below1 _ _).mono B.size), by simp; omega⟩
  rcases e with e | e
  · omega
  · cases e
set_option maxRecDepth 100000 in
set_option maxHeartbeats 4000000 in
theorem spop_any {w : World} {p r C f : Nat} {S : Option Addr} {x : Ss} (h : SesAt w p r S C f x) : Calls Try.prog 16 #[.pointer (some ⟨p, 0, none⟩)] w fun e w' => e = .returned (.tuple #[oV (popO x), .int .i64 (popE x)]) ∧ SesOk w w' p r S (popX x) := by
  have B0 : Below w.heap.size w (w.alloc (.cells #[.int .i64 0, .int .i64 0, .string ⟨#[]⟩, .string ⟨#[]⟩, .int .i64 0, .int .i64 0, .int .i64 0] 34)) := below1 _ _
  have h0 := h.below B0
  have hx : Bx (w.alloc (.cells #[.int .i64 0, .int .i64 0, .string ⟨#[]⟩, .string ⟨#[]⟩, .int .i64 0, .int .i64 0, .int .i64 0] 34)) w.heap.size o0 := Bx.new w o0 34
  have F1 : Calls Try.prog 25 #[.pointer (some ⟨p, 0, none⟩)] (w.alloc (.cells #[.int .i64 0, .int .i64 0, .string ⟨#[]⟩, .string ⟨#[]⟩, .int .i64 0, .int .i64 0, .int .i64 0] 34)) fun e w' => e = .returned (.bool true) ∧ Hid (SesAt w' p r S C f x ∧ Bx w' w.heap.size o0 ∧ Below w.heap.size w w') := (isMade_yes h0.six.c1).mono fun _ _ ⟨he, hw⟩ => ⟨he, hw ▸ ⟨h0, hx, B0⟩⟩
  have HT : Hid (∀ k, ownS p r S k → k < w.heap.size) := fun k hk => h.there hk
  unfold popE popO popX
  have hord := h.ord
  clear h0 hx B0
  by_cases hz : x.sn ≤ x.out
  · rw [if_pos hz, if_pos hz, if_pos hz]
    clear h
    go_enter Try.func16, Try.ntmps16
    go_wp2_with fail
    refine F1.mono ?_
    rintro e w1 ⟨rfl, HP⟩
    clear F1
    have c0 := HP.out.1.six.c0
    have R := HP.out.1.rng
    rw [show x.sn - x.out = 0 by omega] at R
    have F2 := pop_none R
    go_wp2_with fail
    refine F2.mono ?_
    rintro e w2 ⟨rfl, b2⟩
    have HQ := (HP.out.2.1.below b2).gave (HP.out.2.2.trans (b2.mono HP.out.2.2.size)) o0
    obtain ⟨c0, c1, c2, c3, c4, c5, c6⟩ := (HP.out.2.1.below b2).sev.all0
    obtain ⟨f0, f1, f2, f3, f4, f5, f6⟩ := (HP.out.2.1.below b2).thaws
    have HK : Hid (SesAt w2 p r S C f x) := HP.out.1.below b2
    have HN : Hid (¬ ownS p r S w.heap.size) := fun e => by have := HT.out _ e; omega
    simp only [o0] at c0 c1 c2 c3 c4 c5 c6
    simp only [put0, o0] at HQ
    clear F2 R b2 HP
    simp only [o0]
    go_wp2_with fail
    have HB : But (fun k => k = w.heap.size) w2 (put0 w2 w.heap.size o0) := put0_but (But.refl _ _) _ _ (fun _ => rfl)
    simp only [put0, o0] at HB
    generalize hW : World.setCell _ ⟨w.heap.size, 6, none⟩ _ = W at HQ HB ⊢
    obtain ⟨g0, g1, g2, g3, g4, g5, g6⟩ := HQ.1.sev.all0
    simp only at g0 g1 g2 g3 g4 g5 g6
    refine bodyPost_ret (v := .tuple #[.agg #[.int .i64 0, .int .i64 0, .string ⟨#[]⟩, .string ⟨#[]⟩, .int .i64 0, .int .i64 0, .int .i64 0], .int .i64 50]) (by simp [results, Try.results16, go_sem, g0, g1, g2, g3, g4, g5, g6]) rfl ⟨rfl, ?_⟩
    exact ⟨S, C, f, HK.out.kept HB (fun i hi e => HN.out (e ▸ hi)), But.of_below HQ.2, fun _ hk => .inl hk⟩
  · rw [if_neg hz, if_neg hz, if_neg hz]
    clear h
    obtain ⟨n, hn⟩ : ∃ n, x.sn - x.out = n + 1 := ⟨x.sn - x.out - 1, by omega⟩
    obtain ⟨y, hy⟩ : ∃ y, x.L x.out = y := ⟨_, rfl⟩
    rw [hy]
    have HL : Hid (x.L x.out = y) := hy
    go_enter Try.func16, Try.ntmps16
    go_wp2_with fail
    refine F1.mono ?_
    rintro e w1 ⟨rfl, HP⟩
    clear F1
    have c0 := HP.out.1.six.c0
    have R := HP.out.1.rng
    rw [hn] at R
    have F2 := pop_some R
    rw [show x.out + 0 = x.out from rfl, HL.out] at F2
    have HY : Hid (x.L x.out = y ∧ x.sn - x.out = n + 1) := ⟨hy, hn⟩
    clear hy hn R HL
    obtain ⟨xk, xs, xi, xy, xd, xq, xp⟩ := y
    dsimp only [oV] at F2
    go_wp2_with fail
    refine F2.mono ?_
    rintro e w2 ⟨rfl, f', R2, b2⟩
    have hno : ¬ ownS p r S w.heap.size := fun e => by have := HT.out _ e; omega
    have hno' : ¬ own r S w.heap.size := fun e => hno (.inr e)
    have X2 := HP.out.2.1.kept b2 hno'
    obtain ⟨c0, c1, c2, c3, c4, c5, c6⟩ := X2.sev.all0
    obtain ⟨f0, f1, f2, f3, f4, f5, f6⟩ := X2.thaws
    have HB : Hid (But (ownS p r S) w w2) := (But.of_below HP.out.2.2).trans (b2.mono (fun _ _ e => .inr e)) (fun _ _ e => e)
    have HQ : Bx (put0 w2 w.heap.size ⟨xk, xs, xi, xy, xd, xq, xp⟩) w.heap.size ⟨xk, xs, xi, xy, xd, xq, xp⟩ ∧ But (fun k => k = w.heap.size) w2 (put0 w2 w.heap.size ⟨xk, xs, xi, xy, xd, xq, xp⟩) := ⟨X2.put ⟨xk, xs, xi, xy, xd, xq, xp⟩, put0_but (But.refl _ _) _ _ (fun _ => rfl)⟩
    have HK : Hid (SesAt w2 p r S C f' ⟨x.room, x.sn, x.out + 1, x.tk, x.fa, x.dn, x.L⟩) := by
      have s6 := HP.out.1.six.kept b2 HP.out.1.apart
      refine ⟨⟨s6.c0, s6.c1, s6.c2, s6.c3, s6.c4, s6.c5, s6.thaw⟩, ?_, HP.out.1.apart, by show x.out + 1 ≤ x.sn; omega⟩
      show Rng w2 r S C f' x.room (x.sn - (x.out + 1)) (fun i => x.L (x.out + 1 + i))
      rw [show x.sn - (x.out + 1) = n by have := HY.out.2; omega]
      exact R2.same (fun i _ => by show x.L (x.out + (i + 1)) = x.L (x.out + 1 + i); rw [show x.out + (i + 1) = x.out + 1 + i by omega])
    have HN : Hid (¬ ownS p r S w.heap.size) := hno
    simp only [o0] at c0 c1 c2 c3 c4 c5 c6
    simp only [put0] at HQ
    clear F2 R2 b2 HP X2 hno hno' HY
    go_wp2_with fail
    generalize hW : World.setCell _ ⟨w.heap.size, 6, none⟩ _ = W at HQ ⊢
    obtain ⟨g0, g1, g2, g3, g4, g5, g6⟩ := HQ.1.sev.all0
    simp only at g0 g1 g2 g3 g4 g5 g6
    refine bodyPost_ret (v := .tuple #[oV ⟨xk, xs, xi, xy, xd, xq, xp⟩, .int .i64 0]) (by simp [results, Try.results16, go_sem, g0, g1, g2, g3, g4, g5, g6]) rfl ⟨rfl, ?_⟩
    exact ⟨S, C, f', HK.out.kept HQ.2 (fun i hi e => HN.out (e ▸ hi)), HB.out.trans (HQ.2.mono (T := fun k => k = w.heap.size) (fun _ _ e => e)) (fun i hi e => absurd e (by omega)), fun _ hk => .inl hk⟩
set_option maxRecDepth 100000 in
set_option maxHeartbeats 4000000 in
theorem spopN {w : World} {v : Value} (h : NoSes w v) : Calls Try.prog 16 #[v] w fun e w' => e = .returned (.tuple #[oV o0, .int .i64 1]) ∧ Below w.heap.size w w' := by
  have F1 := isMade_no (h.below (below1 w (.cells #[.int .i64 0, .int .i64 0, .string ⟨#[]⟩, .string ⟨#[]⟩, .int .i64 0, .int .i64 0, .int .i64 0] 34)))
  clear h
  go_enter Try.func16, Try.ntmps16
  go_wp2_with fail
  refine F1.mono ?_
  rintro e w1 ⟨rfl, rfl⟩
  go_wp2_with fail
  refine bodyPost_ret (v := .tuple #[oV o0, .int .i64 1]) (by simp [results, Try.results16, go_sem, o0]) rfl ⟨rfl, ?_⟩
  exact below1 _ _
end Go.Proofs.Ytlgnbnojjfgfmaa.SN
