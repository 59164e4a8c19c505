/-
  Contract of router's Split.
-/
import Derived.Test.YtbjibmfehphffaaRoPieces
namespace Go.Proofs.Ytbjibmfehphffaa.RO
open Go.ChangeShapes Go.WideShapes Go.ChangeAt Go.RowKit

theorem own_mono {w : World} {A B : Nat} {e : TypeId} {size : Nat} {v : Value} {n : Nat} {xs : List Value} (h : w.ownsRow B e size v n xs) (k : A ≤ B) : w.ownsRow A e size v n xs := by
  refine ⟨h.1, ?_⟩
  rcases h.2 with hn | ⟨g, cap, cur, e1, hb, rest⟩
  · exact .inl hn
  · exact .inr ⟨g, cap, cur, e1, Nat.le_trans k hb, rest⟩
theorem sharesL_ok {lot : Int} {n : Nat} {L : Nat → Of} (hl : 1 ≤ lot) (hw : ∀ i, i < n → wrongB (L i) = false) : ∀ x ∈ sharesL lot (listO L n), ShOk x ∧ x.gt = 0 := by
  intro x hx
  simp only [sharesL, listO, List.mem_flatMap, List.mem_map, List.mem_range] at hx
  obtain ⟨_, ⟨i, hi, rfl⟩, hx⟩ := hx
  unfold shareO at hx
  split at hx
  · simp at hx
  · rename_i h
    simp only [List.mem_cons, List.not_mem_nil, or_false] at hx
    subst hx
    exact ⟨share_ok hl (hw i hi) h, rfl⟩
theorem rnd_ok {u : Sh → Int} {G : Int} (hG : G ≤ 1099511627776) (hu : ∀ x, ShOk x → 0 ≤ u x) : ∀ (l : Int) (xs : List Sh), 0 ≤ l → l ≤ 1099511627776 → (∀ x ∈ xs, ShOk x ∧ x.gt ≤ G) →
    (∀ x ∈ rndL u l xs, ShOk x ∨ False) ∧ (∀ x ∈ rndL u l xs, x.gt ≤ G + l) ∧ 0 ≤ rndZ u l xs ∧ rndZ u l xs ≤ l
  | l, [], h0, _, _ => ⟨fun x hx => by simp [rndL] at hx, fun x hx => by simp [rndL] at hx, h0, Int.le_refl _⟩
  | l, x :: r, h0, h1, h => by
    have ok := h x (by simp)
    have bd := give_bd (u := u) ok.1 h0 (hu x ok.1)
    obtain ⟨i1, i2, i3, i4⟩ := rnd_ok hG hu (l - give u l x) r (by omega) (by omega) (fun y hy => h y (List.mem_cons_of_mem _ hy))
    have g1 := ok.1.gt1
    refine ⟨fun y hy => ?_, fun y hy => ?_, i3, by show rndZ u (l - give u l x) r ≤ l; omega⟩
    · rcases List.mem_cons.1 hy with rfl | hy
      · exact .inl ⟨ok.1.st1, ok.1.st2, ok.1.sh1, ok.1.sh2, by show 0 ≤ x.gt + _; omega, by show x.gt + _ ≤ _; omega⟩
      · exact i1 y hy
    · rcases List.mem_cons.1 hy with rfl | hy
      · show x.gt + _ ≤ _; omega
      · have := i2 y hy; omega
theorem round1_ok {xs : List Sh} {l : Int} (h0 : 0 ≤ l) (h1 : l ≤ 1099511627776) (h : ∀ x ∈ xs, ShOk x ∧ x.gt = 0) : (∀ x ∈ rndL shn l xs, ShOk x ∧ x.gt ≤ 1099511627776) ∧ 0 ≤ rndZ shn l xs ∧ rndZ shn l xs ≤ l := by
  have k := rnd_ok (u := shn) (G := 0) (by decide) (fun x hx => hx.sh1) l xs h0 h1 (fun x hx => ⟨(h x hx).1, by rw [(h x hx).2]; exact Int.le_refl _⟩)
  exact ⟨fun x hx => ⟨(k.1 x hx).resolve_right id, by have := k.2.1 x hx; omega⟩, k.2.2⟩
/-- What Split refuses. -/
def spE (qty lot : Int) (n : Nat) (L : Nat → Of) : Int := if (!inB qty 0 1099511627776 || (!inB lot 1 1099511627776 || anyW L n)) = true then 2 else if 8 < n then 3 else 0
theorem split_bad (qty lot : Int) (n : Nat) (L : Nat → Of) (v : Value) (w : World) (h : RowL w v n L) (hn : n ≤ 1000) (hE : spE qty lot n L ≠ 0) :
    Calls Try.prog 14 #[.int .i64 qty, .int .i64 lot, v] w fun e w' => e = .returned (.tuple #[.slice none 0 0, .int .i64 (spE qty lot n L)]) ∧ Below w.heap.size w w' := by
  have F1 := fun w => within_any qty 0 1099511627776 w
  have F2 := fun w => within_any lot 1 1099511627776 w
  have F3 := contains_any n L v w h hn
  obtain ⟨a, cap, rfl, _⟩ := id h
  unfold spE at hE ⊢
  generalize inB qty 0 1099511627776 = p at *
  generalize inB lot 1 1099511627776 = q at *
  generalize anyW L n = r at *
  clear h
  cases p
  · rw [if_pos (by simp)]
    go_enter Try.func14, Try.ntmps14
    go_wp2_with fail
    refine (F1 _).mono ?_
    rintro e w1 ⟨rfl, rfl⟩
    go_wp2_with fail
    go_ret2
    exact ⟨rfl, Below.refl _ _⟩
  · cases q
    · rw [if_pos (by simp)]
      go_enter Try.func14, Try.ntmps14
      go_wp2_with fail
      refine (F1 _).mono ?_
      rintro e w1 ⟨rfl, rfl⟩
      go_wp2_with fail
      refine (F2 _).mono ?_
      rintro e w1 ⟨rfl, rfl⟩
      go_wp2_with fail
      go_ret2
      exact ⟨rfl, Below.refl _ _⟩
    · cases r
      · have h8 : 8 < n := by
          by_cases k : 8 < n
          · exact k
          · rw [if_neg (by simp), if_neg k] at hE; exact absurd rfl hE
        rw [if_neg (by simp), if_pos h8]
        have t : (8 : Int) < (n : Int) := by omega
        clear hE h8
        go_enter Try.func14, Try.ntmps14
        go_wp2_with fail
        refine (F1 _).mono ?_
        rintro e w1 ⟨rfl, rfl⟩
        go_wp2_with fail
        refine (F2 _).mono ?_
        rintro e w1 ⟨rfl, rfl⟩
        go_wp2_with fail
        refine F3.mono ?_
        rintro e w3 ⟨rfl, hb⟩
        go_wp2_with fail
        go_ret2
        exact ⟨rfl, hb⟩
      · rw [if_pos (by simp)]
        clear hE
        go_enter Try.func14, Try.ntmps14
        go_wp2_with fail
        refine (F1 _).mono ?_
        rintro e w1 ⟨rfl, rfl⟩
        go_wp2_with fail
        refine (F2 _).mono ?_
        rintro e w1 ⟨rfl, rfl⟩
        go_wp2_with fail
        refine F3.mono ?_
        rintro e w3 ⟨rfl, hb⟩
        go_wp2_with fail
        go_ret2
        exact ⟨rfl, hb⟩
theorem spE_none {qty lot : Int} {n : Nat} {L : Nat → Of} (h : spE qty lot n L = 0) : inB qty 0 1099511627776 = true ∧ inB lot 1 1099511627776 = true ∧ anyW L n = false ∧ n ≤ 8 := by
  unfold spE at h
  split at h
  · exact absurd h (by decide)
  · rename_i k
    split at h
    · exact absurd h (by decide)
    · rename_i m
      simp only [Bool.or_eq_true, Bool.not_eq_true', not_or, Bool.not_eq_false, Bool.not_eq_true] at k
      exact ⟨k.1, k.2.1, k.2.2, by omega⟩
set_option maxHeartbeats 1000000 in
theorem split_good (qty lot : Int) (n : Nat) (L : Nat → Of) (v : Value) (w : World) (h : RowL w v n L) (hE : spE qty lot n L = 0) :
    Calls Try.prog 14 #[.int .i64 qty, .int .i64 lot, v] w fun e w' => ∃ f v', e = .returned (.tuple #[v', .int .i64 0]) ∧ Hid (Ranked L n f ∧ w'.ownsRow w.heap.size 45 2 v' (splitL qty lot (listO (fun k => L (f k)) n)).length (allP (splitL qty lot (listO (fun k => L (f k)) n))) ∧ Below w.heap.size w w') := by
  obtain ⟨hq, hl, ha, hn⟩ := spE_none hE
  have F1 := fun w => within_any qty 0 1099511627776 w
  have F2 := fun w => within_any lot 1 1099511627776 w
  have F3 := contains_any n L v w h (by omega)
  rw [hq] at F1
  rw [hl] at F2
  rw [ha] at F3
  have hW := anyW_false.1 ha
  have hq' := of_decide_eq_true hq
  have hl' := of_decide_eq_true hl
  have F4 := fun (w1 : World) (hb : Below w.heap.size w w1) => rank_any (stable_few (show n < 20 by omega)) (by omega) L v w1 (h.below hb)
  obtain ⟨a, cap, rfl, _⟩ := id h
  have HW : Hid (∀ i, i < n → wrongB (L i) = false) := hW
  have HQ : Hid ((0 ≤ qty ∧ qty ≤ 1099511627776) ∧ 1 ≤ lot ∧ lot ≤ 1099511627776) := ⟨hq', hl'⟩
  have t : ¬ (8 : Int) < (n : Int) := by omega
  clear h hE hq hl ha hW hq' hl'
  go_enter Try.func14, Try.ntmps14
  go_wp2_with fail
  refine (F1 _).mono ?_
  rintro e w1 ⟨rfl, rfl⟩
  go_wp2_with fail
  refine (F2 _).mono ?_
  rintro e w1 ⟨rfl, rfl⟩
  go_wp2_with fail
  refine F3.mono ?_
  rintro e w3 ⟨rfl, hb3⟩
  have F4 := F4 w3 hb3
  go_wp2_with fail
  refine F4.mono ?_
  rintro e w4 ⟨bk, f, HR, rfl⟩
  clear F1 F2 F3 F4
  have F5 := shares_any lot n (fun k => L (f k)) _ w4 (RowL.of_hold HR.out.2.1 (Nat.le_refl _)) (by omega) HQ.out.2.1 HQ.out.2.2 (fun i hi => HW.out _ (HR.out.1.lt hi))
  have hok := sharesL_ok (L := fun k => L (f k)) (n := n) HQ.out.2.1 (fun i hi => HW.out _ (HR.out.1.lt hi))
  have hlen : (sharesL lot (listO (fun k => L (f k)) n)).length ≤ 8 := by have := sharesL_len lot (listO (fun k => L (f k)) n); rw [listO_length] at this; omega
  have HG : Hid (splitL qty lot (listO (fun k => L (f k)) n) = piecesL (rndL (fun _ => rndZ shn qty (sharesL lot (listO (fun k => L (f k)) n))) (rndZ shn qty (sharesL lot (listO (fun k => L (f k)) n))) (rndL shn qty (sharesL lot (listO (fun k => L (f k)) n))))) := rfl
  generalize sharesL lot (listO (fun k => L (f k)) n) = xs at *
  have HB4 : Hid (Below w.heap.size w w4 ∧ Ranked L n f) := ⟨hb3.trans (HR.out.2.2.1.mono hb3.size), HR.out.1⟩
  have HK : Hid (∀ x ∈ xs, ShOk x ∧ x.gt = 0) := hok
  clear hok HR HW hb3
  go_wp2_with fail
  refine F5.mono ?_
  rintro e w5 ⟨v5, rfl, H5⟩
  clear F5
  have S5 := shs_of_own H5.out.1
  have HB5 : Hid (Below w.heap.size w w5 ∧ w.heap.size ≤ w4.heap.size) := ⟨HB4.out.1.trans (H5.out.2.mono HB4.out.1.size), HB4.out.1.size⟩
  rcases S5 with ⟨rfl, rfl⟩ | ⟨g, cp, rfl, hg, S5⟩
  · go_wp2_with fail
    refine (round1_nil w5 qty).mono ?_
    rintro e w6 ⟨rfl, rfl⟩
    go_wp2_with fail
    refine (round2_nil _ qty w5.heap.size).mono ?_
    rintro e w7 ⟨rfl, rfl⟩
    go_wp2_with fail
    refine (pieces_nil _).mono ?_
    rintro e w8 ⟨rfl, rfl⟩
    go_wp2_with fail
    go_ret2
    refine ⟨f, _, rfl, HB4.out.2, ?_, HB5.out.1.alloc HB5.out.1.size _⟩
    rw [HG.out]
    exact World.ownsRow_nil _ _ _ _
  · have G1 := round1_any xs g cp qty w5 S5 HK.out (by omega) HQ.out.1.1 HQ.out.1.2
    have K1 := round1_ok HQ.out.1.1 HQ.out.1.2 HK.out
    have hl1 := rndL_length shn qty xs
    generalize rndL shn qty xs = xs1 at *
    generalize rndZ shn qty xs = Z at *
    rw [← hl1] at hlen
    have hl1' : Hid (xs1.length = xs.length) := hl1
    have hZ : Hid ((∀ x ∈ xs1, ShOk x ∧ x.gt ≤ 1099511627776) ∧ 0 ≤ Z ∧ Z ≤ 1099511627776) := ⟨K1.1, K1.2.1, by have := K1.2.2; have := HQ.out.1.2; omega⟩
    clear hl1 K1
    go_wp2_with fail
    refine G1.mono ?_
    rintro e w6 ⟨rfl, H6⟩
    clear G1
    have HB6 : Hid (Below w.heap.size w w6) := HB5.out.1.trans (H6.out.2.below (n := w.heap.size) HB5.out.1.size (fun i e => by have := HB5.out.2; omega))
    have S6 := H6.out.1.below ((Below.refl w6.heap.size w6).alloc (Nat.le_refl _) (.cells #[.int .i64 Z] 3))
    have hgl := H6.out.1.lt
    have G2 := round2_any xs1 g cp Z (w6.alloc (.cells #[.int .i64 Z] 3)) w6.heap.size Z (by simp) hZ.out.2.1 hZ.out.2.2 (by omega) S6 hZ.out.1 (by omega) hZ.out.2.1 hZ.out.2.2
    rw [hl1'.out] at G2
    have hl2 : Hid ((rndL (fun _ => Z) Z xs1).length = xs.length) := by show _ = _; rw [rndL_length]; exact hl1'.out
    generalize rndL (fun _ => Z) Z xs1 = xs2 at *
    generalize rndZ (fun _ => Z) Z xs1 = Z2 at *
    clear S5
    go_wp2_with fail
    refine G2.mono ?_
    rintro e w7 ⟨rfl, H7⟩
    clear G2
    have G3 := pieces_any xs2 g cp w7 H7.out.1 (by rw [hl2.out, ← hl1'.out]; omega)
    rw [hl2.out] at G3
    have HB7 : Hid (Below w.heap.size w w7) := by
      have hA := HB6.out.alloc HB6.out.size (.cells #[.int .i64 Z] 3)
      exact hA.trans (H7.out.2.below (n := w.heap.size) hA.size (fun i e => by have := HB5.out.2; omega))
    go_wp2_with fail
    refine G3.mono ?_
    rintro e w8 ⟨v8, rfl, H8⟩
    go_wp2_with fail
    go_ret2
    refine ⟨f, v8, rfl, HB4.out.2, ?_, HB7.out.trans (H8.out.2.mono HB7.out.size)⟩
    rw [HG.out]
    exact own_mono H8.out.1 HB7.out.size
end Go.Proofs.Ytbjibmfehphffaa.RO
