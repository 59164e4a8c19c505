/-
  What the cursor's message answers, by the plain mathematics; the contracts of the deferred function that catches a panic.
-/
import Derived.Test.YtcgojnofkbjinaaDoorWireMessage
import Derived.Defers
import Derived.Recover
namespace Go.Proofs.YtcgojnofkbjinaaDoor
open Go.ChangeShapes Go.WideShapes Go.ChangeAt Go.RowKit Go.Lib

theorem message_any (b : Nat) (s : ByteArray) (w : World) (hc : Cur w b s 0) (hs : s.size ≤ 100000) :
    Calls Tryd.prog 16 #[.pointer (some ⟨b, 0, none⟩)] w fun e w' => But (fun j => j = b) w w' ∧
      (((openE s.data.toList).2.2 = 0 ∧ e = .returned (.string (mk (openE s.data.toList).1)) ∧ Cur w' b s (openE s.data.toList).2.1) ∨ ((openE s.data.toList).2.2 ≠ 0 ∧ e = gaveUp (openE s.data.toList).2.2)) := by
  unfold openE
  by_cases hb : begR beginL s.data.toList = 0
  · have h12 : 12 ≤ s.size := by
      have := congrArg List.length (begR_zero _ _ hb)
      rw [List.length_take, ← size_eq] at this
      have e : beginL.length = 12 := rfl
      omega
    rw [if_pos hb]
    by_cases hl : (lenR (s.data.toList.drop 12) 0 0).2.2 = 0
    · rw [if_pos hl]
      obtain ⟨N, p, hN⟩ : ∃ N p, lenR (s.data.toList.drop 12) 0 0 = (N, p, 0) := ⟨_, _, Prod.ext rfl (Prod.ext rfl hl)⟩
      obtain ⟨_, hp, _⟩ := len_head hN
      rw [List.length_drop, ← size_eq] at hp
      rw [hN]
      dsimp only
      unfold restE
      have hz := size_eq s
      by_cases h1 : s.data.toList.length < 12 + p + N + 7
      · rw [if_pos h1]
        refine Calls.mono (R := fun e w' => But (fun j => j = b) w w' ∧ e = gaveUp 100) ?_ (by rintro e w' ⟨x, y⟩; exact ⟨x, .inr ⟨by decide, y⟩⟩)
        by_cases h2 : s.size < 12 + p + N
        · exact message_short b s w hc hs hb h12 N p hN (by omega) h2
        · exact message_short7 b s w hc hs hb h12 N p _ _ hN rfl rfl (by omega) (by omega)
      · rw [if_neg h1]
        have eT : (s.extract 0 (12 + p + N)).data.toList = s.data.toList.take (12 + p + N) := by rw [ext_head, mk_list]
        have e7 : s.extract (12 + p + N) (12 + p + N + 7) = mk ((s.data.toList.drop (12 + p + N)).take 7) := by rw [ext_list]; congr 2; omega
        have eB : s.extract (12 + p) (12 + p + N) = mk ((s.data.toList.drop (12 + p)).take N) := by rw [ext_list]; congr 2; omega
        by_cases h3 : (s.data.toList.drop (12 + p + N)).take 7 = trailL (s.data.toList.take (12 + p + N))
        · rw [if_pos h3]
          by_cases h4 : (fieldsL ((s.data.toList.drop (12 + p)).take N)).2.2 = 0
          · rw [if_pos h4]
            refine (message_ok b s w hc hs hb h12 N p _ _ _ hN rfl rfl rfl (by omega) _ rfl (by rw [e7, eT, h3]) (by rw [eB, mk_list]; exact h4)).mono ?_
            rintro e w' ⟨x, y, z⟩
            exact ⟨x, .inl ⟨rfl, by rw [y, eB], z⟩⟩
          · rw [if_neg h4]
            refine (message_fields b s w hc hs hb h12 N p _ _ _ hN rfl rfl rfl (by omega) _ rfl (by rw [e7, eT, h3]) _ (by rw [eB, mk_list]) h4).mono ?_
            rintro e w' ⟨x, y⟩
            exact ⟨x, .inr ⟨h4, y⟩⟩
        · rw [if_neg h3]
          refine (message_sum b s w hc hs hb h12 N p _ _ _ hN rfl rfl rfl (by omega) _ rfl (by
            rw [e7, eT]
            exact fun e => h3 (by
              have := congrArg (fun x : ByteArray => x.data.toList) e
              simpa [mk] using this))).mono ?_
          rintro e w' ⟨x, y⟩
          exact ⟨x, .inr ⟨by decide, y⟩⟩
    · rw [if_neg hl]
      refine (message_length b s w hc hs hb h12 _ rfl hl).mono ?_
      rintro e w' ⟨x, y⟩
      exact ⟨x, .inr ⟨hl, y⟩⟩
  · rw [if_neg hb]
    refine (message_begin b s w hc hs _ rfl hb).mono ?_
    rintro e w' ⟨x, y⟩
    exact ⟨x, .inr ⟨hb, y⟩⟩
/-- Nothing was given up: the deferred function turns nothing. -/
theorem catch_idle (p q r : Addr) (w : World) :
    CallsD Tryd.prog 15 #[.pointer (some p), .pointer (some q), .pointer (some r)] .returning w fun e u' w' => e = .returned (.tuple #[]) ∧ u' = .returning ∧ w' = w := by
  refine callsD_of_wpS Tryd.func15 rfl fun c₀ cs hu => ?_
  apply wpS_seq
  apply wpS_region
  simp [wpOpsS, go_sem, recoverD, hu, Tryd.ntmps15, Exit.thenS]
  refine wpS_of_wp ?_
  change Code.wp Tryd.prog _ _ { tmps := #[.pointer (some p), .pointer (some q), .pointer (some r), .nilIface, .nilIface, undef, undef, undef, undef], defers := [] } w
  go_wp2_with fail
  cases c₀
  simp_all [bodyPostS, results, Tryd.results15]
/-- A panic by an error's number is caught: the three results are told. -/
theorem catch_gave (p q r : Nat) (c : Nat) (v0 v1 v2 : Value) (w : World) (h0 : w.cell? ⟨p, 0, none⟩ = some v0) (h1 : w.cell? ⟨q, 0, none⟩ = some v1) (h2 : w.cell? ⟨r, 0, none⟩ = some v2)
    (f0 : w.frozen? ⟨p, 0, none⟩ = false) (f1 : w.frozen? ⟨q, 0, none⟩ = false) (f2 : w.frozen? ⟨r, 0, none⟩ = false) (pq : p ≠ q) (pr : p ≠ r) (qr : q ≠ r) :
    CallsD Tryd.prog 15 #[.pointer (some ⟨p, 0, none⟩), .pointer (some ⟨q, 0, none⟩), .pointer (some ⟨r, 0, none⟩)] (.panicking [{ v := .iface 26 (.int .i64 (c : Int)), recovered := false }]) w fun e u' w' =>
      e = .returned (.tuple #[]) ∧ u' = .panicking [{ v := .iface 26 (.int .i64 (c : Int)), recovered := true }] ∧ w'.cell? ⟨p, 0, none⟩ = some (.string ⟨#[]⟩) ∧ w'.cell? ⟨q, 0, none⟩ = some (.int .i64 0) ∧ w'.cell? ⟨r, 0, none⟩ = some (.int .i64 (c : Int)) ∧ But (fun j => j = p ∨ j = q ∨ j = r) w w' := by
  have ha : ∀ w, (Instr.typeAssert (.iface 26 (.int .i64 (c : Int))) 20 26 false).run Tryd.prog w = .ok (.int .i64 (c : Int)) w := fun _ => by kernel_rfl
  refine callsD_of_wpS Tryd.func15 rfl fun c₀ cs hu => ?_
  apply wpS_seq
  apply wpS_region
  simp [wpOpsS, go_sem, recoverD, hu, Tryd.ntmps15, Exit.thenS]
  refine wpS_of_wp ?_
  change Code.wp Tryd.prog _ _ { tmps := #[.pointer (some ⟨p, 0, none⟩), .pointer (some ⟨q, 0, none⟩), .pointer (some ⟨r, 0, none⟩), .iface 26 (.int .i64 (c : Int)), .iface 26 (.int .i64 (c : Int)), undef, undef, undef, undef], defers := [] } w
  go_wp2_with fail
  go_region
  have n0 : ∀ a b : Nat, a ≠ b → (⟨a, 0, none⟩ : Addr) ≠ ⟨b, 0, none⟩ := fun a b h e => h (by injection e)
  have g1 : (w.setCell ⟨p, 0, none⟩ (.string ⟨#[]⟩)).cell? ⟨q, 0, none⟩ = some v1 := by rw [World.cell?_setCell_other _ _ _ _ (n0 _ _ pq)]; exact h1
  have g2 : ((w.setCell ⟨p, 0, none⟩ (.string ⟨#[]⟩)).setCell ⟨q, 0, none⟩ (.int .i64 0)).cell? ⟨r, 0, none⟩ = some v2 := by
    rw [World.cell?_setCell_other _ _ _ _ (n0 _ _ qr), World.cell?_setCell_other _ _ _ _ (n0 _ _ pr)]; exact h2
  refine ⟨rfl, _, rfl, _, results_none rfl _ _ _, rfl, rfl, ?_, ?_, ?_, ?_⟩
  · show (((w.setCell ⟨p, 0, none⟩ (.string ⟨#[]⟩)).setCell ⟨q, 0, none⟩ (.int .i64 0)).setCell ⟨r, 0, none⟩ (.int .i64 (c : Int))).cell? ⟨p, 0, none⟩ = _
    rw [World.cell?_setCell_other _ _ _ _ (n0 _ _ pr.symm), World.cell?_setCell_other _ _ _ _ (n0 _ _ pq.symm)]
    exact World.cell?_setCell_same _ _ _ h0
  · show (((w.setCell ⟨p, 0, none⟩ (.string ⟨#[]⟩)).setCell ⟨q, 0, none⟩ (.int .i64 0)).setCell ⟨r, 0, none⟩ (.int .i64 (c : Int))).cell? ⟨q, 0, none⟩ = _
    rw [World.cell?_setCell_other _ _ _ _ (n0 _ _ qr.symm)]
    exact World.cell?_setCell_same _ _ _ g1
  · exact World.cell?_setCell_same _ _ _ g2
  · exact ((((But.refl (fun j => j = p ∨ j = q ∨ j = r) w).setCell p 0 _ (fun _ => .inl rfl)).setCell q 0 _ (fun _ => .inr (.inl rfl))).setCell r 0 _ (fun _ => .inr (.inr rfl))).drew
end Go.Proofs.YtcgojnofkbjinaaDoor
