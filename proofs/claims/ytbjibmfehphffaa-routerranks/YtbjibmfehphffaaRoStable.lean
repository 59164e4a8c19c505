/-
  Contract of the library's stable sort, at offers: of up to 1000 of them.
-/
import Derived.Test.YtbjibmfehphffaaRoSymC
import Derived.Test.YtbjibmfehphffaaStBlocks
namespace Go.Proofs.Ytbjibmfehphffaa.RO
open Go.ChangeShapes Go.WideShapes Go.ChangeAt Go.RowKit Go.Proofs.Ytbjibmfehphffaa.ST

set_option maxRecDepth 100000 in
set_option maxHeartbeats 8000000 in
theorem stable_all {n : Nat} (hn : n ≤ 1000) : StableAt n := by
  intro L cap bk w h
  have HSY : Hid (SymAt n) := sym_all n
  have HS0 : Hid (Bq (ltP L) 1 20 n (0 * 20) id ∧ Sor w w bk n L id) := ⟨Bq.start _ _ _, h, But.refl _ _⟩
  have tn : (n : Int) ≤ 1000 := by omega
  clear h
  go_enter Try.func45, Try.ntmps45
  go_wp2_with fail
  go_loopw [7, 8] (fun x y wr => ∃ (A t : Nat) (f : Nat → Nat), x = .int .i64 (A : Int) ∧ y = .int .i64 ((A : Int) + 20) ∧ A ≤ n ∧ Hid (A = t * 20 ∧ Bq (ltP L) 1 20 n (t * 20) f ∧ Sor w wr bk n L f)) (fun x _ _ => n + 100 - (RowKit.intOf x).toNat)
  case atStart => exact ⟨0, 0, id, rfl, rfl, Nat.zero_le _, rfl, HS0.out⟩
  case round =>
    obtain ⟨A, t, f, rfl, rfl, hA, HI⟩ := hrel
    have same : ∀ k, A ≤ k → k < n → f k = k := fun k h1 h2 => HI.out.2.1.same k (by rw [← HI.out.1]; exact h1) h2
    by_cases hlt : A + 20 ≤ n
    · have t1 : (A : Int) + 20 ≤ (n : Int) := by omega
      have F := ins_any L f n A (A + 20) cap bk wr HI.out.2.2.1 (by omega) hlt (by omega) (fun k l h1 h2 h3 => by rw [same k h1 (by omega), same l (by omega) (by omega)]; exact h2)
      rw [show ((A + 20 : Nat) : Int) = (A : Int) + 20 by omega] at F
      clear same
      go_wp2_with fail
      refine F.mono ?_
      rintro e w2 ⟨⟨v, rfl⟩, f', H2⟩
      have HN : Hid (A + 20 = (t + 1) * 20 ∧ Bq (ltP L) 1 20 n ((t + 1) * 20) f' ∧ Sor w w2 bk n L f') := by
        have e := HI.out.1
        have e2 : A + 20 = (t + 1) * 20 := by rw [Nat.add_mul]; omega
        have p := H2.out.1
        have s := H2.out.2.1
        rw [e] at p s
        refine ⟨e2, ?_, H2.out.2.2.1, HI.out.2.2.2.trans H2.out.2.2.2 (fun _ _ e => e)⟩
        have := HI.out.2.1.next (t := t) (V := 20) (b := t * 20 + 20) (by omega) (by omega) (by omega) p s
        rw [show (t + 1) * 20 = t * 20 + 20 by omega]
        exact this
      clear F
      go_wp2_with fail
      go_roundw
      case rel => exact ⟨A + 20, t + 1, f', by first | rfl | simp, by first | rfl | (simp; omega), by omega, HN.out⟩
      case measure => simp [RowKit.intOf] <;> omega
    · have t1 : ¬ (A : Int) + 20 ≤ (n : Int) := by omega
      have F := ins_any L f n A n cap bk wr HI.out.2.2.1 hA (Nat.le_refl _) (by omega) (fun k l h1 h2 h3 => by rw [same k h1 (by omega), same l (by omega) h3]; exact h2)
      clear same
      go_wp2_with fail
      refine F.mono ?_
      rintro e w2 ⟨⟨v, rfl⟩, f', H2⟩
      have HN : Hid (Bq (ltP L) 20 (2 * 20) n (0 * (2 * 20)) f' ∧ Sor w w2 bk n L f') := by
        have e := HI.out.1
        have p := H2.out.1
        have s := H2.out.2.1
        rw [e] at p s
        exact ⟨(HI.out.2.1.next (t := t) (V := 20) (b := n) (Nat.le_refl _) (by omega) (by omega) p s).wider, H2.out.2.2.1, HI.out.2.2.2.trans H2.out.2.2.2 (fun _ _ e => e)⟩
      clear F HI H2 t1 hlt hA
      go_wp2_with fail
      go_loopw [6] (fun x wr => ∃ (W : Nat) (f : Nat → Nat), x = .int .i64 (W : Int) ∧ 20 ≤ W ∧ W ≤ 5000 ∧ Hid (Bq (ltP L) W (2 * W) n (0 * (2 * W)) f ∧ Sor w wr bk n L f)) (fun x _ => 10000 - (RowKit.intOf x).toNat)
      case atStart => exact ⟨20, f', rfl, Nat.le_refl _, by omega, HN.out⟩
      case round =>
        obtain ⟨W, g, rfl, hW1, hW2, HG⟩ := hrel
        by_cases hWn : W < n
        · have tW : (W : Int) < (n : Int) := by omega
          obtain ⟨V, hV⟩ : ∃ V, 2 * W = V := ⟨_, rfl⟩
          have e1 : (2 : Int) * (W : Int) = (V : Int) := by omega
          have e2 : (W : Int) * (2 : Int) = (V : Int) := by omega
          have HV : Hid (2 * W = V) := hV
          have hV1 : V ≤ 2 * W := by omega
          have hV2 : 2 * W ≤ V := by omega
          clear hV
          go_wp2_with fail
          go_loopw [7, 8] (fun x y wr2 => ∃ (A t : Nat) (f : Nat → Nat), x = .int .i64 (A : Int) ∧ y = .int .i64 ((A : Int) + (V : Int)) ∧ A ≤ n ∧ Hid (A = t * (2 * W) ∧ Bq (ltP L) W (2 * W) n (t * (2 * W)) f ∧ Sor w wr2 bk n L f)) (fun x _ _ => n + 10000 - (RowKit.intOf x).toNat)
          case atStart => exact ⟨0, 0, g, rfl, by simp, Nat.zero_le _, by simp, HG.out⟩
          case round =>
            obtain ⟨A, t, f, rfl, rfl, hA, HI⟩ := hrel
            by_cases hlt : A + V ≤ n
            · have t1 : (A : Int) + (V : Int) ≤ (n : Int) := by omega
              have F := HSY.out L f n A (A + W) (A + V) cap bk wr HI.out.2.2.1 (by
                have e := HI.out.1
                have := HI.out.2.1.runs (t := t) (b := A + V) hlt (by omega) (by omega)
                rw [← e] at this
                exact this) (by omega) (by omega) hlt (by omega) (by omega)
              rw [show ((A + W : Nat) : Int) = (A : Int) + (W : Int) by omega, show ((A + V : Nat) : Int) = (A : Int) + (V : Int) by omega] at F
              go_wp2_with fail
              refine F.mono ?_
              rintro e w3 ⟨⟨v, rfl⟩, f2, H3⟩
              have HN2 : Hid (A + V = (t + 1) * (2 * W) ∧ Bq (ltP L) W (2 * W) n ((t + 1) * (2 * W)) f2 ∧ Sor w w3 bk n L f2) := by
                have e := HI.out.1
                have e2 : (t + 1) * (2 * W) = t * (2 * W) + 2 * W := by rw [Nat.add_mul, Nat.one_mul]
                have p := H3.out.1
                have s := H3.out.2.1
                rw [show A + V = t * (2 * W) + 2 * W by omega] at p s
                rw [e] at p s
                refine ⟨by omega, ?_, H3.out.2.2.1, HI.out.2.2.2.trans H3.out.2.2.2 (fun _ _ e => e)⟩
                rw [e2]
                exact HI.out.2.1.next (t := t) (b := t * (2 * W) + 2 * W) (by omega) (by omega) (Nat.le_refl _) p s
              clear F
              go_wp2_with fail
              go_roundw
              case rel => exact ⟨A + V, t + 1, f2, by first | rfl | simp, by first | rfl | (simp; omega), by omega, HN2.out⟩
              case measure => simp [RowKit.intOf] <;> omega
            · have t1 : ¬ (A : Int) + (V : Int) ≤ (n : Int) := by omega
              by_cases hm : A + W < n
              · have t2 : (A : Int) + (W : Int) < (n : Int) := by omega
                have F := HSY.out L f n A (A + W) n cap bk wr HI.out.2.2.1 (by
                  have e := HI.out.1
                  have := HI.out.2.1.runs (t := t) (b := n) (Nat.le_refl _) (by omega) (by omega)
                  rw [← e] at this
                  exact this) (by omega) (by omega) (Nat.le_refl _) (by omega) (by omega)
                rw [show ((A + W : Nat) : Int) = (A : Int) + (W : Int) by omega] at F
                go_wp2_with fail
                refine F.mono ?_
                rintro e w3 ⟨⟨v, rfl⟩, f2, H3⟩
                have HB : Hid (Bq (ltP L) W (2 * W) n n f2) := by
                  have e := HI.out.1
                  have p := H3.out.1
                  have s := H3.out.2.1
                  rw [e] at p s
                  exact HI.out.2.1.next (t := t) (b := n) (Nat.le_refl _) (by omega) (by omega) p s
                clear F
                have HN2 : Hid (Bq (ltP L) V (2 * V) n (0 * (2 * V)) f2 ∧ Sor w w3 bk n L f2) := by rw [← HV.out]; exact ⟨HB.out.wider, H3.out.2.2.1, HI.out.2.2.2.trans H3.out.2.2.2 (fun _ _ e => e)⟩
                clear HB
                go_wp2_with fail
                go_roundw
                case rel => exact ⟨V, f2, by first | rfl | simp, by omega, by omega, HN2.out⟩
                case measure => simp [RowKit.intOf] <;> omega
              · have t2 : ¬ (A : Int) + (W : Int) < (n : Int) := by omega
                obtain ⟨f2, hf2⟩ : ∃ f2, f2 = f := ⟨_, rfl⟩
                subst hf2
                have HB : Hid (Bq (ltP L) W (2 * W) n n f2) := by
                  have e := HI.out.1
                  exact HI.out.2.1.last (t := t) (by omega) (by omega)
                have HN2 : Hid (Bq (ltP L) V (2 * V) n (0 * (2 * V)) f2 ∧ Sor w wr bk n L f2) := by rw [← HV.out]; exact ⟨HB.out.wider, HI.out.2.2.1, HI.out.2.2.2⟩
                clear HB
                go_wp2_with fail
                go_roundw
                case rel => exact ⟨V, f2, by first | rfl | simp, by omega, by omega, HN2.out⟩
                case measure => simp [RowKit.intOf] <;> omega
        · have tW : ¬ (W : Int) < (n : Int) := by omega
          have HE : Hid (Ranked L n g) := ⟨HG.out.1.pm, fun k l _ kl hl => HG.out.1.rest k l (by omega) kl hl (by rw [Nat.div_eq_of_lt (by omega), Nat.div_eq_of_lt (by omega)])⟩
          go_wp2_with fail
          go_end0
          exact ⟨⟨_, rfl⟩, g, HE.out, HG.out.2⟩
end Go.Proofs.Ytbjibmfehphffaa.RO
