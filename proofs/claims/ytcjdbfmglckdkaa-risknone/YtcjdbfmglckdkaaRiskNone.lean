/-
  RiskNone: of a book that is none nothing is reserved. For every step, no condition.
-/
import Derived.Test.YtcjdbfmglckdkaaRkAwake
import Derived.Test.YtcjdbfmglckdkaaFrame17
namespace Go.Proofs.Ytcjdbfmglckdkaa
open Go.ChangeShapes Go.WideShapes Go.ChangeAt Go.RowKit Go.Lib RK

/-- What the loop stands on: the step in block ob, the empty book in block q, the two pointers behind it. -/
structure NoneAt (w wr : World) (ob q : Nat) (a s n : Int) : Prop where
  bel : Below w.heap.size w wr
  c1 : wr.cell? ⟨ob, 1, none⟩ = some (.int .i64 a)
  c2 : wr.cell? ⟨ob, 2, none⟩ = some (.int .i64 s)
  c3 : wr.cell? ⟨ob, 3, none⟩ = some (.int .i64 n)
  e0 : wr.cell? ⟨q, 0, none⟩ = some (.slice none 0 0)
  l0 : wr.cell? ⟨q + 1, 0, none⟩ = some (.pointer none)
  l1 : wr.cell? ⟨q + 1, 1, none⟩ = some (.pointer (some ⟨q, 0, none⟩))
theorem NoneAt.drewN {w wr : World} {ob q : Nat} {a s n : Int} (h : NoneAt w wr ob q a s n) (m : Nat) : NoneAt w (wr.drewN m) ob q a s n := ⟨below_more h.bel m, h.c1, h.c2, h.c3, h.e0, h.l0, h.l1⟩
set_option maxRecDepth 100000 in
set_option maxHeartbeats 16000000 in
theorem riskNone_walk (w : World) (k a s n : Int) : Calls Try.prog 4 #[.agg #[.int .i64 k, .int .i64 a, .int .i64 s, .int .i64 n]] w fun e w' => e = .returned (.bool true) ∧ Below w.heap.size w w' := by
  have b0 := (Below.refl _ w).alloc (Nat.le_refl _) (.cells #[.int .i64 k, .int .i64 a, .int .i64 s, .int .i64 n] 33)
  have F1 := awake_any (w.alloc (.cells #[.int .i64 k, .int .i64 a, .int .i64 s, .int .i64 n] 33))
  have f1 : (w.alloc (.cells #[.int .i64 k, .int .i64 a, .int .i64 s, .int .i64 n] 33)).cell? ⟨w.heap.size, 1, none⟩ = some (.int .i64 a) := by simp
  have f2 : (w.alloc (.cells #[.int .i64 k, .int .i64 a, .int .i64 s, .int .i64 n] 33)).cell? ⟨w.heap.size, 2, none⟩ = some (.int .i64 s) := by simp
  have f3 : (w.alloc (.cells #[.int .i64 k, .int .i64 a, .int .i64 s, .int .i64 n] 33)).cell? ⟨w.heap.size, 3, none⟩ = some (.int .i64 n) := by simp
  have HF : Hid (_ ∧ _ ∧ _ ∧ _) := ⟨b0, f1, f2, f3⟩
  obtain ⟨ob, hob⟩ : ∃ ob, ob = w.heap.size := ⟨_, rfl⟩
  clear b0 f1 f2 f3
  go_enter Try.func4, Try.ntmps4
  go_wp2_with fail
  refine F1.mono ?_
  rintro e w1 ⟨rfl, hb⟩
  have I : Hid (NoneAt w ((w1.alloc (.cells #[.slice none 0 0, .slice none 0 0] 39)).alloc (.cells #[.pointer none, .pointer (some ⟨w1.heap.size, 0, none⟩)] 25)) ob w1.heap.size a s n) := by
    obtain ⟨b0, f1, f2, f3⟩ := HF.out
    have z1 := hb.size
    have z0 : w.heap.size < (w.alloc (.cells #[.int .i64 k, .int .i64 a, .int .i64 s, .int .i64 n] 33)).heap.size := by simp
    have hl : w.heap.size < w1.heap.size := by omega
    have b2 := ((Below.refl w1.heap.size w1).alloc (Nat.le_refl _) (.cells #[.slice none 0 0, .slice none 0 0] 39)).alloc (by simp) (.cells #[.pointer none, .pointer (some ⟨w1.heap.size, 0, none⟩)] 25)
    have g : ∀ j x, (w.alloc (.cells #[.int .i64 k, .int .i64 a, .int .i64 s, .int .i64 n] 33)).cell? ⟨w.heap.size, j, none⟩ = some x → ((w1.alloc (.cells #[.slice none 0 0, .slice none 0 0] 39)).alloc (.cells #[.pointer none, .pointer (some ⟨w1.heap.size, 0, none⟩)] 25)).cell? ⟨w.heap.size, j, none⟩ = some x := fun j x e => by
      rw [b2.cell (p := ⟨w.heap.size, j, none⟩) hl, hb.cell (p := ⟨w.heap.size, j, none⟩) z0]; exact e
    rw [hob]
    exact ⟨b0.trans ((hb.mono (by omega)).trans (b2.mono (by omega))), g 1 _ f1, g 2 _ f2, g 3 _ f3, by simp, by simp, by simp⟩
  clear HF hb
  go_wp2_with fail
  rw [← hob]
  generalize (w1.alloc (.cells #[.slice none 0 0, .slice none 0 0] 39)).alloc (.cells #[.pointer none, .pointer (some ⟨w1.heap.size, 0, none⟩)] 25) = w3 at *
  generalize w1.heap.size = q at *
  clear hob F1
  go_loopw [16] (fun c wr => ∃ j : Nat, c = .int .i64 (j : Int) ∧ j ≤ 2 ∧ Hid (NoneAt w wr ob q a s n)) (fun c _ => 2 - (RowKit.intOf c).toNat)
  case atStart => exact ⟨0, rfl, by omega, I.out⟩
  case round =>
    clear I
    obtain ⟨j, rfl, hj, I⟩ := hrel
    by_cases hlt : j < 2
    · obtain ⟨o, l0, NB⟩ : ∃ o, wr.cell? ⟨q + 1, j, none⟩ = some (.pointer o) ∧ ∀ m, NoBook (wr.drewN m) (.pointer o) := by
        by_cases j0 : j = 0
        · subst j0; exact ⟨_, I.out.l0, fun _ => .inl rfl⟩
        · obtain rfl : j = 1 := by omega
          exact ⟨_, I.out.l1, fun _ => .inr ⟨_, rfl, I.out.e0⟩⟩
      have t0 : (j : Int) < 2 := by omega
      have t1 : (0 : Int) ≤ (j : Int) := by omega
      have G0 := heldN (NB 0) s
      have G1 := fun q => resN (NB q) a s n
      have G2 := fun q => rszN (NB q) s n
      have G3 := fun q => stlN (NB q) s n
      have G4 := fun q => undN (NB q) a n
      have G5 := fun q => usedN (NB q) a
      have G6 := fun q => realN (NB q) a
      have G7 := fun q => leftN (NB q) a
      have c1 := I.out.c1
      have c2 := I.out.c2
      have c3 := I.out.c3
      clear NB
      go_wp2_with fail
      refine G0.mono ?_
      rintro e w7 ⟨rfl, rfl⟩
      clear G0 l0 t0 t1
      go_wp2_with fail
      go_region_held3 (fun w' => w'.cell? ⟨ob, 1, none⟩ = some (.int .i64 a) ∧ w'.cell? ⟨ob, 2, none⟩ = some (.int .i64 s) ∧ w'.cell? ⟨ob, 3, none⟩ = some (.int .i64 n)) (go_keep) (first
        | (go_at_call 14; refine (G1 _).mono ?_; rintro e w8 ⟨rfl, rfl⟩)
        | (go_at_call 15; refine (G2 _).mono ?_; rintro e w8 ⟨rfl, rfl⟩)
        | (go_at_call 16; refine (G3 _).mono ?_; rintro e w8 ⟨rfl, rfl⟩)
        | (go_at_call 17; refine (G4 _).mono ?_; rintro e w8 ⟨rfl, rfl⟩)
        | (go_at_call 18; refine (G5 _).mono ?_; rintro e w8 ⟨rfl, rfl⟩)
        | (go_at_call 19; refine (G6 _).mono ?_; rintro e w8 ⟨rfl, rfl⟩)
        | (go_at_call 20; refine (G7 _).mono ?_; rintro e w8 ⟨rfl, rfl⟩))
      go_wp2_with fail
      go_roundw
      case rel => exact ⟨j + 1, by simp, by omega, I.out.drewN _⟩
      case measure => simp [RowKit.intOf]; omega
    · obtain rfl : j = 2 := by omega
      go_wp2_with fail
      go_ret
      exact ⟨rfl, I.out.bel⟩
theorem riskNone_own : ownKnob Try.prog.godebug = none := by kernel_rfl
theorem riskNone_laidOut : laidOutB Try.prog = true := by kernel_rfl
set_option maxRecDepth 100000 in
theorem riskNone_lifted (os : Os) (started : os.Started) (H : Type) (enc : TypeId × Value → H) :
    ReturnsInHanded {} Try.checked os 4 .any (Rows.riskNoneSpec.pre6 enc Try.prog Try.f4 Rows.riskNoneRow.domain false) (Rows.riskNoneSpec.post enc Try.prog Try.f4 false true false false) := by
  refine returnsInHanded_of_change (C := Try.checked) riskNone_own started (by kernel_rfl) Try.func4
    (ChangeSpec.witness6 (enc := enc) (C := Try.checked) false ⟨#[], #[.agg #[.int .i64 0, .int .i64 0, .int .i64 0, .int .i64 0]], []⟩ 8 (by kernel_rfl) (by kernel_rfl) (by kernel_rfl) (by kernel_rfl)) ?_
  intro W base args ds gs before hval0 hW hcnd _
  have hval : ∀ (j : Nat) t v, Try.f4.params[j]? = some t → args[j]? = some v → Value.okWide Try.prog W .any base t v := hval0
  have hW' := hW
  obtain ⟨p, q, hA0, hV, rfl, hfz, hnd⟩ := hW
  have hA : DataW.TrodAll enc Try.prog W 0 (fun _ => true) true Try.f4.params.toList args.toList ds p := hA0
  rw [Try.params4] at hA hval
  obtain ⟨v0, vs0, d0, ds0, p0, q0, hargs, rfl, rfl, h0, r0⟩ := trodAll_cons hA
  obtain ⟨rfl, rfl, rfl⟩ := trodAll_nil r0
  obtain rfl : args = #[v0] := by cases args; simp_all
  obtain ⟨rfl, rfl⟩ := trodVars_none hV
  obtain ⟨f00, f01, f02, f03, y00, y01, y02, y03, m0, rfl, rfl, rfl, g00, g01, g02, g03⟩ := Joins.open_agg4 Try.underlying33 (by kernel_rfl) (by kernel_rfl) (hval 0 33 v0 rfl rfl) h0
  obtain ⟨b0, eb0, rfl, wb0⟩ := DataW.trod_int Try.underlying3 g00
  obtain ⟨x0, ex0, rfl, wx0⟩ := DataW.trod_int Try.underlying3 g01
  obtain ⟨y0, ey0, rfl, wy0⟩ := DataW.trod_int Try.underlying3 g02
  obtain ⟨z0, ez0, rfl, wz0⟩ := DataW.trod_int Try.underlying3 g03
  simp only [List.cons.injEq, and_true] at eb0 ex0 ey0 ez0
  subst eb0 ex0 ey0 ez0
  clear hA0 hval0
  simp only [List.append_nil] at hW'
  refine (riskNone_walk W b0 x0 y0 z0).mono fun e W' ⟨he, bel⟩ => ?_
  subst he
  exact ⟨_, rfl, _, _, _, [], _, [], hW', trodAll_mk1 (shut_bool Try.underlying4 _), (trodAll_cons_mk (Joins.shut_agg4 (P := Try.prog) (y0 := (.lit (.int .i64 b0), [])) (y1 := (.lit (.int .i64 x0), [])) (y2 := (.lit (.int .i64 y0), [])) (y3 := (.lit (.int .i64 z0), [])) Try.underlying33 (by kernel_rfl) (by kernel_rfl) ⟨1, by simp [DataW.trod, Try.underlying3, wb0]⟩ ⟨1, by simp [DataW.trod, Try.underlying3, wx0]⟩ ⟨1, by simp [DataW.trod, Try.underlying3, wy0]⟩ ⟨1, by simp [DataW.trod, Try.underlying3, wz0]⟩) trodAll_mk0), rfl, bel.frame _, fun h => by cases h⟩

/-- THE STATEMENT. -/
theorem riskNone_proved : Rows.RiskNoneSaid :=
  OpenClaim.holds_of_wide 4 Try.f4 rfl rfl rfl rfl rfl rfl rfl ⟨rfl, rfl, rfl, rfl, rfl⟩ rfl rfl rfl rfl rfl (by kernel_rfl) Try.func4 (by kernel_rfl)
    (of_decide_eq_true (by kernel_rfl)) (by unfold Func.isWrapper; first | (rw [if_pos (by decide +kernel)]; kernel_rfl) | (rw [if_neg (by decide +kernel)]; exact ⟨rfl, rfl⟩))
    (fun os started H enc _ => riskNone_lifted os started H enc)
#print axioms riskNone_proved
end Go.Proofs.Ytcjdbfmglckdkaa
