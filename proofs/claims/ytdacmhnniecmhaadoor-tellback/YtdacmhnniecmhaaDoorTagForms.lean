/-
  Contracts of tag's Form and Forms: the form of a field, and of a list of them.
-/
import Derived.Test.YtdacmhnniecmhaaDoorTagRun
import Derived.Test.YtdacmhnniecmhaaDoorTagRows
namespace Go.Proofs.YtdacmhnniecmhaaDoor
open Go.ChangeShapes Go.WideShapes Go.ChangeAt Go.RowKit Go.Lib

theorem bcell {B : Nat} {w w' : World} (h : Below B w w') : (∀ k o, k < B → w'.cell? ⟨k, o, none⟩ = w.cell? ⟨k, o, none⟩) ∧ ∀ k o, k < B → w'.frozen? ⟨k, o, none⟩ = w.frozen? ⟨k, o, none⟩ :=
  ⟨fun k o hk => h.cell (p := ⟨k, o, none⟩) hk, fun k o hk => h.frozen (p := ⟨k, o, none⟩) hk⟩
theorem form_glue (n : Nat) (v : ByteArray) : mk (decDigits n) ++ (⟨#[61]⟩ : ByteArray) ++ v ++ (⟨#[1]⟩ : ByteArray) = mk (decDigits n ++ 61 :: (v.data.toList ++ [1])) := by
  apply bytes_ext8
  simp [mk]
/-- The three texts are joined one behind the other. -/
theorem glue_runs (D v X : ByteArray) (h : D ++ (⟨#[61]⟩ : ByteArray) ++ v ++ (⟨#[1]⟩ : ByteArray) = X) (h1 : D.size ≤ 100000) (h2 : v.size ≤ 1000000) : ∃ D1 D2, (∀ w, (Op.stringOp .add D ⟨#[61]⟩).run Tryd.prog w = .ok (.string D1) w) ∧ (∀ w, (Op.stringOp .add D1 v).run Tryd.prog w = .ok (.string D2) w) ∧ (∀ w, (Op.stringOp .add D2 ⟨#[1]⟩).run Tryd.prog w = .ok (.string X) w) := by
  have e1 : (⟨#[61]⟩ : ByteArray).size = 1 := rfl
  have e2 : (⟨#[1]⟩ : ByteArray).size = 1 := rfl
  refine ⟨D ++ (⟨#[61]⟩ : ByteArray), D ++ (⟨#[61]⟩ : ByteArray) ++ v, fun w => ?_, fun w => ?_, fun w => ?_⟩
  · rw [run_string_add_sum]
    omega
  · rw [run_string_add_sum]
    rw [ByteArray.size_append]
    omega
  · rw [run_string_add_sum, h]
    rw [ByteArray.size_append, ByteArray.size_append]
    omega
theorem empty_size (v : ByteArray) : v.toList.isEmpty = decide (v.size = 0) := by
  rw [toList_data, size_eq]
  cases v.data.toList <;> simp
set_option maxRecDepth 1000000 in
set_option maxHeartbeats 4000000 in
theorem form_all (t : Int) (v : ByteArray) (w : World) (P : Pow w) :
    Calls Tryd.prog 41 #[.agg #[.int .i64 t, .string v]] w fun e w' => e = .returned (.tuple #[.string (mk (formE (t, v)).1), .int .i64 ((formE (t, v)).2 : Int)]) ∧ Below w.heap.size w w' := by
  have B0 := (Below.refl _ w).alloc (Nat.le_refl _) (.cells #[.int .i64 t, .string v] 42)
  unfold formE
  dsimp only
  by_cases h1 : t < 1
  · rw [if_pos (.inl h1)]
    go_enter Tryd.func41, Tryd.ntmps41
    go_wp2_with fail
    go_ret2
    exact ⟨rfl, B0⟩
  by_cases h2 : 99999 < t
  · rw [if_pos (.inr h2)]
    go_enter Tryd.func41, Tryd.ntmps41
    go_wp2_with fail
    go_ret2
    exact ⟨rfl, B0⟩
  rw [if_neg (by omega)]
  by_cases h3 : v.size = 0
  · have t3 : v.toList.isEmpty = true := by rw [empty_size, decide_eq_true h3]
    have hvb : valB v.data.toList = false := by
      unfold valB
      rw [decide_eq_false]
      rw [← size_eq]
      omega
    rw [if_pos hvb]
    clear hvb h3
    go_enter Tryd.func41, Tryd.ntmps41
    go_wp2_with fail
    go_quiet (fail)
    go_wp2_with fail
    go_ret2
    exact ⟨rfl, below_more B0 _⟩
  have t3 : v.toList.isEmpty = false := by rw [empty_size, decide_eq_false h3]
  have F := run_any v
  have hle := runM_le 512 v.data.toList
  have hvb : valB v.data.toList = decide (runM 512 v.data.toList = v.size) := by
    unfold valB
    rw [← size_eq]
    congr 1
    apply propext
    omega
  rw [hvb]
  rw [← size_eq] at hle
  obtain ⟨M, hM⟩ : ∃ M, runM 512 v.data.toList = M := ⟨_, rfl⟩
  rw [hM] at F hle ⊢
  clear hM hvb h3
  by_cases h4 : M = v.size
  · rw [decide_eq_true h4, if_neg (by simp)]
    have t4 : ¬ M < v.size := by omega
    obtain ⟨n, rfl⟩ : ∃ n : Nat, t = (n : Int) := ⟨t.toNat, by omega⟩
    rw [Int.toNat_natCast]
    have hn : n ≤ 99999 := by omega
    have I := fun w => itoa_any n hn (w := w)
    have HE : Hid (mk (decDigits n) ++ (⟨#[61]⟩ : ByteArray) ++ v ++ (⟨#[1]⟩ : ByteArray) = mk (decDigits n ++ 61 :: (v.data.toList ++ [1]))) := form_glue n v
    have z1 : (mk (decDigits n)).size ≤ 100000 := by rw [mk_size]; have := digits_len n; omega
    generalize mk (decDigits n ++ 61 :: (v.data.toList ++ [1])) = X at *
    generalize mk (decDigits n) = D at *
    obtain ⟨D1, D2, s1, s2, s3⟩ := glue_runs D v X HE.out z1 (by omega)
    clear h4
    go_enter Tryd.func41, Tryd.ntmps41
    go_wp2_with fail
    go_region_held3 (fun w' => w'.cell? ⟨w.heap.size, 1, none⟩ = some (.string v)) (go_keep) (first
     | (go_at_call 60; refine (F _).mono ?_; rintro e w1 ⟨rfl, hb1⟩; obtain ⟨hc, hf⟩ := bcell hb1; have q0 := hc w.heap.size 1 (by simp); have q1 := hc w.heap.size 0 (by simp); simp at q0 q1))
    have B1 := B0.drew.trans (hb1.mono (by simp))
    have I1 := I w1.drew (P.still B1.drew)
    have z0 : w.heap.size < w1.heap.size := by have := hb1.size; simp at this; omega
    clear I hc hf
    go_wp2_with fail
    go_region_held3 (fun w' => w'.cell? ⟨w.heap.size, 1, none⟩ = some (.string v) ∧ w'.cell? ⟨w.heap.size, 0, none⟩ = some (.int .i64 (n : Int))) (go_keep) (first
     | (go_at_call 18; refine I1.mono ?_; rintro e w2 ⟨rfl, hb2⟩; obtain ⟨hc, hf⟩ := bcell hb2; have u0 := hc w.heap.size 1 z0; have u1 := hc w.heap.size 0 z0; simp [q0, q1] at u0 u1))
    go_wp2_with fail
    go_ret2
    exact ⟨rfl, B1.drew.trans (hb2.mono (Nat.le_of_lt z0))⟩
  · rw [decide_eq_false h4, if_pos rfl]
    have t4 : (M : Int) < (v.size : Int) := by omega
    clear h4
    go_enter Tryd.func41, Tryd.ntmps41
    go_wp2_with fail
    go_region_held3 (fun w' => w'.cell? ⟨w.heap.size, 1, none⟩ = some (.string v)) (go_keep) (first
     | (go_at_call 60; refine (F _).mono ?_; rintro e w1 ⟨rfl, hb1⟩; obtain ⟨hc, hf⟩ := bcell hb1; have q0 := hc w.heap.size 1 (by simp); simp at q0))
    go_wp2_with fail
    go_ret2
    exact ⟨rfl, B0.drew.trans (hb1.mono (by simp))⟩

theorem form_any (t : Int) (v : ByteArray) (w : World) (_ : v.size ≤ 1000000) (P : Pow w) :
    Calls Tryd.prog 41 #[.agg #[.int .i64 t, .string v]] w fun e w' => e = .returned (.tuple #[.string (mk (formE (t, v)).1), .int .i64 ((formE (t, v)).2 : Int)]) ∧ Below w.heap.size w w' := form_all t v w P
theorem formE_len (f : Fd) : (formE f).1.length ≤ 1200000 := by
  unfold formE
  split
  · simp
  · split
    · simp
    · rename_i _ hv
      have h := (valB_true.1 (by simpa using hv)).2.1
      have := digits_len f.1.toNat
      simp only [List.length_append, List.length_cons, List.length_nil]
      omega
theorem drop_fd {L : List Fd} {k : Nat} (h : k < L.length) : L.drop k = L[k] :: L.drop (k + 1) := List.drop_eq_getElem_cons h
set_option maxRecDepth 1000000 in
set_option maxHeartbeats 4000000 in
theorem forms_all (va : Value) (L : List Fd) (w : World) (hF : Flds w va L) (hn : L.length ≤ 1000) (P : Pow w) :
    Calls Tryd.prog 19 #[va] w fun e w' => e = .returned (.tuple #[.string (mk (formsE L).1), .int .i64 ((formsE L).2 : Int)]) ∧ Below w.heap.size w w' := by
  obtain ⟨a, cap, rfl, h1, h2, h3⟩ := id hF
  unfold formsE
  by_cases hbig : 64 < L.length
  · rw [if_pos hbig]
    have t1 : (64 : Int) < (L.length : Int) := by omega
    clear h3
    go_enter Tryd.func19, Tryd.ntmps19
    go_wp2_with fail
    go_ret2
    exact ⟨rfl, Below.refl _ _⟩
  rw [if_neg hbig]
  have t1 : ¬ (64 : Int) < (L.length : Int) := by omega
  obtain ⟨R, e0, hR⟩ : ∃ R e0, formsA L [] = (R, e0) := ⟨_, _, rfl⟩
  rw [hR]
  dsimp only
  have B1 := (Below.refl _ w).alloc (Nat.le_refl _) (.cells #[.pointer none, .slice none 0 0] 80)
  have G1 := Bld.fresh w
  go_enter Tryd.func19, Tryd.ntmps19
  go_wp2_with fail
  go_loopw [14] (fun i wr => ∃ (k : Nat) (acc : List UInt8), i = .int .i64 (k : Int) ∧ k ≤ L.length ∧ acc.length ≤ k * 1200000 ∧ formsA (L.drop k) acc = (R, e0) ∧ Bld w.heap.size w.heap.size acc wr ∧ Below w.heap.size w wr) (fun i _ => L.length - (RowKit.intOf i).toNat)
  case atStart => exact ⟨0, [], rfl, by omega, by simp, by rw [List.drop_zero]; exact hR, G1, B1⟩
  case round =>
    clear hR B1 G1
    obtain ⟨k, acc, rfl, hk, hacc, hg, Q, hB⟩ := hrel
    have hz := hB.size
    have PW := P.still hB
    by_cases hlt : k < L.length
    · have t0 : (k : Int) < (L.length : Int) := by omega
      obtain ⟨b, off, rfl, c0, c1⟩ := h3 k hlt
      have d0 := (hB.cell (World.block_lt_of_cell? _ _ c0)).trans c0
      have d1 := (hB.cell (World.block_lt_of_cell? _ _ c1)).trans c1
      rw [drop_fd hlt, formsA] at hg
      obtain ⟨f, hf⟩ : ∃ f, L[k] = f := ⟨_, rfl⟩
      rw [hf] at d0 d1 hg
      have hl := formE_len f
      have Q1 := Q.still ((Below.refl _ wr).alloc (Nat.le_refl _) (.cells #[.int .i64 f.1, .string f.2] 42))
      have P1 := PW.still ((Below.refl _ wr).alloc (Nat.le_refl _) (.cells #[.int .i64 f.1, .string f.2] 42))
      have F := form_all f.1 f.2 (wr.alloc (.cells #[.int .i64 f.1, .string f.2] 42)) P1
      have hB2 := hB.alloc hz (.cells #[.int .i64 f.1, .string f.2] 42)
      have ef : (f.1, f.2) = f := rfl
      rw [ef] at F
      obtain ⟨x, e1, hX⟩ : ∃ x e1, formE f = (x, e1) := ⟨_, _, rfl⟩
      rw [hX] at F hg hl
      dsimp only at F hg hl
      clear c0 c1 h3 hF hX hf ef
      by_cases he : e1 = 0
      · subst he
        rw [if_pos rfl] at hg
        have HG : Hid (formsA (L.drop (k + 1)) (acc ++ x) = (R, e0)) := hg
        clear hg Q PW
        go_wp2_with fail
        refine F.mono ?_
        rintro e w2 ⟨rfl, hb2⟩
        have Q2 := Q1.still hb2
        have hB3 := hB2.trans (hb2.mono (by simp; omega))
        have z3 := hB3.size
        have G := write_any Q2 (mk x) (by rw [mk_size]; omega) z3
        rw [mk_list] at G
        clear Q1 Q2 P1 F
        go_wp2_with fail
        refine G.mono ?_
        rintro e w3 ⟨rfl, Q3, hb3⟩
        have hB4 := hB3.trans hb3
        go_wp2_with fail
        go_roundw
        case rel => exact ⟨k + 1, acc ++ x, by simp, by omega, by rw [List.length_append]; omega, HG.out, Q3, hB4⟩
        case measure => simp [RowKit.intOf]; omega
      · rw [if_neg he] at hg
        simp only [Prod.mk.injEq] at hg
        obtain ⟨rfl, rfl⟩ := hg
        have t2 : ((e1 : Int) == 0) = false := beq_false_of_ne (by omega)
        clear Q PW Q1 P1
        go_wp2_with fail
        refine F.mono ?_
        rintro e w2 ⟨rfl, hb2⟩
        have hB3 := hB2.trans (hb2.mono (by simp; omega))
        go_wp2_with fail
        go_ret2
        exact ⟨rfl, hB3⟩
    · obtain rfl : k = L.length := by omega
      have t0 : ¬ (L.length : Int) < (L.length : Int) := by omega
      rw [List.drop_length, formsA] at hg
      simp only [Prod.mk.injEq] at hg
      obtain ⟨rfl, rfl⟩ := hg
      have G := string_any Q hz
      clear h3 hF
      go_wp2_with fail
      refine G.mono ?_
      rintro e w2 ⟨rfl, hb2⟩
      go_wp2_with fail
      go_ret2
      exact ⟨rfl, hB.trans hb2⟩
theorem forms_any (va : Value) (L : List Fd) (w : World) (hF : Flds w va L) (_ : ∀ i, (h : i < L.length) → (L[i]).2.size ≤ 1000000) (hn : L.length ≤ 1000) (P : Pow w) :
    Calls Tryd.prog 19 #[va] w fun e w' => e = .returned (.tuple #[.string (mk (formsE L).1), .int .i64 ((formsE L).2 : Int)]) ∧ Below w.heap.size w w' := forms_all va L w hF hn P
end Go.Proofs.YtdacmhnniecmhaaDoor
