/-
  The reference's Form and Forms; what plain makes of a list; that Same says yes of lists that are the same.
-/
import Derived.Test.YtennefdcjgjpiaaDoorTagForms
namespace Go.Proofs.YtennefdcjgjpiaaDoor
open Go.ChangeShapes Go.WideShapes Go.ChangeAt Go.RowKit Go.Lib

set_option maxRecDepth 1000000 in
set_option maxHeartbeats 4000000 in
theorem refForm_any (t : Int) (v : ByteArray) (w : World) (hv : v.size ≤ 1000000) :
    Calls Tryd.prog 9 #[.agg #[.int .i64 t, .string v]] w fun e w' => e = .returned (.tuple #[.string (mk (formE (t, v)).1), .int .i64 ((formE (t, v)).2 : Int)]) ∧ Below w.heap.size w w' := by
  have B0 := (Below.refl _ w).alloc (Nat.le_refl _) (.cells #[.int .i64 t, .string v] 31)
  unfold formE
  dsimp only
  by_cases h1 : t < 1
  · rw [if_pos (.inl h1)]
    go_enter Tryd.func9, Tryd.ntmps9
    go_wp2_with fail
    go_ret2
    exact ⟨rfl, B0⟩
  by_cases h2 : 99999 < t
  · rw [if_pos (.inr h2)]
    go_enter Tryd.func9, Tryd.ntmps9
    go_wp2_with fail
    go_ret2
    exact ⟨rfl, B0⟩
  rw [if_neg (by omega)]
  have F := fun w => refValue_any v w hv
  cases hb : valB v.data.toList
  · rw [hb] at F
    rw [if_pos rfl]
    go_enter Tryd.func9, Tryd.ntmps9
    go_wp2_with fail
    refine (F _).mono ?_
    rintro e w1 ⟨rfl, hb1⟩
    go_wp2_with fail
    go_ret2
    exact ⟨rfl, B0.trans (hb1.mono (by simp))⟩
  · rw [hb] at F
    rw [if_neg (by simp)]
    obtain ⟨n, rfl⟩ : ∃ n : Nat, t = (n : Int) := ⟨t.toNat, by omega⟩
    rw [Int.toNat_natCast]
    have hn : n ≤ 99999 := by omega
    have I := fun w => refDigits_any n hn w
    have HE : Hid (mk (decDigits n) ++ (⟨#[61]⟩ : ByteArray) ++ v ++ (⟨#[1]⟩ : ByteArray) = mk (decDigits n ++ 61 :: (v.data.toList ++ [1]))) := form_glue n v
    have z1 : (mk (decDigits n)).size ≤ 100000 := by rw [mk_size]; have := digits_len n; omega
    generalize mk (decDigits n ++ 61 :: (v.data.toList ++ [1])) = X at *
    generalize mk (decDigits n) = D at *
    obtain ⟨D1, D2, s1, s2, s3⟩ := glue_runs D v X HE.out z1 hv
    clear hb
    go_enter Tryd.func9, Tryd.ntmps9
    go_wp2_with fail
    refine (F _).mono ?_
    rintro e w1 ⟨rfl, hb1⟩
    obtain ⟨hc, hf⟩ := bcell hb1
    have q0 := hc w.heap.size 1 (by simp)
    have q1 := hc w.heap.size 0 (by simp)
    simp at q0 q1
    have B1 := B0.trans (hb1.mono (by simp))
    have z0 : w.heap.size < w1.heap.size := by have := hb1.size; simp at this; omega
    clear hc hf
    go_wp2_with fail
    go_region_held3 (fun w' => w'.cell? ⟨w.heap.size, 1, none⟩ = some (.string v) ∧ w'.cell? ⟨w.heap.size, 0, none⟩ = some (.int .i64 (n : Int))) (go_keep) (first
     | (go_at_call 21; refine (I _).mono ?_; rintro e w2 ⟨rfl, hb2⟩; obtain ⟨hc, hf⟩ := bcell hb2; have u0 := hc w.heap.size 1 z0; have u1 := hc w.heap.size 0 z0; simp [q0, q1] at u0 u1))
    go_wp2_with fail
    go_ret2
    exact ⟨rfl, B1.drew.trans (hb2.mono (Nat.le_of_lt z0))⟩

theorem acc_run (acc x : List UInt8) (h1 : acc.length ≤ 1000000000) (h2 : x.length ≤ 1000000000) : ∀ w, (Op.stringOp .add (mk acc) (mk x)).run Tryd.prog w = .ok (.string (mk (acc ++ x))) w := by
  intro w
  rw [run_string_add_sum]
  · have : mk acc ++ mk x = mk (acc ++ x) := bytes_ext8 (by simp [mk])
    rw [this]
  · rw [mk_size, mk_size]
    omega
set_option maxRecDepth 1000000 in
set_option maxHeartbeats 4000000 in
theorem refForms_any (va : Value) (L : List Fd) (w : World) (hF : Flds w va L) (hsz : ∀ i, (h : i < L.length) → (L[i]).2.size ≤ 1000000) (hn : L.length ≤ 1000) :
    Calls Tryd.prog 11 #[va] w fun e w' => e = .returned (.tuple #[.string (mk (formsE L).1), .int .i64 ((formsE L).2 : Int)]) ∧ Below w.heap.size w w' := by
  obtain ⟨a, cap, rfl, h1, h2, h3⟩ := id hF
  unfold formsE
  by_cases hbig : 64 < L.length
  · rw [if_pos hbig]
    have t1 : (64 : Int) < (L.length : Int) := by omega
    clear h3
    go_enter Tryd.func11, Tryd.ntmps11
    go_wp2_with fail
    go_ret2
    exact ⟨rfl, Below.refl _ _⟩
  rw [if_neg hbig]
  have t1 : ¬ (64 : Int) < (L.length : Int) := by omega
  obtain ⟨R, e0, hR⟩ : ∃ R e0, formsA L [] = (R, e0) := ⟨_, _, rfl⟩
  rw [hR]
  dsimp only
  go_enter Tryd.func11, Tryd.ntmps11
  go_wp2_with fail
  go_loopw [4, 5] (fun u i wr => ∃ (k : Nat) (acc : List UInt8), u = .string (mk acc) ∧ i = .int .i64 (k : Int) ∧ k ≤ L.length ∧ acc.length ≤ k * 1200000 ∧ formsA (L.drop k) acc = (R, e0) ∧ Below w.heap.size w wr) (fun _ i _ => L.length - (RowKit.intOf i).toNat)
  case atStart => exact ⟨0, [], rfl, rfl, by omega, by simp, by rw [List.drop_zero]; exact hR, Below.refl _ _⟩
  case round =>
    clear hR
    obtain ⟨k, acc, rfl, rfl, hk, hacc, hg, hB⟩ := hrel
    have hz := hB.size
    by_cases hlt : k < L.length
    · have t0 : (k : Int) < (L.length : Int) := by omega
      obtain ⟨b, off, rfl, c0, c1⟩ := h3 k hlt
      have d0 := (hB.cell (World.block_lt_of_cell? _ _ c0)).trans c0
      have d1 := (hB.cell (World.block_lt_of_cell? _ _ c1)).trans c1
      have hs1 := hsz k hlt
      rw [drop_fd hlt, formsA] at hg
      obtain ⟨f, hf⟩ : ∃ f, L[k] = f := ⟨_, rfl⟩
      rw [hf] at d0 d1 hs1 hg
      have hl := formE_len f hs1
      have F := fun w => refForm_any f.1 f.2 w hs1
      have ef : (f.1, f.2) = f := rfl
      rw [ef] at F
      obtain ⟨x, e1, hX⟩ : ∃ x e1, formE f = (x, e1) := ⟨_, _, rfl⟩
      rw [hX] at F hg hl
      dsimp only at F hg hl
      clear c0 c1 h3 hF hX hf ef
      by_cases he : e1 = 0
      · subst he
        rw [if_pos rfl] at hg
        have HG : Hid (formsA (L.drop (k + 1)) (acc ++ x) = (R, e0)) := hg
        have s1 := acc_run acc x (by omega) (by omega)
        clear hg
        go_wp2_with fail
        refine (F _).mono ?_
        rintro e w2 ⟨rfl, hb2⟩
        have hB3 := hB.trans (hb2.mono hz)
        go_wp2_with fail
        go_roundw
        case rel => exact ⟨k + 1, acc ++ x, rfl, by simp, by omega, by rw [List.length_append]; omega, HG.out, hB3⟩
        case measure => simp [RowKit.intOf]; omega
      · rw [if_neg he] at hg
        simp only [Prod.mk.injEq] at hg
        obtain ⟨rfl, rfl⟩ := hg
        have t2 : ((e1 : Int) == 0) = false := beq_false_of_ne (by omega)
        go_wp2_with fail
        refine (F _).mono ?_
        rintro e w2 ⟨rfl, hb2⟩
        have hB3 := hB.trans (hb2.mono hz)
        go_wp2_with fail
        go_ret2
        exact ⟨rfl, hB3⟩
    · obtain rfl : k = L.length := by omega
      have t0 : ¬ (L.length : Int) < (L.length : Int) := by omega
      rw [List.drop_length, formsA] at hg
      simp only [Prod.mk.injEq] at hg
      obtain ⟨rfl, rfl⟩ := hg
      clear h3 hF
      go_wp2_with fail
      go_ret2
      exact ⟨rfl, hB⟩

theorem infoR : (Tryd.prog.info? 31).map (fun i => (i.zero, i.size, i.bytes)) = some (some (.agg #[.int .i64 0, .string ⟨#[]⟩]), 2, 24) := by kernel_rfl
set_option maxRecDepth 1000000 in
set_option maxHeartbeats 4000000 in
theorem plain_any (va : Value) (L : List Fd) (w : World) (hF : Flds w va L) (hn : L.length ≤ 1000) :
    Calls Tryd.prog 12 #[va] w fun e w' => ∃ v, e = .returned v ∧ Grows w 31 w' v L := by
  obtain ⟨a, cap, rfl, h1, h2, h3⟩ := id hF
  obtain ⟨i0, hi0, hz0, hzs, hzb⟩ := info_parts infoR
  go_enter Tryd.func12, Tryd.ntmps12
  go_wp2_with fail
  go_loopw [3, 8] (fun v i wr => ∃ k : Nat, i = .int .i64 (k : Int) ∧ k ≤ L.length ∧ Grows w 31 wr v (L.take k)) (fun _ i _ => L.length - (RowKit.intOf i).toNat)
  case atStart => exact ⟨0, rfl, by omega, Grows.none _ _ _ (Below.refl _ _)⟩
  case round =>
    obtain ⟨k, rfl, hk, Q⟩ := hrel
    by_cases hlt : k < L.length
    · have t0 : (k : Int) < (L.length : Int) := by omega
      obtain ⟨b, off, rfl, c0, c1⟩ := h3 k hlt
      have hB := Q.below
      have d0 := (hB.cell (World.block_lt_of_cell? _ _ c0)).trans c0
      have d1 := (hB.cell (World.block_lt_of_cell? _ _ c1)).trans c1
      have HT : Hid (L.take (k + 1) = L.take k ++ [L[k]]) := List.take_succ_eq_append_getElem hlt
      obtain ⟨f, hf⟩ : ∃ f, L[k] = f := ⟨_, rfl⟩
      rw [hf] at d0 d1 HT
      have hl : (L.take k).length = k := by rw [List.length_take]; omega
      obtain ⟨a0, cap0, rfl⟩ := Q.shape
      rw [hl] at Q
      obtain ⟨T, hT⟩ : ∃ T, L.take k = T := ⟨_, rfl⟩
      rw [hT] at Q hl HT
      rw [hT, hl]
      have Q2 := (Q.still ((Below.refl _ _).alloc (Nat.le_refl _) (.cells #[.int .i64 f.1, .string f.2] 25))).still ((Below.refl _ _).alloc (Nat.le_refl _) (.cells #[.int .i64 f.1, .string f.2] 31))
      have hown := Q2.own
      rw [hl] at hown
      have hz := hB.size
      have hcn := cell_fd_new2 wr (.cells #[.int .i64 f.1, .string f.2] 25) f 31
      have H2 : Hid (Grows w 31 ((wr.alloc (.cells #[.int .i64 f.1, .string f.2] 25)).alloc (.cells #[.int .i64 f.1, .string f.2] 31)) (.slice a0 k cap0) T) := Q2
      have HL : Hid (T.length = k) := hl
      clear Q Q2 hB c0 c1 h3 hF hf hT hl
      go_wp2_with (at_builtin; refine wpList_append_own_at _ rfl _ _ 34 rfl w.heap.size 31 i0 (.agg #[.int .i64 0, .string ⟨#[]⟩]) 2 24 Tryd.underlying34 hi0 hz0 hzs hzb rfl (by decide) _ _ _ rfl hown ⟨wr.heap.size + 1, 0, none⟩ 1 1 (fd2 f) rfl rfl ?hnews (fd2_one _) ?h63 ?hbytes ?hbase ?_)
      case hnews => exact hcn
      case h63 => unfold maxLen; omega
      case hbytes => omega
      case hbase => first | omega | (simp; omega)
      intro v5 w5 hown5 hg5 _ _
      have Q5 := H2.out.more hg5 (by rw [HL.out]; exact hown5)
      rw [← HT.out] at Q5
      clear hown5 hg5 hown hcn
      go_wp2_with fail
      go_roundw
      case rel => exact ⟨k + 1, by simp, by omega, Q5⟩
      case measure => simp [RowKit.intOf]; omega
    · obtain rfl : k = L.length := by omega
      have t0 : ¬ (L.length : Int) < (L.length : Int) := by omega
      rw [List.take_length] at Q
      have HQ : Hid (Grows w 31 wr u3 L) := Q
      clear h3 hF Q
      go_wp2_with fail
      go_ret
      exact ⟨_, rfl, HQ.out⟩
set_option maxRecDepth 1000000 in
set_option maxHeartbeats 4000000 in
theorem same_yes (va vb : Value) (L : List Fd) (w : World) (hA : Flds w va L) (hB : Flds w vb L) (hn : L.length ≤ 1000) :
    Calls Tryd.prog 17 #[va, vb] w fun e w' => e = .returned (.bool true) ∧ Below w.heap.size w w' := by
  obtain ⟨a, cap, rfl, h1, h2, h3⟩ := id hA
  obtain ⟨b, cap', rfl, h1', h2', h3'⟩ := id hB
  unfold maxLen at h2 h2'
  go_enter Tryd.func17, Tryd.ntmps17
  go_wp2_with fail
  go_loopw [5] (fun i wr => ∃ k : Nat, i = .int .i64 (k : Int) ∧ k ≤ L.length ∧ Below w.heap.size w wr) (fun i _ => L.length - (RowKit.intOf i).toNat)
  case atStart => exact ⟨0, rfl, by omega, Below.refl _ _⟩
  case round =>
    obtain ⟨k, rfl, hk, hw⟩ := hrel
    by_cases hlt : k < L.length
    · have t0 : (k : Int) < (L.length : Int) := by omega
      obtain ⟨b1, off, rfl, c0, c1⟩ := h3 k hlt
      obtain ⟨b2, off', rfl, c0', c1'⟩ := h3' k hlt
      have d0 : wr.cell? ⟨b1, off + k * 2, none⟩ = some (.int .i64 (L[k]).1) := (hw.cell (World.block_lt_of_cell? _ _ c0)).trans c0
      have d1 : wr.cell? ⟨b1, off + k * 2 + 1, none⟩ = some (.string (L[k]).2) := (hw.cell (World.block_lt_of_cell? _ _ c1)).trans c1
      have d0' : wr.cell? ⟨b2, off' + k * 2, none⟩ = some (.int .i64 (L[k]).1) := (hw.cell (World.block_lt_of_cell? _ _ c0')).trans c0'
      have d1' : wr.cell? ⟨b2, off' + k * 2 + 1, none⟩ = some (.string (L[k]).2) := (hw.cell (World.block_lt_of_cell? _ _ c1')).trans c1'
      obtain ⟨f, hf⟩ : ∃ f, L[k] = f := ⟨_, rfl⟩
      rw [hf] at d0 d1 d0' d1'
      clear c0 c1 c0' c1' h3 h3' hA hB hf
      have g1 : (f.1 != f.1) = false := by simp
      go_wp2_with fail
      go_quiet (fail)
      go_wp2_with fail
      go_roundw
      case rel => exact ⟨k + 1, by simp, by omega, below_more hw _⟩
      case measure => simp [RowKit.intOf]; omega
    · obtain rfl : k = L.length := by omega
      have t0 : ¬ (L.length : Int) < (L.length : Int) := by omega
      clear h3 h3' hA hB
      go_wp2_with fail
      go_ret
      exact ⟨rfl, hw⟩
end Go.Proofs.YtennefdcjgjpiaaDoor
