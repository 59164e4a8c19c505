/-
  Contracts of tag's readValue and Next: the field at the beginning of a text.
-/
import Derived.Test.YtdacmhnniecmhaaDoorTagRun
namespace Go.Proofs.YtdacmhnniecmhaaDoor
open Go.ChangeShapes Go.WideShapes Go.ChangeAt Go.RowKit Go.Lib

/-- The value at the beginning of a text, an error's number. -/
def valL (l : List UInt8) : List UInt8 × Nat :=
  if runM 512 l = l.length then ([], 82) else if runM 512 l = 0 ∨ l.getD (runM 512 l) 0 ≠ 1 then ([], 81) else (l.take (runM 512 l), 0)
theorem prefix_one {l : List UInt8} (h : l ≠ []) : hasPrefix l [1] = decide (l.getD 0 0 = 1) := by
  cases l with
  | nil => exact absurd rfl h
  | cons x r =>
    unfold hasPrefix
    simp [List.isPrefixOf]
    rw [Bool.eq_iff_iff]
    simp
    exact eq_comm
set_option maxRecDepth 1000000 in
set_option maxHeartbeats 2000000 in
theorem readValue_any (s : ByteArray) (w : World) :
    Calls Tryd.prog 85 #[.string s] w fun e w' => e = .returned (.tuple #[.string (mk (valL s.data.toList).1), .int .i64 ((valL s.data.toList).2 : Int)]) ∧ Below w.heap.size w w' := by
  have F := run_any s
  have hle := runM_le 512 s.data.toList
  have hsz := size_eq s
  unfold valL
  obtain ⟨M, hM⟩ : ∃ M, runM 512 s.data.toList = M := ⟨_, rfl⟩
  rw [hM] at F hle ⊢
  rw [← hsz] at hle ⊢
  have HZ : Hid (s.size = s.data.toList.length) := hsz
  clear hM hsz
  by_cases h1 : M = s.size
  · subst h1
    rw [if_pos rfl]
    have t1 : ((s.size : Int) == (s.size : Int)) = true := by simp
    go_enter Tryd.func85, Tryd.ntmps85
    go_wp2_with fail
    refine (F _).mono ?_
    rintro e w1 ⟨rfl, hb⟩
    go_wp2_with fail
    go_ret2
    exact ⟨rfl, hb⟩
  · rw [if_neg h1]
    have t1 : ((M : Int) == (s.size : Int)) = false := beq_false_of_ne (by omega)
    by_cases h2 : M = 0
    · subst h2
      rw [if_pos (.inl rfl)]
      have t2 : ((0 : Int) == (s.size : Int)) = false := beq_false_of_ne (by omega)
      go_enter Tryd.func85, Tryd.ntmps85
      go_wp2_with fail
      refine (F _).mono ?_
      rintro e w1 ⟨rfl, hb⟩
      go_wp2_with fail
      go_ret2
      exact ⟨rfl, hb⟩
    · have t2 : ((M : Int) == 0) = false := beq_false_of_ne (by omega)
      have t3 : M ≤ s.size := hle.1
      have t4 : (M : Int) ≤ (s.size : Int) := by omega
      have G := prefix_any (s.extract M s.size) ⟨#[1]⟩
      have hp : hasPrefix (s.extract M s.size).data.toList ((⟨#[1]⟩ : ByteArray)).data.toList = decide (s.data.toList.getD M 0 = 1) := by
        rw [ext_tail, mk_list]
        show hasPrefix _ [1] = _
        rw [prefix_one, getD_dropU, Nat.add_zero]
        intro e
        have := congrArg List.length e
        rw [List.length_drop, ← HZ.out, List.length_nil] at this
        omega
      rw [hp] at G
      have HE : Hid (s.extract 0 M = mk (s.data.toList.take M)) := ext_head s M
      have H1 : Hid (¬ M = s.size) := h1
      have H2 : Hid (¬ M = 0) := h2
      clear hp h1 h2
      by_cases h3 : s.data.toList.getD M 0 = 1
      · rw [if_neg (by
          rintro (e | e)
          · exact H2.out e
          · exact e h3)]
        rw [decide_eq_true h3] at G
        clear h3
        go_enter Tryd.func85, Tryd.ntmps85
        go_wp2_with fail
        refine (F _).mono ?_
        rintro e w1 ⟨rfl, hb⟩
        go_wp2_with fail
        refine (G _).mono ?_
        rintro e w2 ⟨rfl, rfl⟩
        go_wp2_with fail
        go_ret2
        exact ⟨by rw [← HE.out]; rfl, hb⟩
      · rw [if_pos (.inr h3)]
        rw [decide_eq_false h3] at G
        clear h3
        go_enter Tryd.func85, Tryd.ntmps85
        go_wp2_with fail
        refine (F _).mono ?_
        rintro e w1 ⟨rfl, hb⟩
        go_wp2_with fail
        refine (G _).mono ?_
        rintro e w2 ⟨rfl, rfl⟩
        go_wp2_with fail
        go_ret2
        exact ⟨rfl, hb⟩

theorem tag_begin {l : List UInt8} {N b : Nat} (h : tagR l 0 0 = (N, b, 0)) : b ≤ l.length ∧ N ≤ 99999 := by
  obtain ⟨m, h1, h2, _, _, _, h3⟩ := tag_read l 0 0 N b (fun _ => rfl) (fun h => by omega) h
  omega
theorem next_bad {l : List UInt8} (h : (tagR l 0 0).2.2 ≠ 0) : nextL l = (none8, 0, (tagR l 0 0).2.2) := by
  unfold nextL
  rw [if_neg h]
theorem next_good {l : List UInt8} {N b : Nat} (h : tagR l 0 0 = (N, b, 0)) : nextL l = if (valL (l.drop b)).2 = 0 then (((N : Int), mk (valL (l.drop b)).1), b + (valL (l.drop b)).1.length + 1, 0) else (none8, 0, (valL (l.drop b)).2) := by
  unfold nextL
  rw [h]
  dsimp only
  rw [if_pos rfl]
  unfold valL
  have hle := runM_le 512 (l.drop b)
  by_cases h1 : runM 512 (l.drop b) = (l.drop b).length
  · rw [if_pos h1, if_pos h1, if_neg (by decide)]
  · rw [if_neg h1, if_neg h1]
    by_cases h2 : runM 512 (l.drop b) = 0 ∨ (l.drop b).getD (runM 512 (l.drop b)) 0 ≠ 1
    · rw [if_pos h2, if_pos h2, if_neg (by decide)]
    · rw [if_neg h2, if_neg h2, if_pos rfl, List.length_take, Nat.min_eq_left hle.1]
theorem val_le (l : List UInt8) : (valL l).1.length ≤ 512 ∧ (valL l).1.length ≤ l.length := by
  unfold valL
  have hle := runM_le 512 l
  split
  · simp
  · split
    · simp
    · rw [List.length_take]; omega
set_option maxRecDepth 1000000 in
set_option maxHeartbeats 2000000 in
theorem next_any (s : ByteArray) (w : World) (hs : s.size ≤ 1000000) :
    Calls Tryd.prog 64 #[.string s] w fun e w' => e = .returned (.tuple #[.agg #[.int .i64 (nextL s.data.toList).1.1, .string (nextL s.data.toList).1.2], .int .i64 ((nextL s.data.toList).2.1 : Int), .int .i64 ((nextL s.data.toList).2.2 : Int)]) ∧ Below w.heap.size w w' := by
  have F := fun w => readTag_any s w (by unfold maxLen; omega)
  by_cases h0 : (tagR s.data.toList 0 0).2.2 = 0
  · obtain ⟨N, b, hR⟩ : ∃ N b, tagR s.data.toList 0 0 = (N, b, 0) := ⟨(tagR s.data.toList 0 0).1, (tagR s.data.toList 0 0).2.1, Prod.ext rfl (Prod.ext rfl h0)⟩
    rw [next_good hR]
    obtain ⟨hb, hN⟩ := tag_begin hR
    rw [hR] at F
    dsimp only at F
    have G := readValue_any (s.extract b s.size)
    have el : (s.extract b s.size).data.toList = s.data.toList.drop b := by rw [ext_tail, mk_list]
    rw [el] at G
    have hv := val_le (s.data.toList.drop b)
    rw [← size_eq] at hb
    rw [List.length_drop, ← size_eq] at hv
    obtain ⟨V, e1, hV⟩ : ∃ V e1, valL (s.data.toList.drop b) = (V, e1) := ⟨_, _, rfl⟩
    rw [hV] at G hv ⊢
    dsimp only at G hv ⊢
    have hC := fun w => clone_any (mk V) w (by rw [mk_size]; omega)
    have hz : (mk V).size = V.length := mk_size V
    have hvI : (V.length : Int) ≤ 512 := by omega
    have hbI : (b : Int) ≤ 1000000 := by omega
    have tb : (b : Int) ≤ (s.size : Int) := by omega
    clear hR h0 hV el
    by_cases h1 : e1 = 0
    · subst h1
      rw [if_pos rfl]
      dsimp only
      go_enter Tryd.func64, Tryd.ntmps64
      go_wp2_with fail
      refine (F _).mono ?_
      rintro e w1 ⟨rfl, rfl⟩
      go_wp2_with fail
      refine (G _).mono ?_
      rintro e w1 ⟨rfl, hb1⟩
      go_wp2_with fail
      refine (hC _).mono ?_
      rintro e w2 ⟨rfl, hb2⟩
      have hk := hb1.trans (hb2.mono hb1.size)
      have q0 : w2.cell? ⟨w.heap.size, 0, none⟩ = some (.int .i64 0) := (hk.cell (p := ⟨w.heap.size, 0, none⟩) (by simp)).trans (by simp)
      have q1 : w2.cell? ⟨w.heap.size, 1, none⟩ = some (.string ⟨#[]⟩) := (hk.cell (p := ⟨w.heap.size, 1, none⟩) (by simp)).trans (by simp)
      have z0 : w2.frozen? ⟨w.heap.size, 0, none⟩ = false := (hk.frozen (p := ⟨w.heap.size, 0, none⟩) (by simp)).trans (by simp)
      have z1 : w2.frozen? ⟨w.heap.size, 1, none⟩ = false := (hk.frozen (p := ⟨w.heap.size, 1, none⟩) (by simp)).trans (by simp)
      go_wp2_with fail
      refine bodyPost_ret (v := .tuple #[.agg #[.int .i64 (N : Int), .string (mk V)], .int .i64 ((b : Int) + (V.length : Int) + 1), .int .i64 0]) (by simp [results, Tryd.results64, go_sem, q0, q1]) rfl ⟨rfl, ?_⟩
      exact ((((Below.refl _ w).alloc (Nat.le_refl _) _).trans (hk.mono (by simp))).setCell (by simp) _).setCell (by simp) _
    · rw [if_neg h1]
      dsimp only
      have t1 : ((e1 : Int) == 0) = false := beq_false_of_ne (by omega)
      have t2 : ¬ e1 = 0 := h1
      clear h1
      go_enter Tryd.func64, Tryd.ntmps64
      go_wp2_with fail
      refine (F _).mono ?_
      rintro e w1 ⟨rfl, rfl⟩
      go_wp2_with fail
      refine (G _).mono ?_
      rintro e w2 ⟨rfl, hk⟩
      have q0 : w2.cell? ⟨w.heap.size, 0, none⟩ = some (.int .i64 0) := (hk.cell (p := ⟨w.heap.size, 0, none⟩) (by simp)).trans (by simp)
      have q1 : w2.cell? ⟨w.heap.size, 1, none⟩ = some (.string ⟨#[]⟩) := (hk.cell (p := ⟨w.heap.size, 1, none⟩) (by simp)).trans (by simp)
      have z0 : w2.frozen? ⟨w.heap.size, 0, none⟩ = false := (hk.frozen (p := ⟨w.heap.size, 0, none⟩) (by simp)).trans (by simp)
      have z1 : w2.frozen? ⟨w.heap.size, 1, none⟩ = false := (hk.frozen (p := ⟨w.heap.size, 1, none⟩) (by simp)).trans (by simp)
      go_wp2_with fail
      refine bodyPost_ret (v := .tuple #[.agg #[.int .i64 0, .string ⟨#[]⟩], .int .i64 0, .int .i64 (e1 : Int)]) (by simp [results, Tryd.results64, go_sem, q0, q1]) rfl ⟨rfl, ?_⟩
      exact ((((Below.refl _ w).alloc (Nat.le_refl _) _).trans (hk.mono (by simp))).setCell (by simp) _).setCell (by simp) _
  · rw [next_bad h0]
    dsimp only
    obtain ⟨N, b, e0, hR⟩ : ∃ N b e0, tagR s.data.toList 0 0 = (N, b, e0) := ⟨_, _, _, rfl⟩
    rw [hR] at F h0 ⊢
    dsimp only at F h0 ⊢
    have t1 : ((e0 : Int) == 0) = false := beq_false_of_ne (by omega)
    have t2 : ¬ e0 = 0 := h0
    clear hR h0
    go_enter Tryd.func64, Tryd.ntmps64
    go_wp2_with fail
    refine (F _).mono ?_
    rintro e w1 ⟨rfl, rfl⟩
    go_wp2_with fail
    refine bodyPost_ret (v := .tuple #[.agg #[.int .i64 0, .string ⟨#[]⟩], .int .i64 0, .int .i64 (e0 : Int)]) (by simp [results, Tryd.results64, go_sem]) rfl ⟨rfl, ?_⟩
    exact ((Below.refl _ w).alloc (Nat.le_refl _) _)
end Go.Proofs.YtdacmhnniecmhaaDoor
