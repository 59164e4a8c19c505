/-
  The reference's Value, Digits, Form and Forms.
-/
import Derived.Test.YtennefdcjgjpiaaDoorTagRef
import Derived.Test.YtennefdcjgjpiaaDoorTagRows
namespace Go.Proofs.YtennefdcjgjpiaaDoor
open Go.ChangeShapes Go.WideShapes Go.ChangeAt Go.RowKit Go.Lib

theorem bytes_ext8 {a b : ByteArray} (h : a.data.toList = b.data.toList) : a = b := by
  rw [← list_mk a, ← list_mk b, h]
theorem valB_all {v : List UInt8} (h : AllMay v) : valB v = decide (1 ≤ v.length ∧ v.length ≤ 512) := by
  rw [Bool.eq_iff_iff, valB_true, decide_eq_true_eq]
  exact ⟨fun h => ⟨h.1, h.2.1⟩, fun k => ⟨k.1, k.2, h⟩⟩
theorem valB_bad {v : List UInt8} {c : Nat} (h : c ∈ runesL v) (hc : mayB c = false) : valB v = false := by
  cases e : valB v
  · rfl
  · have := (valB_true.1 e).2.2 c h
    rw [hc] at this
    cases this
set_option maxRecDepth 1000000 in
set_option maxHeartbeats 4000000 in
theorem refValue_any (s : ByteArray) (w : World) (hs : s.size ≤ 1000000) :
    Calls Tryd.prog 20 #[.string s] w fun e w' => e = .returned (.bool (valB s.data.toList)) ∧ Below w.heap.size w w' := by
  obtain ⟨C, A, hC, hcm, hAs, hcell, hconv⟩ := conv_any s hs w
  have hB : Below w.heap.size w (w.alloc (.cells A 21)).drew := ((Below.refl _ w).alloc (Nat.le_refl _) _).drew
  have hle := runesL_le s.data.toList
  rw [← size_eq] at hle
  have HV1 : Hid (∀ c ∈ runesL s.data.toList, mayB c = false → valB s.data.toList = false) := fun c h hc => valB_bad h hc
  have HV2 : Hid ((∀ c ∈ runesL s.data.toList, mayB c = true) → valB s.data.toList = decide (1 ≤ s.size ∧ s.size ≤ 512)) := fun h => by rw [size_eq]; exact valB_all h
  generalize valB s.data.toList = vb at *
  generalize runesL s.data.toList = L at *
  unfold maxLen at hcm
  go_enter Tryd.func20, Tryd.ntmps20
  go_wp2_with fail
  go_loopw [4] (fun i wr => ∃ k : Nat, i = .int .i64 (k : Int) ∧ k ≤ L.length ∧ (∀ j, (h : j < L.length) → j < k → mayB L[j] = true) ∧ wr = (w.alloc (.cells A 21)).drew) (fun i _ => L.length - (RowKit.intOf i).toNat)
  case atStart => exact ⟨0, rfl, by omega, fun j _ h => absurd h (by omega), rfl⟩
  case round =>
    obtain ⟨k, rfl, hk, hg, rfl⟩ := hrel
    by_cases hlt : k < L.length
    · have t3 : (k : Int) < (L.length : Int) := by omega
      have hc := hcell k hlt
      have HG : Hid (∀ j, (h : j < L.length) → j < k → mayB L[j] = true) := hg
      have hm := List.getElem_mem hlt
      obtain ⟨c, HC'⟩ : ∃ c, L[k] = c := ⟨_, rfl⟩
      have HC : Hid (L[k] = c) := HC'
      rw [HC'] at hc hm
      clear hg hcell HC'
      have F := may_any c
      cases hb : mayB c
      · rw [hb] at F
        have HW : Hid (vb = false) := HV1.out c hm hb
        clear hm
        go_wp2_with fail
        refine (F _).mono ?_
        rintro e w1 ⟨rfl, rfl⟩
        go_wp2_with fail
        go_ret
        exact ⟨by rw [HW.out]; rfl, hB⟩
      · rw [hb] at F
        clear hm
        go_wp2_with fail
        refine (F _).mono ?_
        rintro e w1 ⟨rfl, rfl⟩
        go_wp2_with fail
        go_roundw
        case rel => exact ⟨k + 1, by simp, by omega, fun j h hj => if e : j = k then by subst e; rw [HC.out]; exact hb else HG.out j h (by omega), trivial⟩
        case measure => simp [RowKit.intOf]; omega
    · obtain rfl : k = L.length := by omega
      have t3 : ¬ (L.length : Int) < (L.length : Int) := by omega
      have HW : Hid (vb = decide (1 ≤ s.size ∧ s.size ≤ 512)) := HV2.out (fun c hc => by
        obtain ⟨j, hj, rfl⟩ := List.getElem_of_mem hc
        exact hg j hj hj)
      clear hg hcell
      by_cases h1 : (1 : Int) ≤ (s.size : Int)
      · by_cases h2 : (s.size : Int) ≤ 512
        · go_wp2_with fail
          go_ret
          exact ⟨by rw [HW.out, decide_eq_true (by omega)]; rfl, hB⟩
        · go_wp2_with fail
          go_ret
          exact ⟨by rw [HW.out, decide_eq_false (by omega)]; rfl, hB⟩
      · go_wp2_with fail
        go_ret
        exact ⟨by rw [HW.out, decide_eq_false (by omega)]; rfl, hB⟩

theorem below_of_drew {w w1 : World} (h : Below w.drew.heap.size w.drew w1) : Below w.heap.size w w1 := ⟨h.os, h.tape, h.output, h.size, h.block⟩
theorem later8 {w w1 : World} {x : Value} {t : TypeId} (hb : Below (w.alloc (.cells #[x] t)).drew.heap.size (w.alloc (.cells #[x] t)).drew w1) : w1.cell? ⟨w.heap.size, 0, none⟩ = some x :=
  (hb.cell (p := ⟨w.heap.size, 0, none⟩) (by show w.heap.size < (w.alloc _).heap.size; simp)).trans (by show (w.alloc _).cell? _ = _; simp)
theorem digits_len : ∀ n, (decDigits n).length ≤ n + 1 := by
  intro n
  induction n using Nat.strongRecOn with
  | ind n ih =>
    by_cases h : n < 10
    · rw [decDigits_one h]; simp
    · rw [decDigits, dif_neg h, List.length_append]
      have := ih (n / 10) (by omega)
      simp only [List.length_cons, List.length_nil]
      omega
/-- One byte in memory, as a text. -/
theorem one_byte (d : Nat) (hd : d < 10) (W : World) (g : Nat) (h : W.cell? ⟨g, 0, none⟩ = some (.int .u8 (48 + (d : Int)))) :
    (convert 52 9 (.slice (some ⟨g, 0, none⟩) 1 1)).run Tryd.prog W = .ok (.string (mk [UInt8.ofNat (48 + d)])) W := by
  have := run_convert_bytes_back (P := Tryd.prog) W 52 9 5 ⟨g, 0, none⟩ 1 [UInt8.ofNat (48 + d)] Tryd.underlying52 Tryd.underlying5 Tryd.underlying9 (fun j hj => by
    have : j = 0 := by simp at hj; omega
    subst this
    rw [Addr.add_lit]
    simp only [List.getElem_cons_zero]
    rw [byte_ofNat (by omega), h]
    congr 2)
  exact this
set_option maxRecDepth 1000000 in
set_option maxHeartbeats 4000000 in
theorem digits_small (n : Nat) (hn : n < 10) (w : World) :
    Calls Tryd.prog 21 #[.int .i64 (n : Int)] w fun e w' => e = .returned (.string (mk (decDigits n))) ∧ Below w.heap.size w w' := by
  have t : (n : Int) < 10 := by omega
  have hcv := one_byte n hn (w.alloc (.cells #[.int .u8 (48 + (n : Int))] 5)) w.heap.size (by simp)
  rw [decDigits_one hn]
  generalize mk [UInt8.ofNat (48 + n)] = D at *
  go_enter Tryd.func21, Tryd.ntmps21
  go_wp2_with fail
  go_ret
  exact ⟨rfl, (Below.refl _ w).alloc (Nat.le_refl _) _⟩
set_option maxRecDepth 1000000 in
set_option maxHeartbeats 4000000 in
theorem digits_great (n : Nat) (hn : ¬ n < 10) (hn2 : n ≤ 99999) (w : World) (F : ∀ w, Calls Tryd.prog 21 #[.int .i64 ((n / 10 : Nat) : Int)] w fun e w' => e = .returned (.string (mk (decDigits (n / 10)))) ∧ Below w.heap.size w w') :
    Calls Tryd.prog 21 #[.int .i64 (n : Int)] w fun e w' => e = .returned (.string (mk (decDigits n))) ∧ Below w.heap.size w w' := by
  have t : ¬ (n : Int) < 10 := by omega
  have ed : decDigits n = decDigits (n / 10) ++ [UInt8.ofNat (48 + n % 10)] := by rw [decDigits, dif_neg hn]
  have e1 : mk (decDigits (n / 10)) ++ mk [UInt8.ofNat (48 + n % 10)] = mk (decDigits n) := by
    rw [ed]
    apply bytes_ext8
    simp [mk]
  have hcv := one_byte (n % 10) (by omega)
  have z1 : (mk (decDigits (n / 10))).size ≤ 100000 := by rw [mk_size]; have := digits_len (n / 10); omega
  have z2 : (mk [UInt8.ofNat (48 + n % 10)]).size = 1 := mk_size _
  generalize mk [UInt8.ofNat (48 + n % 10)] = D at *
  generalize mk (decDigits (n / 10)) = H at *
  generalize mk (decDigits n) = X at *
  clear ed
  obtain ⟨d, hd⟩ : ∃ d, n % 10 = d := ⟨_, rfl⟩
  obtain ⟨h, hh⟩ : ∃ h, n / 10 = h := ⟨_, rfl⟩
  rw [hd] at hcv
  rw [hh] at F
  have d9 : d < 10 := by omega
  have r1 : IntKind.i64.wrap ((n : Int) / 10) = (h : Int) := by rw [IntKind.wrap_i64]; omega
  have r2 : (n : Int) % 10 = (d : Int) := by omega
  have r0 : (n : Int).tmod 10 = (d : Int) := by
    show ((n % 10 : Nat) : Int) = _
    omega
  have r3 : IntKind.i64.wrap (48 + (d : Int)) = 48 + (d : Int) := by rw [IntKind.wrap_i64]; omega
  have r4 : IntKind.u8.wrap (48 + (d : Int)) = 48 + (d : Int) := by rw [IntKind.wrap_u8]; omega
  clear hd hh
  go_enter Tryd.func21, Tryd.ntmps21
  go_wp2_with fail
  go_region_with (go_at_call 21; refine (F _).mono ?_; rintro e w1 ⟨rfl, hb⟩; first | have q := later8 hb | skip)
  all_goals (go_wp2_with fail)
  all_goals go_ret
  all_goals refine ⟨rfl, ?_⟩
  all_goals first
    | exact (below_of_drew hb).alloc hb.size _
    | exact ((Below.refl _ w).alloc (Nat.le_refl _) _).trans ((below_of_drew hb).mono (by simp))
theorem refDigits_any : ∀ (n : Nat), n ≤ 99999 → ∀ w, Calls Tryd.prog 21 #[.int .i64 (n : Int)] w fun e w' => e = .returned (.string (mk (decDigits n))) ∧ Below w.heap.size w w' := by
  intro n
  induction n using Nat.strongRecOn with
  | ind n ih =>
    intro hn w
    by_cases h : n < 10
    · exact digits_small n h w
    · exact digits_great n h hn w (fun w => ih (n / 10) (by omega) (by omega) w)
end Go.Proofs.YtennefdcjgjpiaaDoor
