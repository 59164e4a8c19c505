/-
  The reference's Digits: a number's decimal digits.
-/
import Derived.Test.YtdacmhnniecmhaaDoorBytes
import Derived.Test.YtdacmhnniecmhaaDoorLists
import Derived.Laws.IdiomStrings
import Derived.Deep.RegionHeld3
namespace Go.Proofs.YtdacmhnniecmhaaDoor
open Go.ChangeShapes Go.WideShapes Go.ChangeAt Go.RowKit Go.Lib

theorem below_of_drew {w w1 : World} (h : Below w.drew.heap.size w.drew w1) : Below w.heap.size w w1 := ⟨h.os, h.tape, h.output, h.size, h.block⟩
theorem later8 {w w1 : World} {x : Value} {t : TypeId} (hb : Below (w.alloc (.cells #[x] t)).drew.heap.size (w.alloc (.cells #[x] t)).drew w1) : w1.cell? ⟨w.heap.size, 0, none⟩ = some x :=
  (hb.cell (p := ⟨w.heap.size, 0, none⟩) (by show w.heap.size < (w.alloc _).heap.size; simp)).trans (by show (w.alloc _).cell? _ = _; simp)
/-- One byte in memory, as a text. -/
theorem one_byte (d : Nat) (hd : d < 10) (W : World) (g : Nat) (h : W.cell? ⟨g, 0, none⟩ = some (.int .u8 (48 + (d : Int)))) :
    (convert 78 9 (.slice (some ⟨g, 0, none⟩) 1 1)).run Tryd.prog W = .ok (.string (mk [UInt8.ofNat (48 + d)])) W := by
  have := run_convert_bytes_back (P := Tryd.prog) W 78 9 5 ⟨g, 0, none⟩ 1 [UInt8.ofNat (48 + d)] Tryd.underlying78 Tryd.underlying5 Tryd.underlying9 (fun j hj => by
    have : j = 0 := by simp at hj; omega
    subst this
    rw [Addr.add_lit]
    simp only [List.getElem_cons_zero]
    rw [byte_ofNat (by omega), h]
    congr 2)
  exact this
set_option maxRecDepth 1000000 in
set_option maxHeartbeats 4000000 in
theorem digits_small (n : Nat) (hn : n < 10) (w : World) :
    Calls Tryd.prog 62 #[.int .i64 (n : Int)] w fun e w' => e = .returned (.string (mk (decDigits n))) ∧ Below w.heap.size w w' := by
  have t : (n : Int) < 10 := by omega
  have hcv := one_byte n hn (w.alloc (.cells #[.int .u8 (48 + (n : Int))] 5)) w.heap.size (by simp)
  rw [decDigits_one hn]
  generalize mk [UInt8.ofNat (48 + n)] = D at *
  go_enter Tryd.func62, Tryd.ntmps62
  go_wp2_with fail
  go_ret
  exact ⟨rfl, (Below.refl _ w).alloc (Nat.le_refl _) _⟩
theorem digits_short : ∀ (k n : Nat), n < 10 ^ (k + 1) → (decDigits n).length ≤ k + 1
  | 0, n, h => by rw [decDigits_one (by simpa using h)]; simp
  | k + 1, n, h => by
    by_cases h1 : n < 10
    · rw [decDigits_one h1]; simp
    · rw [decDigits, dif_neg h1, List.length_append]
      have := digits_short k (n / 10) (by rw [Nat.pow_succ] at h; omega)
      simp only [List.length_cons, List.length_nil]
      omega
set_option maxRecDepth 1000000 in
set_option maxHeartbeats 4000000 in
theorem digits_great (n : Nat) (hn : ¬ n < 10) (hn2 : n ≤ 9223372036854775807) (w : World) (F : ∀ w, Calls Tryd.prog 62 #[.int .i64 ((n / 10 : Nat) : Int)] w fun e w' => e = .returned (.string (mk (decDigits (n / 10)))) ∧ Below w.heap.size w w') :
    Calls Tryd.prog 62 #[.int .i64 (n : Int)] w fun e w' => e = .returned (.string (mk (decDigits n))) ∧ Below w.heap.size w w' := by
  have t : ¬ (n : Int) < 10 := by omega
  have ed : decDigits n = decDigits (n / 10) ++ [UInt8.ofNat (48 + n % 10)] := by rw [decDigits, dif_neg hn]
  have e1 : mk (decDigits (n / 10)) ++ mk [UInt8.ofNat (48 + n % 10)] = mk (decDigits n) := by
    rw [ed]
    apply bytes_ext8
    simp [mk]
  have hcv := one_byte (n % 10) (by omega)
  have z1 : (mk (decDigits (n / 10))).size ≤ 100000 := by rw [mk_size]; have := digits_short 18 (n / 10) (by omega); omega
  have z2 : (mk [UInt8.ofNat (48 + n % 10)]).size = 1 := mk_size _
  generalize mk [UInt8.ofNat (48 + n % 10)] = D at *
  generalize mk (decDigits (n / 10)) = H at *
  generalize mk (decDigits n) = X at *
  clear ed
  obtain ⟨d, hd⟩ : ∃ d, n % 10 = d := ⟨_, rfl⟩
  obtain ⟨h, hh⟩ : ∃ h, n / 10 = h := ⟨_, rfl⟩
  rw [hd] at hcv
  rw [hh] at F
  have d9 : d < 10 := by omega
  have r1 : IntKind.i64.wrap ((n : Int) / 10) = (h : Int) := by rw [IntKind.wrap_i64]; omega
  have r2 : (n : Int) % 10 = (d : Int) := by omega
  have r0 : (n : Int).tmod 10 = (d : Int) := by
    show ((n % 10 : Nat) : Int) = _
    omega
  have r3 : IntKind.i64.wrap (48 + (d : Int)) = 48 + (d : Int) := by rw [IntKind.wrap_i64]; omega
  have r4 : IntKind.u8.wrap (48 + (d : Int)) = 48 + (d : Int) := by rw [IntKind.wrap_u8]; omega
  clear hd hh
  go_enter Tryd.func62, Tryd.ntmps62
  go_wp2_with fail
  go_region_with (go_at_call 62; refine (F _).mono ?_; rintro e w1 ⟨rfl, hb⟩; first | have q := later8 hb | skip)
  all_goals (go_wp2_with fail)
  all_goals go_ret
  all_goals refine ⟨rfl, ?_⟩
  all_goals first
    | exact (below_of_drew hb).alloc hb.size _
    | exact ((Below.refl _ w).alloc (Nat.le_refl _) _).trans ((below_of_drew hb).mono (by simp))
/-- Of any number. -/
theorem refDigits_all : ∀ (n : Nat), n ≤ 9223372036854775807 → ∀ w, Calls Tryd.prog 62 #[.int .i64 (n : Int)] w fun e w' => e = .returned (.string (mk (decDigits n))) ∧ Below w.heap.size w w' := by
  intro n
  induction n using Nat.strongRecOn with
  | ind n ih =>
    intro hn w
    by_cases h : n < 10
    · exact digits_small n h w
    · exact digits_great n h hn w (fun w => ih (n / 10) (by omega) (by omega) w)
theorem refDigits_any (n : Nat) (h : n ≤ 99999) (w : World) : Calls Tryd.prog 62 #[.int .i64 (n : Int)] w fun e w' => e = .returned (.string (mk (decDigits n))) ∧ Below w.heap.size w w' := refDigits_all n (by omega) w
end Go.Proofs.YtdacmhnniecmhaaDoor
