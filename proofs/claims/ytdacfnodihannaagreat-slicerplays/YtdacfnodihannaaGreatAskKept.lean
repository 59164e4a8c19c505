/-
  Contracts of the reference's kept.
-/
import Derived.Test.YtdacfnodihannaaGreatAskSame
namespace Go.Proofs.YtdacfnodihannaaGreat
open Go.ChangeShapes Go.WideShapes Go.ChangeAt Go.RowKit Go.Lib

set_option maxHeartbeats 8000000 in
theorem kept_new1 (k : Int) (i t c s : ByteArray) (sd q p al st en ra sh : Int) (cv : Value) (w : World) (h1 : k = 1) (a2 : al ≠ 2) (a3 : al ≠ 3) (a4 : al ≠ 4) :
    Calls Tryz.prog 42 #[.agg #[.int .i64 k, .string i, .string t, .string c, .string s, .int .i64 sd, .int .i64 q, .int .i64 p, .int .i64 al, .int .i64 st, .int .i64 en, .int .i64 ra, .int .i64 sh, cv]] w fun e w' => e = .returned (.agg #[.int .i64 k, .string i, .string ⟨#[]⟩, .string c, .string s, .int .i64 sd, .int .i64 q, .int .i64 p, .int .i64 al, .int .i64 st, .int .i64 en, .int .i64 0, .int .i64 0, .slice none 0 0]) ∧ Below w.heap.size w w' := by
  have gk1 : (k == 1) = true := beq_iff_eq.2 h1
  clear h1
  have ga2 : (al == 2) = false := beq_false_of_ne a2
  have ga3 : (al == 3) = false := beq_false_of_ne a3
  have ga4 : (al == 4) = false := beq_false_of_ne a4
  clear a2 a3 a4
  go_enter Tryz.func42, Tryz.ntmps42
  go_wp2_with fail
  refine bodyPost_ret (v := .agg #[.int .i64 k, .string i, .string ⟨#[]⟩, .string c, .string s, .int .i64 sd, .int .i64 q, .int .i64 p, .int .i64 al, .int .i64 st, .int .i64 en, .int .i64 0, .int .i64 0, .slice none 0 0]) (by simp [results, Tryz.results42, go_sem]) rfl ⟨rfl, ?_⟩
  exact (((Below.refl _ w).alloc (Nat.le_refl _) _).alloc (by simp) _).alloc (by simp; omega) _
set_option maxHeartbeats 8000000 in
theorem kept_new2 (k : Int) (i t c s : ByteArray) (sd q p al st en ra sh : Int) (a : Option Addr) (n cap : Nat) (w : World) (h1 : k = 1) (a2 : al = 2) :
    Calls Tryz.prog 42 #[.agg #[.int .i64 k, .string i, .string t, .string c, .string s, .int .i64 sd, .int .i64 q, .int .i64 p, .int .i64 al, .int .i64 st, .int .i64 en, .int .i64 ra, .int .i64 sh, .slice a n cap]] w fun e w' => e = .returned (.agg #[.int .i64 k, .string i, .string ⟨#[]⟩, .string c, .string s, .int .i64 sd, .int .i64 q, .int .i64 p, .int .i64 al, .int .i64 st, .int .i64 en, .int .i64 0, .int .i64 0, .slice a n cap]) ∧ Below w.heap.size w w' := by
  have gk1 : (k == 1) = true := beq_iff_eq.2 h1
  clear h1
  have ga2 : (al == 2) = true := beq_iff_eq.2 a2
  have ga3 : (al == 3) = false := beq_false_of_ne (by omega)
  have ga4 : (al == 4) = false := beq_false_of_ne (by omega)
  clear a2
  go_enter Tryz.func42, Tryz.ntmps42
  go_wp2_with fail
  refine bodyPost_ret (v := .agg #[.int .i64 k, .string i, .string ⟨#[]⟩, .string c, .string s, .int .i64 sd, .int .i64 q, .int .i64 p, .int .i64 al, .int .i64 st, .int .i64 en, .int .i64 0, .int .i64 0, .slice a n cap]) (by simp [results, Tryz.results42, go_sem]) rfl ⟨rfl, ?_⟩
  exact (((Below.refl _ w).alloc (Nat.le_refl _) _).alloc (by simp) _).alloc (by simp; omega) _
set_option maxHeartbeats 8000000 in
theorem kept_new3 (k : Int) (i t c s : ByteArray) (sd q p al st en ra sh : Int) (a : Option Addr) (n cap : Nat) (w : World) (h1 : k = 1) (a2 : al = 3) :
    Calls Tryz.prog 42 #[.agg #[.int .i64 k, .string i, .string t, .string c, .string s, .int .i64 sd, .int .i64 q, .int .i64 p, .int .i64 al, .int .i64 st, .int .i64 en, .int .i64 ra, .int .i64 sh, .slice a n cap]] w fun e w' => e = .returned (.agg #[.int .i64 k, .string i, .string ⟨#[]⟩, .string c, .string s, .int .i64 sd, .int .i64 q, .int .i64 p, .int .i64 al, .int .i64 st, .int .i64 en, .int .i64 ra, .int .i64 0, .slice none 0 0]) ∧ Below w.heap.size w w' := by
  have gk1 : (k == 1) = true := beq_iff_eq.2 h1
  clear h1
  have ga2 : (al == 2) = false := beq_false_of_ne (by omega)
  have ga3 : (al == 3) = true := beq_iff_eq.2 a2
  have ga4 : (al == 4) = false := beq_false_of_ne (by omega)
  clear a2
  go_enter Tryz.func42, Tryz.ntmps42
  go_wp2_with fail
  refine bodyPost_ret (v := .agg #[.int .i64 k, .string i, .string ⟨#[]⟩, .string c, .string s, .int .i64 sd, .int .i64 q, .int .i64 p, .int .i64 al, .int .i64 st, .int .i64 en, .int .i64 ra, .int .i64 0, .slice none 0 0]) (by simp [results, Tryz.results42, go_sem]) rfl ⟨rfl, ?_⟩
  exact (((Below.refl _ w).alloc (Nat.le_refl _) _).alloc (by simp) _).alloc (by simp; omega) _
set_option maxHeartbeats 8000000 in
theorem kept_new4 (k : Int) (i t c s : ByteArray) (sd q p al st en ra sh : Int) (a : Option Addr) (n cap : Nat) (w : World) (h1 : k = 1) (a2 : al = 4) :
    Calls Tryz.prog 42 #[.agg #[.int .i64 k, .string i, .string t, .string c, .string s, .int .i64 sd, .int .i64 q, .int .i64 p, .int .i64 al, .int .i64 st, .int .i64 en, .int .i64 ra, .int .i64 sh, .slice a n cap]] w fun e w' => e = .returned (.agg #[.int .i64 k, .string i, .string ⟨#[]⟩, .string c, .string s, .int .i64 sd, .int .i64 q, .int .i64 p, .int .i64 al, .int .i64 st, .int .i64 en, .int .i64 0, .int .i64 sh, .slice none 0 0]) ∧ Below w.heap.size w w' := by
  have gk1 : (k == 1) = true := beq_iff_eq.2 h1
  clear h1
  have ga2 : (al == 2) = false := beq_false_of_ne (by omega)
  have ga3 : (al == 3) = false := beq_false_of_ne (by omega)
  have ga4 : (al == 4) = true := beq_iff_eq.2 a2
  clear a2
  go_enter Tryz.func42, Tryz.ntmps42
  go_wp2_with fail
  refine bodyPost_ret (v := .agg #[.int .i64 k, .string i, .string ⟨#[]⟩, .string c, .string s, .int .i64 sd, .int .i64 q, .int .i64 p, .int .i64 al, .int .i64 st, .int .i64 en, .int .i64 0, .int .i64 sh, .slice none 0 0]) (by simp [results, Tryz.results42, go_sem]) rfl ⟨rfl, ?_⟩
  exact (((Below.refl _ w).alloc (Nat.le_refl _) _).alloc (by simp) _).alloc (by simp; omega) _
set_option maxHeartbeats 8000000 in
theorem kept_amend (k : Int) (i t c s : ByteArray) (sd q p al st en ra sh : Int) (a : Option Addr) (n cap : Nat) (w : World) (h3 : k = 3) :
    Calls Tryz.prog 42 #[.agg #[.int .i64 k, .string i, .string t, .string c, .string s, .int .i64 sd, .int .i64 q, .int .i64 p, .int .i64 al, .int .i64 st, .int .i64 en, .int .i64 ra, .int .i64 sh, .slice a n cap]] w fun e w' => e = .returned (.agg #[.int .i64 k, .string i, .string t, .string ⟨#[]⟩, .string ⟨#[]⟩, .int .i64 0, .int .i64 q, .int .i64 p, .int .i64 0, .int .i64 0, .int .i64 en, .int .i64 0, .int .i64 0, .slice none 0 0]) ∧ Below w.heap.size w w' := by
  have gk1 : (k == 1) = false := beq_false_of_ne (by omega)
  have gk3 : (k == 3) = true := beq_iff_eq.2 h3
  clear h3
  go_enter Tryz.func42, Tryz.ntmps42
  go_wp2_with fail
  refine bodyPost_ret (v := .agg #[.int .i64 k, .string i, .string t, .string ⟨#[]⟩, .string ⟨#[]⟩, .int .i64 0, .int .i64 q, .int .i64 p, .int .i64 0, .int .i64 0, .int .i64 en, .int .i64 0, .int .i64 0, .slice none 0 0]) (by simp [results, Tryz.results42, go_sem]) rfl ⟨rfl, ?_⟩
  exact (((Below.refl _ w).alloc (Nat.le_refl _) _).alloc (by simp) _).alloc (by simp; omega) _
set_option maxHeartbeats 8000000 in
theorem kept_plain (k : Int) (i t c s : ByteArray) (sd q p al st en ra sh : Int) (a : Option Addr) (n cap : Nat) (w : World) (h1 : k ≠ 1) (h3 : k ≠ 3) :
    Calls Tryz.prog 42 #[.agg #[.int .i64 k, .string i, .string t, .string c, .string s, .int .i64 sd, .int .i64 q, .int .i64 p, .int .i64 al, .int .i64 st, .int .i64 en, .int .i64 ra, .int .i64 sh, .slice a n cap]] w fun e w' => e = .returned (.agg #[.int .i64 k, .string i, .string t, .string ⟨#[]⟩, .string ⟨#[]⟩, .int .i64 0, .int .i64 0, .int .i64 0, .int .i64 0, .int .i64 0, .int .i64 0, .int .i64 0, .int .i64 0, .slice none 0 0]) ∧ Below w.heap.size w w' := by
  have gk1 : (k == 1) = false := beq_false_of_ne h1
  have gk3 : (k == 3) = false := beq_false_of_ne h3
  clear h1 h3
  go_enter Tryz.func42, Tryz.ntmps42
  go_wp2_with fail
  refine bodyPost_ret (v := .agg #[.int .i64 k, .string i, .string t, .string ⟨#[]⟩, .string ⟨#[]⟩, .int .i64 0, .int .i64 0, .int .i64 0, .int .i64 0, .int .i64 0, .int .i64 0, .int .i64 0, .int .i64 0, .slice none 0 0]) (by simp [results, Tryz.results42, go_sem]) rfl ⟨rfl, ?_⟩
  exact (((Below.refl _ w).alloc (Nat.le_refl _) _).alloc (by simp) _).alloc (by simp; omega) _
end Go.Proofs.YtdacfnodihannaaGreat
