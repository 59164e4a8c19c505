/-
  Contracts of the reference's Put and Number; fields that all have forms, joined.
-/
import Derived.Deep.RegionHeld3
import Derived.Deep.RegionWith
import Derived.Test.YtdacmhnniecmhaaDoorGB
import Derived.Test.YtdacmhnniecmhaaDoorGE
import Derived.Test.YtdacmhnniecmhaaDoorHE
import Derived.Test.YtdacmhnniecmhaaDoorGL
namespace Go.Proofs.YtdacmhnniecmhaaDoor
open Go.ChangeShapes Go.WideShapes Go.ChangeAt Go.RowKit Go.Lib

/-- A field of digits and a value. -/
def putL (a : List UInt8) (v : ByteArray) : ByteArray := mk (a ++ 61 :: (v.data.toList ++ [1]))
theorem putL_glue (a : List UInt8) (v : ByteArray) : mk a ++ (⟨#[61]⟩ : ByteArray) ++ v ++ (⟨#[1]⟩ : ByteArray) = putL a v := by
  apply bytes_ext8
  simp [mk, putL]
theorem putL_size (a : List UInt8) (v : ByteArray) : (putL a v).size = a.length + v.size + 2 := by
  unfold putL
  rw [mk_size, size_eq]
  simp
  omega
theorem join_run (a b : ByteArray) (h : a.size + b.size ≤ 10000000) (w : World) : (Op.stringOp .add a b).run Tryd.prog w = .ok (.string (a ++ b)) w := by
  rw [run_string_add_sum]
  omega
set_option maxHeartbeats 2000000 in
theorem refPut_any (a : List UInt8) (v : ByteArray) (ha : a.length ≤ 10) (hv : v.size ≤ 100000) (w : World) :
    Calls Tryd.prog 44 #[.string (mk a), .string v] w fun e w' => e = .returned (.string (putL a v)) ∧ w' = w := by
  obtain ⟨D1, D2, j1, j2, j3⟩ := glue_runs (mk a) v (putL a v) (putL_glue a v) (by rw [mk_size]; omega) (by omega)
  generalize mk a = A at *
  generalize putL a v = X at *
  clear ha hv
  go_enter Tryd.func44, Tryd.ntmps44
  go_wp2_with fail
  go_ret
  exact ⟨rfl, rfl⟩
set_option maxHeartbeats 2000000 in
theorem numberP_any (a : List UInt8) (n : Int) (ha : a.length ≤ 10) (h0 : 0 ≤ n) (h2 : n ≤ 1099511627776) (w : World) :
    Calls Tryd.prog 45 #[.string (mk a), .int .i64 n] w fun e w' => e = .returned (.string (putL a (numT n))) ∧ Below w.heap.size w w' := by
  obtain ⟨m, rfl⟩ : ∃ m : Nat, n = (m : Int) := ⟨n.toNat, by omega⟩
  have DG := refDigits_all m (by omega) w
  have hz : (numT (m : Int)).size ≤ 100000 := by
    have := (numT_val (n := (m : Int)) (by omega)).2.1
    rw [size_eq]
    omega
  have PT := fun w => refPut_any a (numT (m : Int)) ha hz w
  rw [show mk (decDigits m) = numT (m : Int) from rfl] at DG
  generalize numT (m : Int) = X at *
  generalize mk a = A at *
  clear ha hz h2
  go_enter Tryd.func45, Tryd.ntmps45
  go_wp2_with fail
  refine DG.mono ?_
  rintro e w1 ⟨rfl, b1⟩
  go_wp2_with fail
  refine (PT _).mono ?_
  rintro e w2 ⟨rfl, rfl⟩
  go_wp2_with fail
  go_ret
  exact ⟨rfl, b1⟩
theorem num_small (n : Int) (h2 : n ≤ 1099511627776) : (numT n).size ≤ 600 := by
  have := (numT_val (n := n) (by omega)).2.1
  rw [size_eq]
  omega
/-- Fields that all have forms, joined. -/
def flat (L : List Fd) : List UInt8 := (L.map fun f => decDigits f.1.toNat ++ 61 :: (f.2.data.toList ++ [1])).flatten
theorem cat_flat : ∀ {L : List Fd}, AllOk L → cat L = flat L
  | [], _ => rfl
  | f :: r, h => by
    obtain ⟨h1, h2⟩ := AllOk.cons.1 h
    rw [cat, cat_flat h2]
    obtain ⟨_, _, _, h4⟩ := formE_ok (ok_form h1)
    rw [h4]
    rfl
end Go.Proofs.YtdacmhnniecmhaaDoor
/-
  Contracts of the reference's Put, Number and Form.
-/
namespace Go.Proofs.YtdacmhnniecmhaaDoor
open Go.ChangeShapes Go.WideShapes Go.ChangeAt Go.RowKit Go.Lib


set_option maxRecDepth 1000000 in
set_option maxHeartbeats 8000000 in
theorem refForm_1 (i x : ByteArray) (s l p c e g r : Int) (zi : i.size ≤ 600) (zx : x.size ≤ 600) (zs : 0 ≤ s ∧ s ≤ 1099511627776) (zl : 0 ≤ l ∧ l ≤ 1099511627776) (zp : 0 ≤ p ∧ p ≤ 1099511627776) (zc : 0 ≤ c ∧ c ≤ 1099511627776) (ze : 0 ≤ e ∧ e ≤ 1099511627776) (zr : 0 ≤ r ∧ r ≤ 1099511627776) (w : World) :
    Calls Tryd.prog 20 #[.agg #[.int .i64 1, .string i, .string x, .int .i64 s, .int .i64 l, .int .i64 p, .int .i64 c, .int .i64 e, .int .i64 g, .int .i64 r]] w fun e' w' => e' = .returned (.string (mk (((((([51, 53, 61, 56, 1] ++ ([49, 49] ++ 61 :: ((i).data.toList ++ [1]))) ++ ([49, 55] ++ 61 :: ((x).data.toList ++ [1]))) ++ ([51, 57] ++ 61 :: ((numT s).data.toList ++ [1]))) ++ ((([51, 50] ++ 61 :: ((numT l).data.toList ++ [1])) ++ ([51, 49] ++ 61 :: ((numT p).data.toList ++ [1]))) ++ ([49, 52] ++ 61 :: ((numT c).data.toList ++ [1])))) ++ ([49, 53, 49] ++ 61 :: ((numT e).data.toList ++ [1]))) ++ ([49, 48, 51] ++ 61 :: ((numT r).data.toList ++ [1]))))) ∧ Below w.heap.size w w' := by
  have HB0 : Hid (Below w.heap.size w (w.alloc (.cells #[.int .i64 1, .string i, .string x, .int .i64 s, .int .i64 l, .int .i64 p, .int .i64 c, .int .i64 e, .int .i64 g, .int .i64 r] 31))) := (Below.refl _ w).alloc (Nat.le_refl _) _
  have HT : Hid (TellAt (w.alloc (.cells #[.int .i64 1, .string i, .string x, .int .i64 s, .int .i64 l, .int .i64 p, .int .i64 c, .int .i64 e, .int .i64 g, .int .i64 r] 31)) w.heap.size (tt 1 i x s l p c e g r)) := letters_box 1 i x s l p c e g r w
  have C0 : ∀ w, Calls Tryd.prog 44 #[.string ⟨#[49, 49]⟩, .string i] w fun e' w' => e' = .returned (.string (putL [49, 49] i)) ∧ w = w' := fun w => (refPut_any [49, 49] i (by decide) (by omega) w).mono fun e w' ⟨h1, h2⟩ => ⟨h1, h2.symm⟩
  have S0 := putL_size [49, 49] (i)
  simp only [List.length_cons, List.length_nil] at S0
  have C1 : ∀ w, Calls Tryd.prog 44 #[.string ⟨#[49, 55]⟩, .string x] w fun e' w' => e' = .returned (.string (putL [49, 55] x)) ∧ w = w' := fun w => (refPut_any [49, 55] x (by decide) (by omega) w).mono fun e w' ⟨h1, h2⟩ => ⟨h1, h2.symm⟩
  have S1 := putL_size [49, 55] (x)
  simp only [List.length_cons, List.length_nil] at S1
  have C2 : ∀ w, Calls Tryd.prog 45 #[.string ⟨#[51, 57]⟩, .int .i64 s] w fun e' w' => e' = .returned (.string (putL [51, 57] (numT s))) ∧ Below w.heap.size w w' := fun w => numberP_any [51, 57] s (by decide) zs.1 zs.2 w
  have S2 := putL_size [51, 57] (numT s)
  have N2 := num_small s zs.2
  simp only [List.length_cons, List.length_nil] at S2
  have C3 : ∀ w, Calls Tryd.prog 45 #[.string ⟨#[51, 50]⟩, .int .i64 l] w fun e' w' => e' = .returned (.string (putL [51, 50] (numT l))) ∧ Below w.heap.size w w' := fun w => numberP_any [51, 50] l (by decide) zl.1 zl.2 w
  have S3 := putL_size [51, 50] (numT l)
  have N3 := num_small l zl.2
  simp only [List.length_cons, List.length_nil] at S3
  have C4 : ∀ w, Calls Tryd.prog 45 #[.string ⟨#[51, 49]⟩, .int .i64 p] w fun e' w' => e' = .returned (.string (putL [51, 49] (numT p))) ∧ Below w.heap.size w w' := fun w => numberP_any [51, 49] p (by decide) zp.1 zp.2 w
  have S4 := putL_size [51, 49] (numT p)
  have N4 := num_small p zp.2
  simp only [List.length_cons, List.length_nil] at S4
  have C5 : ∀ w, Calls Tryd.prog 45 #[.string ⟨#[49, 52]⟩, .int .i64 c] w fun e' w' => e' = .returned (.string (putL [49, 52] (numT c))) ∧ Below w.heap.size w w' := fun w => numberP_any [49, 52] c (by decide) zc.1 zc.2 w
  have S5 := putL_size [49, 52] (numT c)
  have N5 := num_small c zc.2
  simp only [List.length_cons, List.length_nil] at S5
  have C6 : ∀ w, Calls Tryd.prog 45 #[.string ⟨#[49, 53, 49]⟩, .int .i64 e] w fun e' w' => e' = .returned (.string (putL [49, 53, 49] (numT e))) ∧ Below w.heap.size w w' := fun w => numberP_any [49, 53, 49] e (by decide) ze.1 ze.2 w
  have S6 := putL_size [49, 53, 49] (numT e)
  have N6 := num_small e ze.2
  simp only [List.length_cons, List.length_nil] at S6
  have C7 : ∀ w, Calls Tryd.prog 45 #[.string ⟨#[49, 48, 51]⟩, .int .i64 r] w fun e' w' => e' = .returned (.string (putL [49, 48, 51] (numT r))) ∧ Below w.heap.size w w' := fun w => numberP_any [49, 48, 51] r (by decide) zr.1 zr.2 w
  have S7 := putL_size [49, 48, 51] (numT r)
  have N7 := num_small r zr.2
  simp only [List.length_cons, List.length_nil] at S7
  have HOUT : Hid ((((((((⟨#[51, 53, 61, 56, 1]⟩ : ByteArray) ++ putL [49, 49] i) ++ putL [49, 55] x) ++ putL [51, 57] (numT s)) ++ ((putL [51, 50] (numT l) ++ putL [51, 49] (numT p)) ++ putL [49, 52] (numT c))) ++ putL [49, 53, 49] (numT e)) ++ putL [49, 48, 51] (numT r)) = mk (((((([51, 53, 61, 56, 1] ++ ([49, 49] ++ 61 :: ((i).data.toList ++ [1]))) ++ ([49, 55] ++ 61 :: ((x).data.toList ++ [1]))) ++ ([51, 57] ++ 61 :: ((numT s).data.toList ++ [1]))) ++ ((([51, 50] ++ 61 :: ((numT l).data.toList ++ [1])) ++ ([51, 49] ++ 61 :: ((numT p).data.toList ++ [1]))) ++ ([49, 52] ++ 61 :: ((numT c).data.toList ++ [1])))) ++ ([49, 53, 49] ++ 61 :: ((numT e).data.toList ++ [1]))) ++ ([49, 48, 51] ++ 61 :: ((numT r).data.toList ++ [1])))) := by
    show _ = _
    apply bytes_ext8
    simp [mk, putL]
  obtain ⟨p0, hp0⟩ : ∃ pp, putL [49, 49] i = pp := ⟨_, rfl⟩
  rw [hp0] at C0 HOUT S0
  obtain ⟨p1, hp1⟩ : ∃ pp, putL [49, 55] x = pp := ⟨_, rfl⟩
  rw [hp1] at C1 HOUT S1
  obtain ⟨p2, hp2⟩ : ∃ pp, putL [51, 57] (numT s) = pp := ⟨_, rfl⟩
  rw [hp2] at C2 HOUT S2
  obtain ⟨p3, hp3⟩ : ∃ pp, putL [51, 50] (numT l) = pp := ⟨_, rfl⟩
  rw [hp3] at C3 HOUT S3
  obtain ⟨p4, hp4⟩ : ∃ pp, putL [51, 49] (numT p) = pp := ⟨_, rfl⟩
  rw [hp4] at C4 HOUT S4
  obtain ⟨p5, hp5⟩ : ∃ pp, putL [49, 52] (numT c) = pp := ⟨_, rfl⟩
  rw [hp5] at C5 HOUT S5
  obtain ⟨p6, hp6⟩ : ∃ pp, putL [49, 53, 49] (numT e) = pp := ⟨_, rfl⟩
  rw [hp6] at C6 HOUT S6
  obtain ⟨p7, hp7⟩ : ∃ pp, putL [49, 48, 51] (numT r) = pp := ⟨_, rfl⟩
  rw [hp7] at C7 HOUT S7
  have hw : (⟨#[51, 53, 61, 56, 1]⟩ : ByteArray).size = 5 := rfl
  rw [← HOUT.out]
  clear HOUT hp0 hp1 hp2 hp3 hp4 hp5 hp6 hp7
  have Jq0 := fun w => join_run (⟨#[51, 53, 61, 56, 1]⟩ : ByteArray) p0 (by omega) w
  have Zq0 : ((⟨#[51, 53, 61, 56, 1]⟩ : ByteArray) ++ p0).size = (⟨#[51, 53, 61, 56, 1]⟩ : ByteArray).size + p0.size := ByteArray.size_append
  obtain ⟨q0, hq0⟩ : ∃ q, (⟨#[51, 53, 61, 56, 1]⟩ : ByteArray) ++ p0 = q := ⟨_, rfl⟩
  rw [hq0] at Jq0 Zq0 ⊢
  have Jq1 := fun w => join_run q0 p1 (by omega) w
  have Zq1 : (q0 ++ p1).size = q0.size + p1.size := ByteArray.size_append
  obtain ⟨q1, hq1⟩ : ∃ q, q0 ++ p1 = q := ⟨_, rfl⟩
  rw [hq1] at Jq1 Zq1 ⊢
  have Jq2 := fun w => join_run q1 p2 (by omega) w
  have Zq2 : (q1 ++ p2).size = q1.size + p2.size := ByteArray.size_append
  obtain ⟨q2, hq2⟩ : ∃ q, q1 ++ p2 = q := ⟨_, rfl⟩
  rw [hq2] at Jq2 Zq2 ⊢
  have Jq3 := fun w => join_run p3 p4 (by omega) w
  have Zq3 : (p3 ++ p4).size = p3.size + p4.size := ByteArray.size_append
  obtain ⟨q3, hq3⟩ : ∃ q, p3 ++ p4 = q := ⟨_, rfl⟩
  rw [hq3] at Jq3 Zq3 ⊢
  have Jq4 := fun w => join_run q3 p5 (by omega) w
  have Zq4 : (q3 ++ p5).size = q3.size + p5.size := ByteArray.size_append
  obtain ⟨q4, hq4⟩ : ∃ q, q3 ++ p5 = q := ⟨_, rfl⟩
  rw [hq4] at Jq4 Zq4 ⊢
  have Jq5 := fun w => join_run q2 q4 (by omega) w
  have Zq5 : (q2 ++ q4).size = q2.size + q4.size := ByteArray.size_append
  obtain ⟨q5, hq5⟩ : ∃ q, q2 ++ q4 = q := ⟨_, rfl⟩
  rw [hq5] at Jq5 Zq5 ⊢
  have Jq6 := fun w => join_run q5 p6 (by omega) w
  have Zq6 : (q5 ++ p6).size = q5.size + p6.size := ByteArray.size_append
  obtain ⟨q6, hq6⟩ : ∃ q, q5 ++ p6 = q := ⟨_, rfl⟩
  rw [hq6] at Jq6 Zq6 ⊢
  have Jq7 := fun w => join_run q6 p7 (by omega) w
  have Zq7 : (q6 ++ p7).size = q6.size + p7.size := ByteArray.size_append
  obtain ⟨q7, hq7⟩ : ∃ q, q6 ++ p7 = q := ⟨_, rfl⟩
  rw [hq7] at Jq7 Zq7 ⊢
  clear hw hq0 Zq0 hq1 Zq1 hq2 Zq2 hq3 Zq3 hq4 Zq4 hq5 Zq5 hq6 Zq6 hq7 Zq7 S0 S1 S2 N2 S3 N3 S4 N4 S5 N5 S6 N6 S7 N7 zi zx zs zl zp zc ze zr
  obtain ⟨d0, d1, d2, d3, d4, d5, d6, d7, d8, d9⟩ := HT.out.letters
  go_enter Tryd.func20, Tryd.ntmps20
  go_wp2_with fail
  go_region_held3 (fun w' => w'.cell? ⟨w.heap.size, 0, none⟩ = some (.int .i64 1) ∧ w'.cell? ⟨w.heap.size, 1, none⟩ = some (.string i) ∧ w'.cell? ⟨w.heap.size, 2, none⟩ = some (.string x) ∧ w'.cell? ⟨w.heap.size, 3, none⟩ = some (.int .i64 s) ∧ w'.cell? ⟨w.heap.size, 4, none⟩ = some (.int .i64 l) ∧ w'.cell? ⟨w.heap.size, 5, none⟩ = some (.int .i64 p) ∧ w'.cell? ⟨w.heap.size, 6, none⟩ = some (.int .i64 c) ∧ w'.cell? ⟨w.heap.size, 7, none⟩ = some (.int .i64 e) ∧ w'.cell? ⟨w.heap.size, 8, none⟩ = some (.int .i64 g) ∧ w'.cell? ⟨w.heap.size, 9, none⟩ = some (.int .i64 r)) (go_keep) (first
    | (go_at_call_of 44 (Value.string ⟨#[49, 49]⟩); refine (C0 _).mono ?_; rintro e' y0 ⟨rfl, rfl⟩)
    | (go_at_call_of 44 (Value.string ⟨#[49, 55]⟩); refine (C1 _).mono ?_; rintro e' y1 ⟨rfl, rfl⟩)
    | (go_at_call_of 45 (Value.string ⟨#[51, 57]⟩); refine (C2 _).mono ?_; rintro e' y2 ⟨rfl, b2⟩; have B2 := below_of_drew b2; have X2 : Hid (TellAt y2 w.heap.size (tt 1 i x s l p c e g r)) := HT.out.still B2; obtain ⟨u20, u21, u22, u23, u24, u25, u26, u27, u28, u29⟩ := X2.out.letters; have HB2' : Hid (Below w.heap.size w y2) := HB0.out.trans (B2.mono HB0.out.size)))
  go_wp2_with fail
  go_region_held3 (fun w' => w'.cell? ⟨w.heap.size, 0, none⟩ = some (.int .i64 1) ∧ w'.cell? ⟨w.heap.size, 1, none⟩ = some (.string i) ∧ w'.cell? ⟨w.heap.size, 2, none⟩ = some (.string x) ∧ w'.cell? ⟨w.heap.size, 3, none⟩ = some (.int .i64 s) ∧ w'.cell? ⟨w.heap.size, 4, none⟩ = some (.int .i64 l) ∧ w'.cell? ⟨w.heap.size, 5, none⟩ = some (.int .i64 p) ∧ w'.cell? ⟨w.heap.size, 6, none⟩ = some (.int .i64 c) ∧ w'.cell? ⟨w.heap.size, 7, none⟩ = some (.int .i64 e) ∧ w'.cell? ⟨w.heap.size, 8, none⟩ = some (.int .i64 g) ∧ w'.cell? ⟨w.heap.size, 9, none⟩ = some (.int .i64 r)) (go_keep) (first
    | (go_at_call_of 45 (Value.string ⟨#[51, 50]⟩); refine (C3 _).mono ?_; rintro e' y3 ⟨rfl, b3⟩; have B3 := below_of_drew b3; have X3 : Hid (TellAt y3 w.heap.size (tt 1 i x s l p c e g r)) := X2.out.still B3; obtain ⟨u30, u31, u32, u33, u34, u35, u36, u37, u38, u39⟩ := X3.out.letters; have HB3' : Hid (Below w.heap.size w y3) := HB2'.out.trans (B3.mono HB2'.out.size))
    | (go_at_call_of 45 (Value.string ⟨#[51, 49]⟩); refine (C4 _).mono ?_; rintro e' y4 ⟨rfl, b4⟩; have B4 := b4; have X4 : Hid (TellAt y4 w.heap.size (tt 1 i x s l p c e g r)) := X3.out.still B4; obtain ⟨u40, u41, u42, u43, u44, u45, u46, u47, u48, u49⟩ := X4.out.letters; have HB4' : Hid (Below w.heap.size w y4) := HB3'.out.trans (B4.mono HB3'.out.size))
    | (go_at_call_of 45 (Value.string ⟨#[49, 52]⟩); refine (C5 _).mono ?_; rintro e' y5 ⟨rfl, b5⟩; have B5 := b5; have X5 : Hid (TellAt y5 w.heap.size (tt 1 i x s l p c e g r)) := X4.out.still B5; obtain ⟨u50, u51, u52, u53, u54, u55, u56, u57, u58, u59⟩ := X5.out.letters; have HB5' : Hid (Below w.heap.size w y5) := HB4'.out.trans (B5.mono HB4'.out.size)))
  go_wp2_with fail
  go_region_held3 (fun w' => w'.cell? ⟨w.heap.size, 0, none⟩ = some (.int .i64 1) ∧ w'.cell? ⟨w.heap.size, 1, none⟩ = some (.string i) ∧ w'.cell? ⟨w.heap.size, 2, none⟩ = some (.string x) ∧ w'.cell? ⟨w.heap.size, 3, none⟩ = some (.int .i64 s) ∧ w'.cell? ⟨w.heap.size, 4, none⟩ = some (.int .i64 l) ∧ w'.cell? ⟨w.heap.size, 5, none⟩ = some (.int .i64 p) ∧ w'.cell? ⟨w.heap.size, 6, none⟩ = some (.int .i64 c) ∧ w'.cell? ⟨w.heap.size, 7, none⟩ = some (.int .i64 e) ∧ w'.cell? ⟨w.heap.size, 8, none⟩ = some (.int .i64 g) ∧ w'.cell? ⟨w.heap.size, 9, none⟩ = some (.int .i64 r)) (go_keep) (first
    | (go_at_call_of 45 (Value.string ⟨#[49, 53, 49]⟩); refine (C6 _).mono ?_; rintro e' y6 ⟨rfl, b6⟩; have B6 := below_of_drew b6; have X6 : Hid (TellAt y6 w.heap.size (tt 1 i x s l p c e g r)) := X5.out.still B6; obtain ⟨u60, u61, u62, u63, u64, u65, u66, u67, u68, u69⟩ := X6.out.letters; have HB6' : Hid (Below w.heap.size w y6) := HB5'.out.trans (B6.mono HB5'.out.size))
    | (go_at_call_of 45 (Value.string ⟨#[49, 48, 51]⟩); refine (C7 _).mono ?_; rintro e' y7 ⟨rfl, b7⟩; have B7 := b7; have X7 : Hid (TellAt y7 w.heap.size (tt 1 i x s l p c e g r)) := X6.out.still B7; obtain ⟨u70, u71, u72, u73, u74, u75, u76, u77, u78, u79⟩ := X7.out.letters; have HB7' : Hid (Below w.heap.size w y7) := HB6'.out.trans (B7.mono HB6'.out.size)))
  all_goals
    go_wp2_with fail
    go_ret
    exact ⟨rfl, HB7'.out⟩
set_option maxRecDepth 1000000 in
set_option maxHeartbeats 8000000 in
theorem refForm_2 (i x : ByteArray) (s l p c e g r : Int) (zi : i.size ≤ 600) (zs : 0 ≤ s ∧ s ≤ 1099511627776) (zr : 0 ≤ r ∧ r ≤ 1099511627776) (w : World) :
    Calls Tryd.prog 20 #[.agg #[.int .i64 2, .string i, .string x, .int .i64 s, .int .i64 l, .int .i64 p, .int .i64 c, .int .i64 e, .int .i64 g, .int .i64 r]] w fun e' w' => e' = .returned (.string (mk ((([51, 53, 61, 57, 1] ++ ([49, 49] ++ 61 :: ((i).data.toList ++ [1]))) ++ ([51, 57] ++ 61 :: ((numT s).data.toList ++ [1]))) ++ ([49, 48, 51] ++ 61 :: ((numT r).data.toList ++ [1]))))) ∧ Below w.heap.size w w' := by
  have HB0 : Hid (Below w.heap.size w (w.alloc (.cells #[.int .i64 2, .string i, .string x, .int .i64 s, .int .i64 l, .int .i64 p, .int .i64 c, .int .i64 e, .int .i64 g, .int .i64 r] 31))) := (Below.refl _ w).alloc (Nat.le_refl _) _
  have HT : Hid (TellAt (w.alloc (.cells #[.int .i64 2, .string i, .string x, .int .i64 s, .int .i64 l, .int .i64 p, .int .i64 c, .int .i64 e, .int .i64 g, .int .i64 r] 31)) w.heap.size (tt 2 i x s l p c e g r)) := letters_box 2 i x s l p c e g r w
  have C0 : ∀ w, Calls Tryd.prog 44 #[.string ⟨#[49, 49]⟩, .string i] w fun e' w' => e' = .returned (.string (putL [49, 49] i)) ∧ w = w' := fun w => (refPut_any [49, 49] i (by decide) (by omega) w).mono fun e w' ⟨h1, h2⟩ => ⟨h1, h2.symm⟩
  have S0 := putL_size [49, 49] (i)
  simp only [List.length_cons, List.length_nil] at S0
  have C1 : ∀ w, Calls Tryd.prog 45 #[.string ⟨#[51, 57]⟩, .int .i64 s] w fun e' w' => e' = .returned (.string (putL [51, 57] (numT s))) ∧ Below w.heap.size w w' := fun w => numberP_any [51, 57] s (by decide) zs.1 zs.2 w
  have S1 := putL_size [51, 57] (numT s)
  have N1 := num_small s zs.2
  simp only [List.length_cons, List.length_nil] at S1
  have C2 : ∀ w, Calls Tryd.prog 45 #[.string ⟨#[49, 48, 51]⟩, .int .i64 r] w fun e' w' => e' = .returned (.string (putL [49, 48, 51] (numT r))) ∧ Below w.heap.size w w' := fun w => numberP_any [49, 48, 51] r (by decide) zr.1 zr.2 w
  have S2 := putL_size [49, 48, 51] (numT r)
  have N2 := num_small r zr.2
  simp only [List.length_cons, List.length_nil] at S2
  have HOUT : Hid (((((⟨#[51, 53, 61, 57, 1]⟩ : ByteArray) ++ putL [49, 49] i) ++ putL [51, 57] (numT s)) ++ putL [49, 48, 51] (numT r)) = mk ((([51, 53, 61, 57, 1] ++ ([49, 49] ++ 61 :: ((i).data.toList ++ [1]))) ++ ([51, 57] ++ 61 :: ((numT s).data.toList ++ [1]))) ++ ([49, 48, 51] ++ 61 :: ((numT r).data.toList ++ [1])))) := by
    show _ = _
    apply bytes_ext8
    simp [mk, putL]
  obtain ⟨p0, hp0⟩ : ∃ pp, putL [49, 49] i = pp := ⟨_, rfl⟩
  rw [hp0] at C0 HOUT S0
  obtain ⟨p1, hp1⟩ : ∃ pp, putL [51, 57] (numT s) = pp := ⟨_, rfl⟩
  rw [hp1] at C1 HOUT S1
  obtain ⟨p2, hp2⟩ : ∃ pp, putL [49, 48, 51] (numT r) = pp := ⟨_, rfl⟩
  rw [hp2] at C2 HOUT S2
  have hw : (⟨#[51, 53, 61, 57, 1]⟩ : ByteArray).size = 5 := rfl
  rw [← HOUT.out]
  clear HOUT hp0 hp1 hp2
  have Jq0 := fun w => join_run (⟨#[51, 53, 61, 57, 1]⟩ : ByteArray) p0 (by omega) w
  have Zq0 : ((⟨#[51, 53, 61, 57, 1]⟩ : ByteArray) ++ p0).size = (⟨#[51, 53, 61, 57, 1]⟩ : ByteArray).size + p0.size := ByteArray.size_append
  obtain ⟨q0, hq0⟩ : ∃ q, (⟨#[51, 53, 61, 57, 1]⟩ : ByteArray) ++ p0 = q := ⟨_, rfl⟩
  rw [hq0] at Jq0 Zq0 ⊢
  have Jq1 := fun w => join_run q0 p1 (by omega) w
  have Zq1 : (q0 ++ p1).size = q0.size + p1.size := ByteArray.size_append
  obtain ⟨q1, hq1⟩ : ∃ q, q0 ++ p1 = q := ⟨_, rfl⟩
  rw [hq1] at Jq1 Zq1 ⊢
  have Jq2 := fun w => join_run q1 p2 (by omega) w
  have Zq2 : (q1 ++ p2).size = q1.size + p2.size := ByteArray.size_append
  obtain ⟨q2, hq2⟩ : ∃ q, q1 ++ p2 = q := ⟨_, rfl⟩
  rw [hq2] at Jq2 Zq2 ⊢
  clear hw hq0 Zq0 hq1 Zq1 hq2 Zq2 S0 S1 N1 S2 N2 zi zs zr
  obtain ⟨d0, d1, d2, d3, d4, d5, d6, d7, d8, d9⟩ := HT.out.letters
  go_enter Tryd.func20, Tryd.ntmps20
  go_wp2_with fail
  go_region_held3 (fun w' => w'.cell? ⟨w.heap.size, 0, none⟩ = some (.int .i64 2) ∧ w'.cell? ⟨w.heap.size, 1, none⟩ = some (.string i) ∧ w'.cell? ⟨w.heap.size, 2, none⟩ = some (.string x) ∧ w'.cell? ⟨w.heap.size, 3, none⟩ = some (.int .i64 s) ∧ w'.cell? ⟨w.heap.size, 4, none⟩ = some (.int .i64 l) ∧ w'.cell? ⟨w.heap.size, 5, none⟩ = some (.int .i64 p) ∧ w'.cell? ⟨w.heap.size, 6, none⟩ = some (.int .i64 c) ∧ w'.cell? ⟨w.heap.size, 7, none⟩ = some (.int .i64 e) ∧ w'.cell? ⟨w.heap.size, 8, none⟩ = some (.int .i64 g) ∧ w'.cell? ⟨w.heap.size, 9, none⟩ = some (.int .i64 r)) (go_keep) (first
    | (go_at_call_of 44 (Value.string ⟨#[49, 49]⟩); refine (C0 _).mono ?_; rintro e' y0 ⟨rfl, rfl⟩)
    | (go_at_call_of 45 (Value.string ⟨#[51, 57]⟩); refine (C1 _).mono ?_; rintro e' y1 ⟨rfl, b1⟩; have B1 := below_of_drew b1; have X1 : Hid (TellAt y1 w.heap.size (tt 2 i x s l p c e g r)) := HT.out.still B1; obtain ⟨u10, u11, u12, u13, u14, u15, u16, u17, u18, u19⟩ := X1.out.letters; have HB1' : Hid (Below w.heap.size w y1) := HB0.out.trans (B1.mono HB0.out.size))
    | (go_at_call_of 45 (Value.string ⟨#[49, 48, 51]⟩); refine (C2 _).mono ?_; rintro e' y2 ⟨rfl, b2⟩; have B2 := b2; have X2 : Hid (TellAt y2 w.heap.size (tt 2 i x s l p c e g r)) := X1.out.still B2; obtain ⟨u20, u21, u22, u23, u24, u25, u26, u27, u28, u29⟩ := X2.out.letters; have HB2' : Hid (Below w.heap.size w y2) := HB1'.out.trans (B2.mono HB1'.out.size)))
  all_goals
    go_wp2_with fail
    go_ret
    exact ⟨rfl, HB2'.out⟩
set_option maxRecDepth 1000000 in
set_option maxHeartbeats 8000000 in
theorem refForm_3 (i x : ByteArray) (s l p c e g r : Int) (zg : 0 ≤ g ∧ g ≤ 1099511627776) (zr : 0 ≤ r ∧ r ≤ 1099511627776) (w : World) :
    Calls Tryd.prog 20 #[.agg #[.int .i64 3, .string i, .string x, .int .i64 s, .int .i64 l, .int .i64 p, .int .i64 c, .int .i64 e, .int .i64 g, .int .i64 r]] w fun e' w' => e' = .returned (.string (mk (([51, 53, 61, 51, 1] ++ ([51, 55, 49] ++ 61 :: ((numT g).data.toList ++ [1]))) ++ ([51, 55, 51] ++ 61 :: ((numT r).data.toList ++ [1]))))) ∧ Below w.heap.size w w' := by
  have HB0 : Hid (Below w.heap.size w (w.alloc (.cells #[.int .i64 3, .string i, .string x, .int .i64 s, .int .i64 l, .int .i64 p, .int .i64 c, .int .i64 e, .int .i64 g, .int .i64 r] 31))) := (Below.refl _ w).alloc (Nat.le_refl _) _
  have HT : Hid (TellAt (w.alloc (.cells #[.int .i64 3, .string i, .string x, .int .i64 s, .int .i64 l, .int .i64 p, .int .i64 c, .int .i64 e, .int .i64 g, .int .i64 r] 31)) w.heap.size (tt 3 i x s l p c e g r)) := letters_box 3 i x s l p c e g r w
  have C0 : ∀ w, Calls Tryd.prog 45 #[.string ⟨#[51, 55, 49]⟩, .int .i64 g] w fun e' w' => e' = .returned (.string (putL [51, 55, 49] (numT g))) ∧ Below w.heap.size w w' := fun w => numberP_any [51, 55, 49] g (by decide) zg.1 zg.2 w
  have S0 := putL_size [51, 55, 49] (numT g)
  have N0 := num_small g zg.2
  simp only [List.length_cons, List.length_nil] at S0
  have C1 : ∀ w, Calls Tryd.prog 45 #[.string ⟨#[51, 55, 51]⟩, .int .i64 r] w fun e' w' => e' = .returned (.string (putL [51, 55, 51] (numT r))) ∧ Below w.heap.size w w' := fun w => numberP_any [51, 55, 51] r (by decide) zr.1 zr.2 w
  have S1 := putL_size [51, 55, 51] (numT r)
  have N1 := num_small r zr.2
  simp only [List.length_cons, List.length_nil] at S1
  have HOUT : Hid ((((⟨#[51, 53, 61, 51, 1]⟩ : ByteArray) ++ putL [51, 55, 49] (numT g)) ++ putL [51, 55, 51] (numT r)) = mk (([51, 53, 61, 51, 1] ++ ([51, 55, 49] ++ 61 :: ((numT g).data.toList ++ [1]))) ++ ([51, 55, 51] ++ 61 :: ((numT r).data.toList ++ [1])))) := by
    show _ = _
    apply bytes_ext8
    simp [mk, putL]
  obtain ⟨p0, hp0⟩ : ∃ pp, putL [51, 55, 49] (numT g) = pp := ⟨_, rfl⟩
  rw [hp0] at C0 HOUT S0
  obtain ⟨p1, hp1⟩ : ∃ pp, putL [51, 55, 51] (numT r) = pp := ⟨_, rfl⟩
  rw [hp1] at C1 HOUT S1
  have hw : (⟨#[51, 53, 61, 51, 1]⟩ : ByteArray).size = 5 := rfl
  rw [← HOUT.out]
  clear HOUT hp0 hp1
  have Jq0 := fun w => join_run (⟨#[51, 53, 61, 51, 1]⟩ : ByteArray) p0 (by omega) w
  have Zq0 : ((⟨#[51, 53, 61, 51, 1]⟩ : ByteArray) ++ p0).size = (⟨#[51, 53, 61, 51, 1]⟩ : ByteArray).size + p0.size := ByteArray.size_append
  obtain ⟨q0, hq0⟩ : ∃ q, (⟨#[51, 53, 61, 51, 1]⟩ : ByteArray) ++ p0 = q := ⟨_, rfl⟩
  rw [hq0] at Jq0 Zq0 ⊢
  have Jq1 := fun w => join_run q0 p1 (by omega) w
  have Zq1 : (q0 ++ p1).size = q0.size + p1.size := ByteArray.size_append
  obtain ⟨q1, hq1⟩ : ∃ q, q0 ++ p1 = q := ⟨_, rfl⟩
  rw [hq1] at Jq1 Zq1 ⊢
  clear hw hq0 Zq0 hq1 Zq1 S0 N0 S1 N1 zg zr
  obtain ⟨d0, d1, d2, d3, d4, d5, d6, d7, d8, d9⟩ := HT.out.letters
  go_enter Tryd.func20, Tryd.ntmps20
  go_wp2_with fail
  go_region_held3 (fun w' => w'.cell? ⟨w.heap.size, 0, none⟩ = some (.int .i64 3) ∧ w'.cell? ⟨w.heap.size, 1, none⟩ = some (.string i) ∧ w'.cell? ⟨w.heap.size, 2, none⟩ = some (.string x) ∧ w'.cell? ⟨w.heap.size, 3, none⟩ = some (.int .i64 s) ∧ w'.cell? ⟨w.heap.size, 4, none⟩ = some (.int .i64 l) ∧ w'.cell? ⟨w.heap.size, 5, none⟩ = some (.int .i64 p) ∧ w'.cell? ⟨w.heap.size, 6, none⟩ = some (.int .i64 c) ∧ w'.cell? ⟨w.heap.size, 7, none⟩ = some (.int .i64 e) ∧ w'.cell? ⟨w.heap.size, 8, none⟩ = some (.int .i64 g) ∧ w'.cell? ⟨w.heap.size, 9, none⟩ = some (.int .i64 r)) (go_keep) (first
    | (go_at_call_of 45 (Value.string ⟨#[51, 55, 49]⟩); refine (C0 _).mono ?_; rintro e' y0 ⟨rfl, b0⟩; have B0 := below_of_drew b0; have X0 : Hid (TellAt y0 w.heap.size (tt 3 i x s l p c e g r)) := HT.out.still B0; obtain ⟨u00, u01, u02, u03, u04, u05, u06, u07, u08, u09⟩ := X0.out.letters; have HB0' : Hid (Below w.heap.size w y0) := HB0.out.trans (B0.mono HB0.out.size))
    | (go_at_call_of 45 (Value.string ⟨#[51, 55, 51]⟩); refine (C1 _).mono ?_; rintro e' y1 ⟨rfl, b1⟩; have B1 := b1; have X1 : Hid (TellAt y1 w.heap.size (tt 3 i x s l p c e g r)) := X0.out.still B1; obtain ⟨u10, u11, u12, u13, u14, u15, u16, u17, u18, u19⟩ := X1.out.letters; have HB1' : Hid (Below w.heap.size w y1) := HB0'.out.trans (B1.mono HB0'.out.size)))
  all_goals
    go_wp2_with fail
    go_ret
    exact ⟨rfl, HB1'.out⟩
set_option maxRecDepth 1000000 in
set_option maxHeartbeats 8000000 in
theorem refForm_4 (i x : ByteArray) (s l p c e g r : Int) (zg : 0 ≤ g ∧ g ≤ 1099511627776) (zr : 0 ≤ r ∧ r ≤ 1099511627776) (w : World) :
    Calls Tryd.prog 20 #[.agg #[.int .i64 4, .string i, .string x, .int .i64 s, .int .i64 l, .int .i64 p, .int .i64 c, .int .i64 e, .int .i64 g, .int .i64 r]] w fun e' w' => e' = .returned (.string (mk (([51, 53, 61, 106, 1] ++ ([51, 55, 49] ++ 61 :: ((numT g).data.toList ++ [1]))) ++ ([51, 56, 48] ++ 61 :: ((numT r).data.toList ++ [1]))))) ∧ Below w.heap.size w w' := by
  have HB0 : Hid (Below w.heap.size w (w.alloc (.cells #[.int .i64 4, .string i, .string x, .int .i64 s, .int .i64 l, .int .i64 p, .int .i64 c, .int .i64 e, .int .i64 g, .int .i64 r] 31))) := (Below.refl _ w).alloc (Nat.le_refl _) _
  have HT : Hid (TellAt (w.alloc (.cells #[.int .i64 4, .string i, .string x, .int .i64 s, .int .i64 l, .int .i64 p, .int .i64 c, .int .i64 e, .int .i64 g, .int .i64 r] 31)) w.heap.size (tt 4 i x s l p c e g r)) := letters_box 4 i x s l p c e g r w
  have C0 : ∀ w, Calls Tryd.prog 45 #[.string ⟨#[51, 55, 49]⟩, .int .i64 g] w fun e' w' => e' = .returned (.string (putL [51, 55, 49] (numT g))) ∧ Below w.heap.size w w' := fun w => numberP_any [51, 55, 49] g (by decide) zg.1 zg.2 w
  have S0 := putL_size [51, 55, 49] (numT g)
  have N0 := num_small g zg.2
  simp only [List.length_cons, List.length_nil] at S0
  have C1 : ∀ w, Calls Tryd.prog 45 #[.string ⟨#[51, 56, 48]⟩, .int .i64 r] w fun e' w' => e' = .returned (.string (putL [51, 56, 48] (numT r))) ∧ Below w.heap.size w w' := fun w => numberP_any [51, 56, 48] r (by decide) zr.1 zr.2 w
  have S1 := putL_size [51, 56, 48] (numT r)
  have N1 := num_small r zr.2
  simp only [List.length_cons, List.length_nil] at S1
  have HOUT : Hid ((((⟨#[51, 53, 61, 106, 1]⟩ : ByteArray) ++ putL [51, 55, 49] (numT g)) ++ putL [51, 56, 48] (numT r)) = mk (([51, 53, 61, 106, 1] ++ ([51, 55, 49] ++ 61 :: ((numT g).data.toList ++ [1]))) ++ ([51, 56, 48] ++ 61 :: ((numT r).data.toList ++ [1])))) := by
    show _ = _
    apply bytes_ext8
    simp [mk, putL]
  obtain ⟨p0, hp0⟩ : ∃ pp, putL [51, 55, 49] (numT g) = pp := ⟨_, rfl⟩
  rw [hp0] at C0 HOUT S0
  obtain ⟨p1, hp1⟩ : ∃ pp, putL [51, 56, 48] (numT r) = pp := ⟨_, rfl⟩
  rw [hp1] at C1 HOUT S1
  have hw : (⟨#[51, 53, 61, 106, 1]⟩ : ByteArray).size = 5 := rfl
  rw [← HOUT.out]
  clear HOUT hp0 hp1
  have Jq0 := fun w => join_run (⟨#[51, 53, 61, 106, 1]⟩ : ByteArray) p0 (by omega) w
  have Zq0 : ((⟨#[51, 53, 61, 106, 1]⟩ : ByteArray) ++ p0).size = (⟨#[51, 53, 61, 106, 1]⟩ : ByteArray).size + p0.size := ByteArray.size_append
  obtain ⟨q0, hq0⟩ : ∃ q, (⟨#[51, 53, 61, 106, 1]⟩ : ByteArray) ++ p0 = q := ⟨_, rfl⟩
  rw [hq0] at Jq0 Zq0 ⊢
  have Jq1 := fun w => join_run q0 p1 (by omega) w
  have Zq1 : (q0 ++ p1).size = q0.size + p1.size := ByteArray.size_append
  obtain ⟨q1, hq1⟩ : ∃ q, q0 ++ p1 = q := ⟨_, rfl⟩
  rw [hq1] at Jq1 Zq1 ⊢
  clear hw hq0 Zq0 hq1 Zq1 S0 N0 S1 N1 zg zr
  obtain ⟨d0, d1, d2, d3, d4, d5, d6, d7, d8, d9⟩ := HT.out.letters
  go_enter Tryd.func20, Tryd.ntmps20
  go_wp2_with fail
  go_region_held3 (fun w' => w'.cell? ⟨w.heap.size, 0, none⟩ = some (.int .i64 4) ∧ w'.cell? ⟨w.heap.size, 1, none⟩ = some (.string i) ∧ w'.cell? ⟨w.heap.size, 2, none⟩ = some (.string x) ∧ w'.cell? ⟨w.heap.size, 3, none⟩ = some (.int .i64 s) ∧ w'.cell? ⟨w.heap.size, 4, none⟩ = some (.int .i64 l) ∧ w'.cell? ⟨w.heap.size, 5, none⟩ = some (.int .i64 p) ∧ w'.cell? ⟨w.heap.size, 6, none⟩ = some (.int .i64 c) ∧ w'.cell? ⟨w.heap.size, 7, none⟩ = some (.int .i64 e) ∧ w'.cell? ⟨w.heap.size, 8, none⟩ = some (.int .i64 g) ∧ w'.cell? ⟨w.heap.size, 9, none⟩ = some (.int .i64 r)) (go_keep) (first
    | (go_at_call_of 45 (Value.string ⟨#[51, 55, 49]⟩); refine (C0 _).mono ?_; rintro e' y0 ⟨rfl, b0⟩; have B0 := below_of_drew b0; have X0 : Hid (TellAt y0 w.heap.size (tt 4 i x s l p c e g r)) := HT.out.still B0; obtain ⟨u00, u01, u02, u03, u04, u05, u06, u07, u08, u09⟩ := X0.out.letters; have HB0' : Hid (Below w.heap.size w y0) := HB0.out.trans (B0.mono HB0.out.size))
    | (go_at_call_of 45 (Value.string ⟨#[51, 56, 48]⟩); refine (C1 _).mono ?_; rintro e' y1 ⟨rfl, b1⟩; have B1 := b1; have X1 : Hid (TellAt y1 w.heap.size (tt 4 i x s l p c e g r)) := X0.out.still B1; obtain ⟨u10, u11, u12, u13, u14, u15, u16, u17, u18, u19⟩ := X1.out.letters; have HB1' : Hid (Below w.heap.size w y1) := HB0'.out.trans (B1.mono HB0'.out.size)))
  all_goals
    go_wp2_with fail
    go_ret
    exact ⟨rfl, HB1'.out⟩
end Go.Proofs.YtdacmhnniecmhaaDoor
