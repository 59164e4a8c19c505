/-
  Contracts of the reference's Put and Number; fields that all have forms, joined.
-/
import Derived.Deep.RegionHeld3
import Derived.Deep.RegionWith
import Derived.Test.YtepkmbpadhfbmaaGreatDoorGB
import Derived.Test.YtepkmbpadhfbmaaGreatDoorGE
import Derived.Test.YtepkmbpadhfbmaaGreatDoorGR
namespace Go.Proofs.YtepkmbpadhfbmaaGreatDoor
open Go.ChangeShapes Go.WideShapes Go.ChangeAt Go.RowKit Go.Lib

/-- A field of digits and a value. -/
def putL (a : List UInt8) (v : ByteArray) : ByteArray := mk (a ++ 61 :: (v.data.toList ++ [1]))
theorem putL_glue (a : List UInt8) (v : ByteArray) : mk a ++ (⟨#[61]⟩ : ByteArray) ++ v ++ (⟨#[1]⟩ : ByteArray) = putL a v := by
  apply bytes_ext8
  simp [mk, putL]
theorem putL_size (a : List UInt8) (v : ByteArray) : (putL a v).size = a.length + v.size + 2 := by
  unfold putL
  rw [mk_size, size_eq]
  simp
  omega
theorem join_run (a b : ByteArray) (h : a.size + b.size ≤ 10000000) (w : World) : (Op.stringOp .add a b).run Tryz.prog w = .ok (.string (a ++ b)) w := by
  rw [run_string_add_sum]
  omega
set_option maxHeartbeats 2000000 in
theorem refPut_any (a : List UInt8) (v : ByteArray) (ha : a.length ≤ 10) (hv : v.size ≤ 100000) (w : World) :
    Calls Tryz.prog 50 #[.string (mk a), .string v] w fun e w' => e = .returned (.string (putL a v)) ∧ w' = w := by
  obtain ⟨D1, D2, j1, j2, j3⟩ := glue_runs (mk a) v (putL a v) (putL_glue a v) (by rw [mk_size]; omega) (by omega)
  generalize mk a = A at *
  generalize putL a v = X at *
  clear ha hv
  go_enter Tryz.func50, Tryz.ntmps50
  go_wp2_with fail
  go_ret
  exact ⟨rfl, rfl⟩
set_option maxHeartbeats 2000000 in
theorem numberP_any (a : List UInt8) (n : Int) (ha : a.length ≤ 10) (h0 : 0 ≤ n) (h2 : n ≤ 1099511627776) (w : World) :
    Calls Tryz.prog 51 #[.string (mk a), .int .i64 n] w fun e w' => e = .returned (.string (putL a (numT n))) ∧ Below w.heap.size w w' := by
  obtain ⟨m, rfl⟩ : ∃ m : Nat, n = (m : Int) := ⟨n.toNat, by omega⟩
  have DG := refDigits_all m (by omega) w
  have hz : (numT (m : Int)).size ≤ 100000 := by
    have := (numT_val (n := (m : Int)) (by omega)).2.1
    rw [size_eq]
    omega
  have PT := fun w => refPut_any a (numT (m : Int)) ha hz w
  rw [show mk (decDigits m) = numT (m : Int) from rfl] at DG
  generalize numT (m : Int) = X at *
  generalize mk a = A at *
  clear ha hz h2
  go_enter Tryz.func51, Tryz.ntmps51
  go_wp2_with fail
  refine DG.mono ?_
  rintro e w1 ⟨rfl, b1⟩
  go_wp2_with fail
  refine (PT _).mono ?_
  rintro e w2 ⟨rfl, rfl⟩
  go_wp2_with fail
  go_ret
  exact ⟨rfl, b1⟩
theorem num_small (n : Int) (h2 : n ≤ 1099511627776) : (numT n).size ≤ 600 := by
  have := (numT_val (n := n) (by omega)).2.1
  rw [size_eq]
  omega
/-- Fields that all have forms, joined. -/
def flat (L : List Fd) : List UInt8 := (L.map fun f => decDigits f.1.toNat ++ 61 :: (f.2.data.toList ++ [1])).flatten
theorem cat_flat : ∀ {L : List Fd}, AllOk L → cat L = flat L
  | [], _ => rfl
  | f :: r, h => by
    obtain ⟨h1, h2⟩ := AllOk.cons.1 h
    rw [cat, cat_flat h2]
    obtain ⟨_, _, _, h4⟩ := formE_ok (ok_form h1)
    rw [h4]
    rfl
end Go.Proofs.YtepkmbpadhfbmaaGreatDoor
/-
  The contract of the reference's Form of asks.
-/
namespace Go.Proofs.YtepkmbpadhfbmaaGreatDoor
open Go.ChangeShapes Go.WideShapes Go.ChangeAt Go.RowKit Go.Lib

theorem listT_snoc : ∀ (l : List Nat) (x : Nat), l ≠ [] → listT (l ++ [x]) = listT l ++ 44 :: decDigits x
  | [], _, h => absurd rfl h
  | [y], x, _ => by simp [listT]
  | y :: z :: r, x, _ => by
    rw [List.cons_append, List.cons_append, listT, listT, ← List.cons_append, listT_snoc (z :: r) x (by simp)]
    simp
theorem word_small (k : Int) : (wordT k).size ≤ 2 := by
  unfold wordT
  repeat' split
  all_goals decide
set_option maxRecDepth 1000000 in
set_option maxHeartbeats 16000000 in
theorem refForm_plain (k : Int) (i t c s : ByteArray) (sd q p al st en ra sh : Int) (a : Option Addr) (n cap : Nat) (w : World) (k1 : 1 ≤ k) (k5 : k ≤ 5) (n1 : k ≠ 1) (n3 : k ≠ 3) (h0 : al = 0) (zi : i.size ≤ 600) (zt : t.size ≤ 600) :
    Calls Tryz.prog 17 #[.agg #[.int .i64 k, .string i, .string t, .string c, .string s, .int .i64 sd, .int .i64 q, .int .i64 p, .int .i64 al, .int .i64 st, .int .i64 en, .int .i64 ra, .int .i64 sh, .slice a n cap]] w fun e' w' => e' = .returned (.string (mk ((([51, 53] ++ 61 :: ((wordT k).data.toList ++ [1])) ++ ([49, 49] ++ 61 :: ((i).data.toList ++ [1]))) ++ ([52, 49] ++ 61 :: ((t).data.toList ++ [1]))))) ∧ Below w.heap.size w w' := by
  have HB0 : Hid (Below w.heap.size w (boxR w k i t c s sd q p al st en ra sh (.slice a n cap))) := boxR_below w k i t c s sd q p al st en ra sh (.slice a n cap)
  have HT : Hid (AskAt (boxR w k i t c s sd q p al st en ra sh (.slice a n cap)) w.heap.size k i t c s sd q p al st en ra sh (.slice a n cap)) := AskAt.boxR w k i t c s sd q p al st en ra sh (.slice a n cap)
  have WD := fun w => refWord_any k k1 k5 w
  have hwd := word_small k
  have C0 : ∀ w, Calls Tryz.prog 50 #[.string ⟨#[51, 53]⟩, .string (wordT k)] w fun e' w' => e' = .returned (.string (putL [51, 53] (wordT k))) ∧ w = w' := fun w => (refPut_any [51, 53] (wordT k) (by decide) (by omega) w).mono fun e w' ⟨h1, h2⟩ => ⟨h1, h2.symm⟩
  have S0 := putL_size [51, 53] (wordT k)
  simp only [List.length_cons, List.length_nil] at S0
  have C1 : ∀ w, Calls Tryz.prog 50 #[.string ⟨#[49, 49]⟩, .string i] w fun e' w' => e' = .returned (.string (putL [49, 49] i)) ∧ w = w' := fun w => (refPut_any [49, 49] i (by decide) (by omega) w).mono fun e w' ⟨h1, h2⟩ => ⟨h1, h2.symm⟩
  have S1 := putL_size [49, 49] (i)
  simp only [List.length_cons, List.length_nil] at S1
  have C2 : ∀ w, Calls Tryz.prog 50 #[.string ⟨#[52, 49]⟩, .string t] w fun e' w' => e' = .returned (.string (putL [52, 49] t)) ∧ w = w' := fun w => (refPut_any [52, 49] t (by decide) (by omega) w).mono fun e w' ⟨h1, h2⟩ => ⟨h1, h2.symm⟩
  have S2 := putL_size [52, 49] (t)
  simp only [List.length_cons, List.length_nil] at S2
  have HOUT : Hid (((putL [51, 53] (wordT k) ++ putL [49, 49] i) ++ putL [52, 49] t) = mk ((([51, 53] ++ 61 :: ((wordT k).data.toList ++ [1])) ++ ([49, 49] ++ 61 :: ((i).data.toList ++ [1]))) ++ ([52, 49] ++ 61 :: ((t).data.toList ++ [1])))) := by
    show _ = _
    apply bytes_ext8
    simp [mk, putL]
  obtain ⟨p0, hp0⟩ : ∃ pp, putL [51, 53] (wordT k) = pp := ⟨_, rfl⟩
  rw [hp0] at C0 HOUT S0
  obtain ⟨p1, hp1⟩ : ∃ pp, putL [49, 49] i = pp := ⟨_, rfl⟩
  rw [hp1] at C1 HOUT S1
  obtain ⟨p2, hp2⟩ : ∃ pp, putL [52, 49] t = pp := ⟨_, rfl⟩
  rw [hp2] at C2 HOUT S2
  rw [← HOUT.out]
  clear HOUT hp0 hp1 hp2
  have Jq0 := fun w => join_run p0 p1 (by omega) w
  have Zq0 : (p0 ++ p1).size = p0.size + p1.size := ByteArray.size_append
  obtain ⟨q0, hq0⟩ : ∃ qq, p0 ++ p1 = qq := ⟨_, rfl⟩
  rw [hq0] at Jq0 Zq0 ⊢
  have Jq1 := fun w => join_run q0 p2 (by omega) w
  have Zq1 : (q0 ++ p2).size = q0.size + p2.size := ByteArray.size_append
  obtain ⟨q1, hq1⟩ : ∃ qq, q0 ++ p2 = qq := ⟨_, rfl⟩
  rw [hq1] at Jq1 Zq1 ⊢
  have gk1 : (k == 1) = false := beq_false_of_ne n1
  have gk3 : (k == 3) = false := beq_false_of_ne n3
  have ga2 : (al == 2) = false := beq_false_of_ne (by omega)
  have ga3 : (al == 3) = false := beq_false_of_ne (by omega)
  have ga4 : (al == 4) = false := beq_false_of_ne (by omega)
  clear n1 n3 h0
  clear hq0 Zq0 hq1 Zq1 S0 S1 S2 hwd k1 k5
  clear zi zt
  generalize wordT k = wd at *
  obtain ⟨d0, d1, d2, d3, d4, d5, d6, d7, d8, d9, d10, d11, d12, d13⟩ := HT.out
  go_enter Tryz.func17, Tryz.ntmps17
  go_wp2_with fail
  go_region_held3 (fun w' => w'.cell? ⟨w.heap.size, 0, none⟩ = some (.int .i64 k) ∧ w'.cell? ⟨w.heap.size, 1, none⟩ = some (.string i) ∧ w'.cell? ⟨w.heap.size, 2, none⟩ = some (.string t) ∧ w'.cell? ⟨w.heap.size, 3, none⟩ = some (.string c) ∧ w'.cell? ⟨w.heap.size, 4, none⟩ = some (.string s) ∧ w'.cell? ⟨w.heap.size, 5, none⟩ = some (.int .i64 sd) ∧ w'.cell? ⟨w.heap.size, 6, none⟩ = some (.int .i64 q) ∧ w'.cell? ⟨w.heap.size, 7, none⟩ = some (.int .i64 p) ∧ w'.cell? ⟨w.heap.size, 8, none⟩ = some (.int .i64 al) ∧ w'.cell? ⟨w.heap.size, 9, none⟩ = some (.int .i64 st) ∧ w'.cell? ⟨w.heap.size, 10, none⟩ = some (.int .i64 en) ∧ w'.cell? ⟨w.heap.size, 11, none⟩ = some (.int .i64 ra) ∧ w'.cell? ⟨w.heap.size, 12, none⟩ = some (.int .i64 sh) ∧ w'.cell? ⟨w.heap.size, 13, none⟩ = some (.slice a n cap)) (go_keep) (first
    | (go_at_call 38; refine (WD _).mono ?_; rintro e' yw ⟨rfl, bw⟩; have Bw := below_of_drew bw; have Xw : Hid (AskAt yw w.heap.size k i t c s sd q p al st en ra sh (.slice a n cap)) := HT.out.still Bw HT.out.lt; obtain ⟨uw_0, uw_1, uw_2, uw_3, uw_4, uw_5, uw_6, uw_7, uw_8, uw_9, uw_10, uw_11, uw_12, uw_13⟩ := Xw.out; have HBw' : Hid (Below w.heap.size w yw) := HB0.out.trans (Bw.mono HB0.out.size))
    | (go_at_call_of 50 (Value.string ⟨#[51, 53]⟩); refine (C0 _).mono ?_; rintro e' y0 ⟨rfl, rfl⟩)
    | (go_at_call_of 50 (Value.string ⟨#[49, 49]⟩); refine (C1 _).mono ?_; rintro e' y1 ⟨rfl, rfl⟩))
  go_wp2_with fail
  refine (C2 _).mono ?_
  rintro e' y2 ⟨rfl, rfl⟩
  go_wp2_with fail
  go_ret
  exact ⟨rfl, HBw'.out⟩
set_option maxRecDepth 1000000 in
set_option maxHeartbeats 16000000 in
theorem refForm_amend (k : Int) (i t c s : ByteArray) (sd q p al st en ra sh : Int) (a : Option Addr) (n cap : Nat) (w : World) (k1 : 1 ≤ k) (k5 : k ≤ 5) (e3 : k = 3) (h0 : al = 0) (zi : i.size ≤ 600) (zt : t.size ≤ 600) (zq : 0 ≤ q ∧ q ≤ 1099511627776) (zp : 0 ≤ p ∧ p ≤ 1099511627776) (zen : 0 ≤ en ∧ en ≤ 1099511627776) :
    Calls Tryz.prog 17 #[.agg #[.int .i64 k, .string i, .string t, .string c, .string s, .int .i64 sd, .int .i64 q, .int .i64 p, .int .i64 al, .int .i64 st, .int .i64 en, .int .i64 ra, .int .i64 sh, .slice a n cap]] w fun e' w' => e' = .returned (.string (mk ((((([51, 53] ++ 61 :: ((wordT k).data.toList ++ [1])) ++ ([49, 49] ++ 61 :: ((i).data.toList ++ [1]))) ++ ([52, 49] ++ 61 :: ((t).data.toList ++ [1]))) ++ (([51, 56] ++ 61 :: ((numT q).data.toList ++ [1])) ++ ([52, 52] ++ 61 :: ((numT p).data.toList ++ [1])))) ++ ([53, 48, 48, 51] ++ 61 :: ((numT en).data.toList ++ [1]))))) ∧ Below w.heap.size w w' := by
  have HB0 : Hid (Below w.heap.size w (boxR w k i t c s sd q p al st en ra sh (.slice a n cap))) := boxR_below w k i t c s sd q p al st en ra sh (.slice a n cap)
  have HT : Hid (AskAt (boxR w k i t c s sd q p al st en ra sh (.slice a n cap)) w.heap.size k i t c s sd q p al st en ra sh (.slice a n cap)) := AskAt.boxR w k i t c s sd q p al st en ra sh (.slice a n cap)
  have WD := fun w => refWord_any k k1 k5 w
  have hwd := word_small k
  have C0 : ∀ w, Calls Tryz.prog 50 #[.string ⟨#[51, 53]⟩, .string (wordT k)] w fun e' w' => e' = .returned (.string (putL [51, 53] (wordT k))) ∧ w = w' := fun w => (refPut_any [51, 53] (wordT k) (by decide) (by omega) w).mono fun e w' ⟨h1, h2⟩ => ⟨h1, h2.symm⟩
  have S0 := putL_size [51, 53] (wordT k)
  simp only [List.length_cons, List.length_nil] at S0
  have C1 : ∀ w, Calls Tryz.prog 50 #[.string ⟨#[49, 49]⟩, .string i] w fun e' w' => e' = .returned (.string (putL [49, 49] i)) ∧ w = w' := fun w => (refPut_any [49, 49] i (by decide) (by omega) w).mono fun e w' ⟨h1, h2⟩ => ⟨h1, h2.symm⟩
  have S1 := putL_size [49, 49] (i)
  simp only [List.length_cons, List.length_nil] at S1
  have C2 : ∀ w, Calls Tryz.prog 50 #[.string ⟨#[52, 49]⟩, .string t] w fun e' w' => e' = .returned (.string (putL [52, 49] t)) ∧ w = w' := fun w => (refPut_any [52, 49] t (by decide) (by omega) w).mono fun e w' ⟨h1, h2⟩ => ⟨h1, h2.symm⟩
  have S2 := putL_size [52, 49] (t)
  simp only [List.length_cons, List.length_nil] at S2
  have C3 : ∀ w, Calls Tryz.prog 51 #[.string ⟨#[51, 56]⟩, .int .i64 q] w fun e' w' => e' = .returned (.string (putL [51, 56] (numT q))) ∧ Below w.heap.size w w' := fun w => numberP_any [51, 56] q (by decide) zq.1 zq.2 w
  have S3 := putL_size [51, 56] (numT q)
  have N3 := num_small q zq.2
  simp only [List.length_cons, List.length_nil] at S3
  have C4 : ∀ w, Calls Tryz.prog 51 #[.string ⟨#[52, 52]⟩, .int .i64 p] w fun e' w' => e' = .returned (.string (putL [52, 52] (numT p))) ∧ Below w.heap.size w w' := fun w => numberP_any [52, 52] p (by decide) zp.1 zp.2 w
  have S4 := putL_size [52, 52] (numT p)
  have N4 := num_small p zp.2
  simp only [List.length_cons, List.length_nil] at S4
  have C5 : ∀ w, Calls Tryz.prog 51 #[.string ⟨#[53, 48, 48, 51]⟩, .int .i64 en] w fun e' w' => e' = .returned (.string (putL [53, 48, 48, 51] (numT en))) ∧ Below w.heap.size w w' := fun w => numberP_any [53, 48, 48, 51] en (by decide) zen.1 zen.2 w
  have S5 := putL_size [53, 48, 48, 51] (numT en)
  have N5 := num_small en zen.2
  simp only [List.length_cons, List.length_nil] at S5
  have HOUT : Hid (((((putL [51, 53] (wordT k) ++ putL [49, 49] i) ++ putL [52, 49] t) ++ (putL [51, 56] (numT q) ++ putL [52, 52] (numT p))) ++ putL [53, 48, 48, 51] (numT en)) = mk ((((([51, 53] ++ 61 :: ((wordT k).data.toList ++ [1])) ++ ([49, 49] ++ 61 :: ((i).data.toList ++ [1]))) ++ ([52, 49] ++ 61 :: ((t).data.toList ++ [1]))) ++ (([51, 56] ++ 61 :: ((numT q).data.toList ++ [1])) ++ ([52, 52] ++ 61 :: ((numT p).data.toList ++ [1])))) ++ ([53, 48, 48, 51] ++ 61 :: ((numT en).data.toList ++ [1])))) := by
    show _ = _
    apply bytes_ext8
    simp [mk, putL]
  obtain ⟨p0, hp0⟩ : ∃ pp, putL [51, 53] (wordT k) = pp := ⟨_, rfl⟩
  rw [hp0] at C0 HOUT S0
  obtain ⟨p1, hp1⟩ : ∃ pp, putL [49, 49] i = pp := ⟨_, rfl⟩
  rw [hp1] at C1 HOUT S1
  obtain ⟨p2, hp2⟩ : ∃ pp, putL [52, 49] t = pp := ⟨_, rfl⟩
  rw [hp2] at C2 HOUT S2
  obtain ⟨p3, hp3⟩ : ∃ pp, putL [51, 56] (numT q) = pp := ⟨_, rfl⟩
  rw [hp3] at C3 HOUT S3
  obtain ⟨p4, hp4⟩ : ∃ pp, putL [52, 52] (numT p) = pp := ⟨_, rfl⟩
  rw [hp4] at C4 HOUT S4
  obtain ⟨p5, hp5⟩ : ∃ pp, putL [53, 48, 48, 51] (numT en) = pp := ⟨_, rfl⟩
  rw [hp5] at C5 HOUT S5
  rw [← HOUT.out]
  clear HOUT hp0 hp1 hp2 hp3 hp4 hp5
  have Jq0 := fun w => join_run p0 p1 (by omega) w
  have Zq0 : (p0 ++ p1).size = p0.size + p1.size := ByteArray.size_append
  obtain ⟨q0, hq0⟩ : ∃ qq, p0 ++ p1 = qq := ⟨_, rfl⟩
  rw [hq0] at Jq0 Zq0 ⊢
  have Jq1 := fun w => join_run q0 p2 (by omega) w
  have Zq1 : (q0 ++ p2).size = q0.size + p2.size := ByteArray.size_append
  obtain ⟨q1, hq1⟩ : ∃ qq, q0 ++ p2 = qq := ⟨_, rfl⟩
  rw [hq1] at Jq1 Zq1 ⊢
  have Jq2 := fun w => join_run p3 p4 (by omega) w
  have Zq2 : (p3 ++ p4).size = p3.size + p4.size := ByteArray.size_append
  obtain ⟨q2, hq2⟩ : ∃ qq, p3 ++ p4 = qq := ⟨_, rfl⟩
  rw [hq2] at Jq2 Zq2 ⊢
  have Jq3 := fun w => join_run q1 q2 (by omega) w
  have Zq3 : (q1 ++ q2).size = q1.size + q2.size := ByteArray.size_append
  obtain ⟨q3, hq3⟩ : ∃ qq, q1 ++ q2 = qq := ⟨_, rfl⟩
  rw [hq3] at Jq3 Zq3 ⊢
  have Jq4 := fun w => join_run q3 p5 (by omega) w
  have Zq4 : (q3 ++ p5).size = q3.size + p5.size := ByteArray.size_append
  obtain ⟨q4, hq4⟩ : ∃ qq, q3 ++ p5 = qq := ⟨_, rfl⟩
  rw [hq4] at Jq4 Zq4 ⊢
  have gk1 : (k == 1) = false := beq_false_of_ne (by omega)
  have gk3 : (k == 3) = true := beq_iff_eq.2 e3
  have ga2 : (al == 2) = false := beq_false_of_ne (by omega)
  have ga3 : (al == 3) = false := beq_false_of_ne (by omega)
  have ga4 : (al == 4) = false := beq_false_of_ne (by omega)
  clear e3 h0
  clear hq0 Zq0 hq1 Zq1 hq2 Zq2 hq3 Zq3 hq4 Zq4 S0 S1 S2 S3 N3 S4 N4 S5 N5 hwd k1 k5
  clear zi zt zq zp zen
  generalize wordT k = wd at *
  obtain ⟨d0, d1, d2, d3, d4, d5, d6, d7, d8, d9, d10, d11, d12, d13⟩ := HT.out
  go_enter Tryz.func17, Tryz.ntmps17
  go_wp2_with fail
  go_region_held3 (fun w' => w'.cell? ⟨w.heap.size, 0, none⟩ = some (.int .i64 k) ∧ w'.cell? ⟨w.heap.size, 1, none⟩ = some (.string i) ∧ w'.cell? ⟨w.heap.size, 2, none⟩ = some (.string t) ∧ w'.cell? ⟨w.heap.size, 3, none⟩ = some (.string c) ∧ w'.cell? ⟨w.heap.size, 4, none⟩ = some (.string s) ∧ w'.cell? ⟨w.heap.size, 5, none⟩ = some (.int .i64 sd) ∧ w'.cell? ⟨w.heap.size, 6, none⟩ = some (.int .i64 q) ∧ w'.cell? ⟨w.heap.size, 7, none⟩ = some (.int .i64 p) ∧ w'.cell? ⟨w.heap.size, 8, none⟩ = some (.int .i64 al) ∧ w'.cell? ⟨w.heap.size, 9, none⟩ = some (.int .i64 st) ∧ w'.cell? ⟨w.heap.size, 10, none⟩ = some (.int .i64 en) ∧ w'.cell? ⟨w.heap.size, 11, none⟩ = some (.int .i64 ra) ∧ w'.cell? ⟨w.heap.size, 12, none⟩ = some (.int .i64 sh) ∧ w'.cell? ⟨w.heap.size, 13, none⟩ = some (.slice a n cap)) (go_keep) (first
    | (go_at_call 38; refine (WD _).mono ?_; rintro e' yw ⟨rfl, bw⟩; have Bw := below_of_drew bw; have Xw : Hid (AskAt yw w.heap.size k i t c s sd q p al st en ra sh (.slice a n cap)) := HT.out.still Bw HT.out.lt; obtain ⟨uw_0, uw_1, uw_2, uw_3, uw_4, uw_5, uw_6, uw_7, uw_8, uw_9, uw_10, uw_11, uw_12, uw_13⟩ := Xw.out; have HBw' : Hid (Below w.heap.size w yw) := HB0.out.trans (Bw.mono HB0.out.size))
    | (go_at_call_of 50 (Value.string ⟨#[51, 53]⟩); refine (C0 _).mono ?_; rintro e' y0 ⟨rfl, rfl⟩)
    | (go_at_call_of 50 (Value.string ⟨#[49, 49]⟩); refine (C1 _).mono ?_; rintro e' y1 ⟨rfl, rfl⟩))
  go_wp2_with fail
  refine (C2 _).mono ?_
  rintro e' y2 ⟨rfl, rfl⟩
  go_wp2_with fail
  go_region_held3 (fun w' => w'.cell? ⟨w.heap.size, 0, none⟩ = some (.int .i64 k) ∧ w'.cell? ⟨w.heap.size, 1, none⟩ = some (.string i) ∧ w'.cell? ⟨w.heap.size, 2, none⟩ = some (.string t) ∧ w'.cell? ⟨w.heap.size, 3, none⟩ = some (.string c) ∧ w'.cell? ⟨w.heap.size, 4, none⟩ = some (.string s) ∧ w'.cell? ⟨w.heap.size, 5, none⟩ = some (.int .i64 sd) ∧ w'.cell? ⟨w.heap.size, 6, none⟩ = some (.int .i64 q) ∧ w'.cell? ⟨w.heap.size, 7, none⟩ = some (.int .i64 p) ∧ w'.cell? ⟨w.heap.size, 8, none⟩ = some (.int .i64 al) ∧ w'.cell? ⟨w.heap.size, 9, none⟩ = some (.int .i64 st) ∧ w'.cell? ⟨w.heap.size, 10, none⟩ = some (.int .i64 en) ∧ w'.cell? ⟨w.heap.size, 11, none⟩ = some (.int .i64 ra) ∧ w'.cell? ⟨w.heap.size, 12, none⟩ = some (.int .i64 sh) ∧ w'.cell? ⟨w.heap.size, 13, none⟩ = some (.slice a n cap)) (go_keep) (first
    | (go_at_call_of 51 (Value.string ⟨#[51, 56]⟩); refine (C3 _).mono ?_; rintro e' y3 ⟨rfl, b3⟩; have B3 := below_of_drew b3; have X3 : Hid (AskAt y3 w.heap.size k i t c s sd q p al st en ra sh (.slice a n cap)) := Xw.out.still B3 Xw.out.lt; obtain ⟨u3_0, u3_1, u3_2, u3_3, u3_4, u3_5, u3_6, u3_7, u3_8, u3_9, u3_10, u3_11, u3_12, u3_13⟩ := X3.out; have HB3' : Hid (Below w.heap.size w y3) := HBw'.out.trans (B3.mono HBw'.out.size))
    | (go_at_call_of 51 (Value.string ⟨#[52, 52]⟩); refine (C4 _).mono ?_; rintro e' y4 ⟨rfl, b4⟩; have B4 := b4; have X4 : Hid (AskAt y4 w.heap.size k i t c s sd q p al st en ra sh (.slice a n cap)) := X3.out.still B4 X3.out.lt; obtain ⟨u4_0, u4_1, u4_2, u4_3, u4_4, u4_5, u4_6, u4_7, u4_8, u4_9, u4_10, u4_11, u4_12, u4_13⟩ := X4.out; have HB4' : Hid (Below w.heap.size w y4) := HB3'.out.trans (B4.mono HB3'.out.size)))
  go_wp2_with fail
  refine (C5 _).mono ?_
  rintro e' y5 ⟨rfl, b5⟩
  have B5 := b5
  have X5 : Hid (AskAt y5 w.heap.size k i t c s sd q p al st en ra sh (.slice a n cap)) := X4.out.still B5 X4.out.lt
  obtain ⟨u5_0, u5_1, u5_2, u5_3, u5_4, u5_5, u5_6, u5_7, u5_8, u5_9, u5_10, u5_11, u5_12, u5_13⟩ := X5.out
  have HB5' : Hid (Below w.heap.size w y5) := HB4'.out.trans (B5.mono HB4'.out.size)
  go_wp2_with fail
  go_ret
  exact ⟨rfl, HB5'.out⟩
set_option maxRecDepth 1000000 in
set_option maxHeartbeats 16000000 in
theorem refForm_new1 (k : Int) (i t c s : ByteArray) (sd q p al st en ra sh : Int) (a : Option Addr) (n cap : Nat) (w : World) (k1 : 1 ≤ k) (k5 : k ≤ 5) (e1 : k = 1) (h0 : al = 1) (zi : i.size ≤ 600) (zc : c.size ≤ 600) (zs : s.size ≤ 600) (zsd : 0 ≤ sd ∧ sd ≤ 1099511627776) (zq : 0 ≤ q ∧ q ≤ 1099511627776) (zp : 0 ≤ p ∧ p ≤ 1099511627776) (zal : 0 ≤ al ∧ al ≤ 1099511627776) (zst : 0 ≤ st ∧ st ≤ 1099511627776) (zen : 0 ≤ en ∧ en ≤ 1099511627776) :
    Calls Tryz.prog 17 #[.agg #[.int .i64 k, .string i, .string t, .string c, .string s, .int .i64 sd, .int .i64 q, .int .i64 p, .int .i64 al, .int .i64 st, .int .i64 en, .int .i64 ra, .int .i64 sh, .slice a n cap]] w fun e' w' => e' = .returned (.string (mk (((((([51, 53] ++ 61 :: ((wordT k).data.toList ++ [1])) ++ ([49, 49] ++ 61 :: ((i).data.toList ++ [1]))) ++ ((([49] ++ 61 :: ((c).data.toList ++ [1])) ++ ([53, 53] ++ 61 :: ((s).data.toList ++ [1]))) ++ ([53, 52] ++ 61 :: ((numT sd).data.toList ++ [1])))) ++ (([51, 56] ++ 61 :: ((numT q).data.toList ++ [1])) ++ ([52, 52] ++ 61 :: ((numT p).data.toList ++ [1])))) ++ (([53, 48, 48, 49] ++ 61 :: ((numT al).data.toList ++ [1])) ++ ([53, 48, 48, 50] ++ 61 :: ((numT st).data.toList ++ [1])))) ++ ([53, 48, 48, 51] ++ 61 :: ((numT en).data.toList ++ [1]))))) ∧ Below w.heap.size w w' := by
  have HB0 : Hid (Below w.heap.size w (boxR w k i t c s sd q p al st en ra sh (.slice a n cap))) := boxR_below w k i t c s sd q p al st en ra sh (.slice a n cap)
  have HT : Hid (AskAt (boxR w k i t c s sd q p al st en ra sh (.slice a n cap)) w.heap.size k i t c s sd q p al st en ra sh (.slice a n cap)) := AskAt.boxR w k i t c s sd q p al st en ra sh (.slice a n cap)
  have WD := fun w => refWord_any k k1 k5 w
  have hwd := word_small k
  have C0 : ∀ w, Calls Tryz.prog 50 #[.string ⟨#[51, 53]⟩, .string (wordT k)] w fun e' w' => e' = .returned (.string (putL [51, 53] (wordT k))) ∧ w = w' := fun w => (refPut_any [51, 53] (wordT k) (by decide) (by omega) w).mono fun e w' ⟨h1, h2⟩ => ⟨h1, h2.symm⟩
  have S0 := putL_size [51, 53] (wordT k)
  simp only [List.length_cons, List.length_nil] at S0
  have C1 : ∀ w, Calls Tryz.prog 50 #[.string ⟨#[49, 49]⟩, .string i] w fun e' w' => e' = .returned (.string (putL [49, 49] i)) ∧ w = w' := fun w => (refPut_any [49, 49] i (by decide) (by omega) w).mono fun e w' ⟨h1, h2⟩ => ⟨h1, h2.symm⟩
  have S1 := putL_size [49, 49] (i)
  simp only [List.length_cons, List.length_nil] at S1
  have C2 : ∀ w, Calls Tryz.prog 50 #[.string ⟨#[49]⟩, .string c] w fun e' w' => e' = .returned (.string (putL [49] c)) ∧ w = w' := fun w => (refPut_any [49] c (by decide) (by omega) w).mono fun e w' ⟨h1, h2⟩ => ⟨h1, h2.symm⟩
  have S2 := putL_size [49] (c)
  simp only [List.length_cons, List.length_nil] at S2
  have C3 : ∀ w, Calls Tryz.prog 50 #[.string ⟨#[53, 53]⟩, .string s] w fun e' w' => e' = .returned (.string (putL [53, 53] s)) ∧ w = w' := fun w => (refPut_any [53, 53] s (by decide) (by omega) w).mono fun e w' ⟨h1, h2⟩ => ⟨h1, h2.symm⟩
  have S3 := putL_size [53, 53] (s)
  simp only [List.length_cons, List.length_nil] at S3
  have C4 : ∀ w, Calls Tryz.prog 51 #[.string ⟨#[53, 52]⟩, .int .i64 sd] w fun e' w' => e' = .returned (.string (putL [53, 52] (numT sd))) ∧ Below w.heap.size w w' := fun w => numberP_any [53, 52] sd (by decide) zsd.1 zsd.2 w
  have S4 := putL_size [53, 52] (numT sd)
  have N4 := num_small sd zsd.2
  simp only [List.length_cons, List.length_nil] at S4
  have C5 : ∀ w, Calls Tryz.prog 51 #[.string ⟨#[51, 56]⟩, .int .i64 q] w fun e' w' => e' = .returned (.string (putL [51, 56] (numT q))) ∧ Below w.heap.size w w' := fun w => numberP_any [51, 56] q (by decide) zq.1 zq.2 w
  have S5 := putL_size [51, 56] (numT q)
  have N5 := num_small q zq.2
  simp only [List.length_cons, List.length_nil] at S5
  have C6 : ∀ w, Calls Tryz.prog 51 #[.string ⟨#[52, 52]⟩, .int .i64 p] w fun e' w' => e' = .returned (.string (putL [52, 52] (numT p))) ∧ Below w.heap.size w w' := fun w => numberP_any [52, 52] p (by decide) zp.1 zp.2 w
  have S6 := putL_size [52, 52] (numT p)
  have N6 := num_small p zp.2
  simp only [List.length_cons, List.length_nil] at S6
  have C7 : ∀ w, Calls Tryz.prog 51 #[.string ⟨#[53, 48, 48, 49]⟩, .int .i64 al] w fun e' w' => e' = .returned (.string (putL [53, 48, 48, 49] (numT al))) ∧ Below w.heap.size w w' := fun w => numberP_any [53, 48, 48, 49] al (by decide) zal.1 zal.2 w
  have S7 := putL_size [53, 48, 48, 49] (numT al)
  have N7 := num_small al zal.2
  simp only [List.length_cons, List.length_nil] at S7
  have C8 : ∀ w, Calls Tryz.prog 51 #[.string ⟨#[53, 48, 48, 50]⟩, .int .i64 st] w fun e' w' => e' = .returned (.string (putL [53, 48, 48, 50] (numT st))) ∧ Below w.heap.size w w' := fun w => numberP_any [53, 48, 48, 50] st (by decide) zst.1 zst.2 w
  have S8 := putL_size [53, 48, 48, 50] (numT st)
  have N8 := num_small st zst.2
  simp only [List.length_cons, List.length_nil] at S8
  have C9 : ∀ w, Calls Tryz.prog 51 #[.string ⟨#[53, 48, 48, 51]⟩, .int .i64 en] w fun e' w' => e' = .returned (.string (putL [53, 48, 48, 51] (numT en))) ∧ Below w.heap.size w w' := fun w => numberP_any [53, 48, 48, 51] en (by decide) zen.1 zen.2 w
  have S9 := putL_size [53, 48, 48, 51] (numT en)
  have N9 := num_small en zen.2
  simp only [List.length_cons, List.length_nil] at S9
  have HOUT : Hid ((((((putL [51, 53] (wordT k) ++ putL [49, 49] i) ++ ((putL [49] c ++ putL [53, 53] s) ++ putL [53, 52] (numT sd))) ++ (putL [51, 56] (numT q) ++ putL [52, 52] (numT p))) ++ (putL [53, 48, 48, 49] (numT al) ++ putL [53, 48, 48, 50] (numT st))) ++ putL [53, 48, 48, 51] (numT en)) = mk (((((([51, 53] ++ 61 :: ((wordT k).data.toList ++ [1])) ++ ([49, 49] ++ 61 :: ((i).data.toList ++ [1]))) ++ ((([49] ++ 61 :: ((c).data.toList ++ [1])) ++ ([53, 53] ++ 61 :: ((s).data.toList ++ [1]))) ++ ([53, 52] ++ 61 :: ((numT sd).data.toList ++ [1])))) ++ (([51, 56] ++ 61 :: ((numT q).data.toList ++ [1])) ++ ([52, 52] ++ 61 :: ((numT p).data.toList ++ [1])))) ++ (([53, 48, 48, 49] ++ 61 :: ((numT al).data.toList ++ [1])) ++ ([53, 48, 48, 50] ++ 61 :: ((numT st).data.toList ++ [1])))) ++ ([53, 48, 48, 51] ++ 61 :: ((numT en).data.toList ++ [1])))) := by
    show _ = _
    apply bytes_ext8
    simp [mk, putL]
  obtain ⟨p0, hp0⟩ : ∃ pp, putL [51, 53] (wordT k) = pp := ⟨_, rfl⟩
  rw [hp0] at C0 HOUT S0
  obtain ⟨p1, hp1⟩ : ∃ pp, putL [49, 49] i = pp := ⟨_, rfl⟩
  rw [hp1] at C1 HOUT S1
  obtain ⟨p2, hp2⟩ : ∃ pp, putL [49] c = pp := ⟨_, rfl⟩
  rw [hp2] at C2 HOUT S2
  obtain ⟨p3, hp3⟩ : ∃ pp, putL [53, 53] s = pp := ⟨_, rfl⟩
  rw [hp3] at C3 HOUT S3
  obtain ⟨p4, hp4⟩ : ∃ pp, putL [53, 52] (numT sd) = pp := ⟨_, rfl⟩
  rw [hp4] at C4 HOUT S4
  obtain ⟨p5, hp5⟩ : ∃ pp, putL [51, 56] (numT q) = pp := ⟨_, rfl⟩
  rw [hp5] at C5 HOUT S5
  obtain ⟨p6, hp6⟩ : ∃ pp, putL [52, 52] (numT p) = pp := ⟨_, rfl⟩
  rw [hp6] at C6 HOUT S6
  obtain ⟨p7, hp7⟩ : ∃ pp, putL [53, 48, 48, 49] (numT al) = pp := ⟨_, rfl⟩
  rw [hp7] at C7 HOUT S7
  obtain ⟨p8, hp8⟩ : ∃ pp, putL [53, 48, 48, 50] (numT st) = pp := ⟨_, rfl⟩
  rw [hp8] at C8 HOUT S8
  obtain ⟨p9, hp9⟩ : ∃ pp, putL [53, 48, 48, 51] (numT en) = pp := ⟨_, rfl⟩
  rw [hp9] at C9 HOUT S9
  rw [← HOUT.out]
  clear HOUT hp0 hp1 hp2 hp3 hp4 hp5 hp6 hp7 hp8 hp9
  have Jq0 := fun w => join_run p0 p1 (by omega) w
  have Zq0 : (p0 ++ p1).size = p0.size + p1.size := ByteArray.size_append
  obtain ⟨q0, hq0⟩ : ∃ qq, p0 ++ p1 = qq := ⟨_, rfl⟩
  rw [hq0] at Jq0 Zq0 ⊢
  have Jq1 := fun w => join_run p2 p3 (by omega) w
  have Zq1 : (p2 ++ p3).size = p2.size + p3.size := ByteArray.size_append
  obtain ⟨q1, hq1⟩ : ∃ qq, p2 ++ p3 = qq := ⟨_, rfl⟩
  rw [hq1] at Jq1 Zq1 ⊢
  have Jq2 := fun w => join_run q1 p4 (by omega) w
  have Zq2 : (q1 ++ p4).size = q1.size + p4.size := ByteArray.size_append
  obtain ⟨q2, hq2⟩ : ∃ qq, q1 ++ p4 = qq := ⟨_, rfl⟩
  rw [hq2] at Jq2 Zq2 ⊢
  have Jq3 := fun w => join_run q0 q2 (by omega) w
  have Zq3 : (q0 ++ q2).size = q0.size + q2.size := ByteArray.size_append
  obtain ⟨q3, hq3⟩ : ∃ qq, q0 ++ q2 = qq := ⟨_, rfl⟩
  rw [hq3] at Jq3 Zq3 ⊢
  have Jq4 := fun w => join_run p5 p6 (by omega) w
  have Zq4 : (p5 ++ p6).size = p5.size + p6.size := ByteArray.size_append
  obtain ⟨q4, hq4⟩ : ∃ qq, p5 ++ p6 = qq := ⟨_, rfl⟩
  rw [hq4] at Jq4 Zq4 ⊢
  have Jq5 := fun w => join_run q3 q4 (by omega) w
  have Zq5 : (q3 ++ q4).size = q3.size + q4.size := ByteArray.size_append
  obtain ⟨q5, hq5⟩ : ∃ qq, q3 ++ q4 = qq := ⟨_, rfl⟩
  rw [hq5] at Jq5 Zq5 ⊢
  have Jq6 := fun w => join_run p7 p8 (by omega) w
  have Zq6 : (p7 ++ p8).size = p7.size + p8.size := ByteArray.size_append
  obtain ⟨q6, hq6⟩ : ∃ qq, p7 ++ p8 = qq := ⟨_, rfl⟩
  rw [hq6] at Jq6 Zq6 ⊢
  have Jq7 := fun w => join_run q5 q6 (by omega) w
  have Zq7 : (q5 ++ q6).size = q5.size + q6.size := ByteArray.size_append
  obtain ⟨q7, hq7⟩ : ∃ qq, q5 ++ q6 = qq := ⟨_, rfl⟩
  rw [hq7] at Jq7 Zq7 ⊢
  have Jq8 := fun w => join_run q7 p9 (by omega) w
  have Zq8 : (q7 ++ p9).size = q7.size + p9.size := ByteArray.size_append
  obtain ⟨q8, hq8⟩ : ∃ qq, q7 ++ p9 = qq := ⟨_, rfl⟩
  rw [hq8] at Jq8 Zq8 ⊢
  have gk1 : (k == 1) = true := beq_iff_eq.2 e1
  have gk3 : (k == 3) = false := beq_false_of_ne (by omega)
  have ga2 : (al == 2) = false := beq_false_of_ne (by omega)
  have ga3 : (al == 3) = false := beq_false_of_ne (by omega)
  have ga4 : (al == 4) = false := beq_false_of_ne (by omega)
  clear e1 h0
  clear hq0 Zq0 hq1 Zq1 hq2 Zq2 hq3 Zq3 hq4 Zq4 hq5 Zq5 hq6 Zq6 hq7 Zq7 hq8 Zq8 S0 S1 S2 S3 S4 N4 S5 N5 S6 N6 S7 N7 S8 N8 S9 N9 hwd k1 k5
  clear zi zc zs zsd zq zp zal zst zen
  generalize wordT k = wd at *
  obtain ⟨d0, d1, d2, d3, d4, d5, d6, d7, d8, d9, d10, d11, d12, d13⟩ := HT.out
  go_enter Tryz.func17, Tryz.ntmps17
  go_wp2_with fail
  go_region_held3 (fun w' => w'.cell? ⟨w.heap.size, 0, none⟩ = some (.int .i64 k) ∧ w'.cell? ⟨w.heap.size, 1, none⟩ = some (.string i) ∧ w'.cell? ⟨w.heap.size, 2, none⟩ = some (.string t) ∧ w'.cell? ⟨w.heap.size, 3, none⟩ = some (.string c) ∧ w'.cell? ⟨w.heap.size, 4, none⟩ = some (.string s) ∧ w'.cell? ⟨w.heap.size, 5, none⟩ = some (.int .i64 sd) ∧ w'.cell? ⟨w.heap.size, 6, none⟩ = some (.int .i64 q) ∧ w'.cell? ⟨w.heap.size, 7, none⟩ = some (.int .i64 p) ∧ w'.cell? ⟨w.heap.size, 8, none⟩ = some (.int .i64 al) ∧ w'.cell? ⟨w.heap.size, 9, none⟩ = some (.int .i64 st) ∧ w'.cell? ⟨w.heap.size, 10, none⟩ = some (.int .i64 en) ∧ w'.cell? ⟨w.heap.size, 11, none⟩ = some (.int .i64 ra) ∧ w'.cell? ⟨w.heap.size, 12, none⟩ = some (.int .i64 sh) ∧ w'.cell? ⟨w.heap.size, 13, none⟩ = some (.slice a n cap)) (go_keep) (first
    | (go_at_call 38; refine (WD _).mono ?_; rintro e' yw ⟨rfl, bw⟩; have Bw := below_of_drew bw; have Xw : Hid (AskAt yw w.heap.size k i t c s sd q p al st en ra sh (.slice a n cap)) := HT.out.still Bw HT.out.lt; obtain ⟨uw_0, uw_1, uw_2, uw_3, uw_4, uw_5, uw_6, uw_7, uw_8, uw_9, uw_10, uw_11, uw_12, uw_13⟩ := Xw.out; have HBw' : Hid (Below w.heap.size w yw) := HB0.out.trans (Bw.mono HB0.out.size))
    | (go_at_call_of 50 (Value.string ⟨#[51, 53]⟩); refine (C0 _).mono ?_; rintro e' y0 ⟨rfl, rfl⟩)
    | (go_at_call_of 50 (Value.string ⟨#[49, 49]⟩); refine (C1 _).mono ?_; rintro e' y1 ⟨rfl, rfl⟩))
  go_wp2_with fail
  go_region_held3 (fun w' => w'.cell? ⟨w.heap.size, 0, none⟩ = some (.int .i64 k) ∧ w'.cell? ⟨w.heap.size, 1, none⟩ = some (.string i) ∧ w'.cell? ⟨w.heap.size, 2, none⟩ = some (.string t) ∧ w'.cell? ⟨w.heap.size, 3, none⟩ = some (.string c) ∧ w'.cell? ⟨w.heap.size, 4, none⟩ = some (.string s) ∧ w'.cell? ⟨w.heap.size, 5, none⟩ = some (.int .i64 sd) ∧ w'.cell? ⟨w.heap.size, 6, none⟩ = some (.int .i64 q) ∧ w'.cell? ⟨w.heap.size, 7, none⟩ = some (.int .i64 p) ∧ w'.cell? ⟨w.heap.size, 8, none⟩ = some (.int .i64 al) ∧ w'.cell? ⟨w.heap.size, 9, none⟩ = some (.int .i64 st) ∧ w'.cell? ⟨w.heap.size, 10, none⟩ = some (.int .i64 en) ∧ w'.cell? ⟨w.heap.size, 11, none⟩ = some (.int .i64 ra) ∧ w'.cell? ⟨w.heap.size, 12, none⟩ = some (.int .i64 sh) ∧ w'.cell? ⟨w.heap.size, 13, none⟩ = some (.slice a n cap)) (go_keep) (first
    | (go_at_call_of 50 (Value.string ⟨#[49]⟩); refine (C2 _).mono ?_; rintro e' y2 ⟨rfl, rfl⟩)
    | (go_at_call_of 50 (Value.string ⟨#[53, 53]⟩); refine (C3 _).mono ?_; rintro e' y3 ⟨rfl, rfl⟩)
    | (go_at_call_of 51 (Value.string ⟨#[53, 52]⟩); refine (C4 _).mono ?_; rintro e' y4 ⟨rfl, b4⟩; have B4 := below_of_drew b4; have X4 : Hid (AskAt y4 w.heap.size k i t c s sd q p al st en ra sh (.slice a n cap)) := Xw.out.still B4 Xw.out.lt; obtain ⟨u4_0, u4_1, u4_2, u4_3, u4_4, u4_5, u4_6, u4_7, u4_8, u4_9, u4_10, u4_11, u4_12, u4_13⟩ := X4.out; have HB4' : Hid (Below w.heap.size w y4) := HBw'.out.trans (B4.mono HBw'.out.size)))
  go_wp2_with fail
  go_region_held3 (fun w' => w'.cell? ⟨w.heap.size, 0, none⟩ = some (.int .i64 k) ∧ w'.cell? ⟨w.heap.size, 1, none⟩ = some (.string i) ∧ w'.cell? ⟨w.heap.size, 2, none⟩ = some (.string t) ∧ w'.cell? ⟨w.heap.size, 3, none⟩ = some (.string c) ∧ w'.cell? ⟨w.heap.size, 4, none⟩ = some (.string s) ∧ w'.cell? ⟨w.heap.size, 5, none⟩ = some (.int .i64 sd) ∧ w'.cell? ⟨w.heap.size, 6, none⟩ = some (.int .i64 q) ∧ w'.cell? ⟨w.heap.size, 7, none⟩ = some (.int .i64 p) ∧ w'.cell? ⟨w.heap.size, 8, none⟩ = some (.int .i64 al) ∧ w'.cell? ⟨w.heap.size, 9, none⟩ = some (.int .i64 st) ∧ w'.cell? ⟨w.heap.size, 10, none⟩ = some (.int .i64 en) ∧ w'.cell? ⟨w.heap.size, 11, none⟩ = some (.int .i64 ra) ∧ w'.cell? ⟨w.heap.size, 12, none⟩ = some (.int .i64 sh) ∧ w'.cell? ⟨w.heap.size, 13, none⟩ = some (.slice a n cap)) (go_keep) (first
    | (go_at_call_of 51 (Value.string ⟨#[51, 56]⟩); refine (C5 _).mono ?_; rintro e' y5 ⟨rfl, b5⟩; have B5 := below_of_drew b5; have X5 : Hid (AskAt y5 w.heap.size k i t c s sd q p al st en ra sh (.slice a n cap)) := X4.out.still B5 X4.out.lt; obtain ⟨u5_0, u5_1, u5_2, u5_3, u5_4, u5_5, u5_6, u5_7, u5_8, u5_9, u5_10, u5_11, u5_12, u5_13⟩ := X5.out; have HB5' : Hid (Below w.heap.size w y5) := HB4'.out.trans (B5.mono HB4'.out.size))
    | (go_at_call_of 51 (Value.string ⟨#[52, 52]⟩); refine (C6 _).mono ?_; rintro e' y6 ⟨rfl, b6⟩; have B6 := b6; have X6 : Hid (AskAt y6 w.heap.size k i t c s sd q p al st en ra sh (.slice a n cap)) := X5.out.still B6 X5.out.lt; obtain ⟨u6_0, u6_1, u6_2, u6_3, u6_4, u6_5, u6_6, u6_7, u6_8, u6_9, u6_10, u6_11, u6_12, u6_13⟩ := X6.out; have HB6' : Hid (Below w.heap.size w y6) := HB5'.out.trans (B6.mono HB5'.out.size)))
  go_wp2_with fail
  go_region_held3 (fun w' => w'.cell? ⟨w.heap.size, 0, none⟩ = some (.int .i64 k) ∧ w'.cell? ⟨w.heap.size, 1, none⟩ = some (.string i) ∧ w'.cell? ⟨w.heap.size, 2, none⟩ = some (.string t) ∧ w'.cell? ⟨w.heap.size, 3, none⟩ = some (.string c) ∧ w'.cell? ⟨w.heap.size, 4, none⟩ = some (.string s) ∧ w'.cell? ⟨w.heap.size, 5, none⟩ = some (.int .i64 sd) ∧ w'.cell? ⟨w.heap.size, 6, none⟩ = some (.int .i64 q) ∧ w'.cell? ⟨w.heap.size, 7, none⟩ = some (.int .i64 p) ∧ w'.cell? ⟨w.heap.size, 8, none⟩ = some (.int .i64 al) ∧ w'.cell? ⟨w.heap.size, 9, none⟩ = some (.int .i64 st) ∧ w'.cell? ⟨w.heap.size, 10, none⟩ = some (.int .i64 en) ∧ w'.cell? ⟨w.heap.size, 11, none⟩ = some (.int .i64 ra) ∧ w'.cell? ⟨w.heap.size, 12, none⟩ = some (.int .i64 sh) ∧ w'.cell? ⟨w.heap.size, 13, none⟩ = some (.slice a n cap)) (go_keep) (first
    | (go_at_call_of 51 (Value.string ⟨#[53, 48, 48, 49]⟩); refine (C7 _).mono ?_; rintro e' y7 ⟨rfl, b7⟩; have B7 := below_of_drew b7; have X7 : Hid (AskAt y7 w.heap.size k i t c s sd q p al st en ra sh (.slice a n cap)) := X6.out.still B7 X6.out.lt; obtain ⟨u7_0, u7_1, u7_2, u7_3, u7_4, u7_5, u7_6, u7_7, u7_8, u7_9, u7_10, u7_11, u7_12, u7_13⟩ := X7.out; have HB7' : Hid (Below w.heap.size w y7) := HB6'.out.trans (B7.mono HB6'.out.size))
    | (go_at_call_of 51 (Value.string ⟨#[53, 48, 48, 50]⟩); refine (C8 _).mono ?_; rintro e' y8 ⟨rfl, b8⟩; have B8 := b8; have X8 : Hid (AskAt y8 w.heap.size k i t c s sd q p al st en ra sh (.slice a n cap)) := X7.out.still B8 X7.out.lt; obtain ⟨u8_0, u8_1, u8_2, u8_3, u8_4, u8_5, u8_6, u8_7, u8_8, u8_9, u8_10, u8_11, u8_12, u8_13⟩ := X8.out; have HB8' : Hid (Below w.heap.size w y8) := HB7'.out.trans (B8.mono HB7'.out.size)))
  go_wp2_with fail
  refine (C9 _).mono ?_
  rintro e' y9 ⟨rfl, b9⟩
  have B9 := b9
  have X9 : Hid (AskAt y9 w.heap.size k i t c s sd q p al st en ra sh (.slice a n cap)) := X8.out.still B9 X8.out.lt
  obtain ⟨u9_0, u9_1, u9_2, u9_3, u9_4, u9_5, u9_6, u9_7, u9_8, u9_9, u9_10, u9_11, u9_12, u9_13⟩ := X9.out
  have HB9' : Hid (Below w.heap.size w y9) := HB8'.out.trans (B9.mono HB8'.out.size)
  go_wp2_with fail
  go_ret
  exact ⟨rfl, HB9'.out⟩
set_option maxRecDepth 1000000 in
set_option maxHeartbeats 16000000 in
theorem refForm_new3 (k : Int) (i t c s : ByteArray) (sd q p al st en ra sh : Int) (a : Option Addr) (n cap : Nat) (w : World) (k1 : 1 ≤ k) (k5 : k ≤ 5) (e1 : k = 1) (h0 : al = 3) (zi : i.size ≤ 600) (zc : c.size ≤ 600) (zs : s.size ≤ 600) (zsd : 0 ≤ sd ∧ sd ≤ 1099511627776) (zq : 0 ≤ q ∧ q ≤ 1099511627776) (zp : 0 ≤ p ∧ p ≤ 1099511627776) (zal : 0 ≤ al ∧ al ≤ 1099511627776) (zst : 0 ≤ st ∧ st ≤ 1099511627776) (zen : 0 ≤ en ∧ en ≤ 1099511627776) (zra : 0 ≤ ra ∧ ra ≤ 1099511627776) :
    Calls Tryz.prog 17 #[.agg #[.int .i64 k, .string i, .string t, .string c, .string s, .int .i64 sd, .int .i64 q, .int .i64 p, .int .i64 al, .int .i64 st, .int .i64 en, .int .i64 ra, .int .i64 sh, .slice a n cap]] w fun e' w' => e' = .returned (.string (mk ((((((([51, 53] ++ 61 :: ((wordT k).data.toList ++ [1])) ++ ([49, 49] ++ 61 :: ((i).data.toList ++ [1]))) ++ ((([49] ++ 61 :: ((c).data.toList ++ [1])) ++ ([53, 53] ++ 61 :: ((s).data.toList ++ [1]))) ++ ([53, 52] ++ 61 :: ((numT sd).data.toList ++ [1])))) ++ (([51, 56] ++ 61 :: ((numT q).data.toList ++ [1])) ++ ([52, 52] ++ 61 :: ((numT p).data.toList ++ [1])))) ++ (([53, 48, 48, 49] ++ 61 :: ((numT al).data.toList ++ [1])) ++ ([53, 48, 48, 50] ++ 61 :: ((numT st).data.toList ++ [1])))) ++ ([53, 48, 48, 51] ++ 61 :: ((numT en).data.toList ++ [1]))) ++ ([53, 48, 48, 52] ++ 61 :: ((numT ra).data.toList ++ [1]))))) ∧ Below w.heap.size w w' := by
  have HB0 : Hid (Below w.heap.size w (boxR w k i t c s sd q p al st en ra sh (.slice a n cap))) := boxR_below w k i t c s sd q p al st en ra sh (.slice a n cap)
  have HT : Hid (AskAt (boxR w k i t c s sd q p al st en ra sh (.slice a n cap)) w.heap.size k i t c s sd q p al st en ra sh (.slice a n cap)) := AskAt.boxR w k i t c s sd q p al st en ra sh (.slice a n cap)
  have WD := fun w => refWord_any k k1 k5 w
  have hwd := word_small k
  have C0 : ∀ w, Calls Tryz.prog 50 #[.string ⟨#[51, 53]⟩, .string (wordT k)] w fun e' w' => e' = .returned (.string (putL [51, 53] (wordT k))) ∧ w = w' := fun w => (refPut_any [51, 53] (wordT k) (by decide) (by omega) w).mono fun e w' ⟨h1, h2⟩ => ⟨h1, h2.symm⟩
  have S0 := putL_size [51, 53] (wordT k)
  simp only [List.length_cons, List.length_nil] at S0
  have C1 : ∀ w, Calls Tryz.prog 50 #[.string ⟨#[49, 49]⟩, .string i] w fun e' w' => e' = .returned (.string (putL [49, 49] i)) ∧ w = w' := fun w => (refPut_any [49, 49] i (by decide) (by omega) w).mono fun e w' ⟨h1, h2⟩ => ⟨h1, h2.symm⟩
  have S1 := putL_size [49, 49] (i)
  simp only [List.length_cons, List.length_nil] at S1
  have C2 : ∀ w, Calls Tryz.prog 50 #[.string ⟨#[49]⟩, .string c] w fun e' w' => e' = .returned (.string (putL [49] c)) ∧ w = w' := fun w => (refPut_any [49] c (by decide) (by omega) w).mono fun e w' ⟨h1, h2⟩ => ⟨h1, h2.symm⟩
  have S2 := putL_size [49] (c)
  simp only [List.length_cons, List.length_nil] at S2
  have C3 : ∀ w, Calls Tryz.prog 50 #[.string ⟨#[53, 53]⟩, .string s] w fun e' w' => e' = .returned (.string (putL [53, 53] s)) ∧ w = w' := fun w => (refPut_any [53, 53] s (by decide) (by omega) w).mono fun e w' ⟨h1, h2⟩ => ⟨h1, h2.symm⟩
  have S3 := putL_size [53, 53] (s)
  simp only [List.length_cons, List.length_nil] at S3
  have C4 : ∀ w, Calls Tryz.prog 51 #[.string ⟨#[53, 52]⟩, .int .i64 sd] w fun e' w' => e' = .returned (.string (putL [53, 52] (numT sd))) ∧ Below w.heap.size w w' := fun w => numberP_any [53, 52] sd (by decide) zsd.1 zsd.2 w
  have S4 := putL_size [53, 52] (numT sd)
  have N4 := num_small sd zsd.2
  simp only [List.length_cons, List.length_nil] at S4
  have C5 : ∀ w, Calls Tryz.prog 51 #[.string ⟨#[51, 56]⟩, .int .i64 q] w fun e' w' => e' = .returned (.string (putL [51, 56] (numT q))) ∧ Below w.heap.size w w' := fun w => numberP_any [51, 56] q (by decide) zq.1 zq.2 w
  have S5 := putL_size [51, 56] (numT q)
  have N5 := num_small q zq.2
  simp only [List.length_cons, List.length_nil] at S5
  have C6 : ∀ w, Calls Tryz.prog 51 #[.string ⟨#[52, 52]⟩, .int .i64 p] w fun e' w' => e' = .returned (.string (putL [52, 52] (numT p))) ∧ Below w.heap.size w w' := fun w => numberP_any [52, 52] p (by decide) zp.1 zp.2 w
  have S6 := putL_size [52, 52] (numT p)
  have N6 := num_small p zp.2
  simp only [List.length_cons, List.length_nil] at S6
  have C7 : ∀ w, Calls Tryz.prog 51 #[.string ⟨#[53, 48, 48, 49]⟩, .int .i64 al] w fun e' w' => e' = .returned (.string (putL [53, 48, 48, 49] (numT al))) ∧ Below w.heap.size w w' := fun w => numberP_any [53, 48, 48, 49] al (by decide) zal.1 zal.2 w
  have S7 := putL_size [53, 48, 48, 49] (numT al)
  have N7 := num_small al zal.2
  simp only [List.length_cons, List.length_nil] at S7
  have C8 : ∀ w, Calls Tryz.prog 51 #[.string ⟨#[53, 48, 48, 50]⟩, .int .i64 st] w fun e' w' => e' = .returned (.string (putL [53, 48, 48, 50] (numT st))) ∧ Below w.heap.size w w' := fun w => numberP_any [53, 48, 48, 50] st (by decide) zst.1 zst.2 w
  have S8 := putL_size [53, 48, 48, 50] (numT st)
  have N8 := num_small st zst.2
  simp only [List.length_cons, List.length_nil] at S8
  have C9 : ∀ w, Calls Tryz.prog 51 #[.string ⟨#[53, 48, 48, 51]⟩, .int .i64 en] w fun e' w' => e' = .returned (.string (putL [53, 48, 48, 51] (numT en))) ∧ Below w.heap.size w w' := fun w => numberP_any [53, 48, 48, 51] en (by decide) zen.1 zen.2 w
  have S9 := putL_size [53, 48, 48, 51] (numT en)
  have N9 := num_small en zen.2
  simp only [List.length_cons, List.length_nil] at S9
  have C10 : ∀ w, Calls Tryz.prog 51 #[.string ⟨#[53, 48, 48, 52]⟩, .int .i64 ra] w fun e' w' => e' = .returned (.string (putL [53, 48, 48, 52] (numT ra))) ∧ Below w.heap.size w w' := fun w => numberP_any [53, 48, 48, 52] ra (by decide) zra.1 zra.2 w
  have S10 := putL_size [53, 48, 48, 52] (numT ra)
  have N10 := num_small ra zra.2
  simp only [List.length_cons, List.length_nil] at S10
  have HOUT : Hid (((((((putL [51, 53] (wordT k) ++ putL [49, 49] i) ++ ((putL [49] c ++ putL [53, 53] s) ++ putL [53, 52] (numT sd))) ++ (putL [51, 56] (numT q) ++ putL [52, 52] (numT p))) ++ (putL [53, 48, 48, 49] (numT al) ++ putL [53, 48, 48, 50] (numT st))) ++ putL [53, 48, 48, 51] (numT en)) ++ putL [53, 48, 48, 52] (numT ra)) = mk ((((((([51, 53] ++ 61 :: ((wordT k).data.toList ++ [1])) ++ ([49, 49] ++ 61 :: ((i).data.toList ++ [1]))) ++ ((([49] ++ 61 :: ((c).data.toList ++ [1])) ++ ([53, 53] ++ 61 :: ((s).data.toList ++ [1]))) ++ ([53, 52] ++ 61 :: ((numT sd).data.toList ++ [1])))) ++ (([51, 56] ++ 61 :: ((numT q).data.toList ++ [1])) ++ ([52, 52] ++ 61 :: ((numT p).data.toList ++ [1])))) ++ (([53, 48, 48, 49] ++ 61 :: ((numT al).data.toList ++ [1])) ++ ([53, 48, 48, 50] ++ 61 :: ((numT st).data.toList ++ [1])))) ++ ([53, 48, 48, 51] ++ 61 :: ((numT en).data.toList ++ [1]))) ++ ([53, 48, 48, 52] ++ 61 :: ((numT ra).data.toList ++ [1])))) := by
    show _ = _
    apply bytes_ext8
    simp [mk, putL]
  obtain ⟨p0, hp0⟩ : ∃ pp, putL [51, 53] (wordT k) = pp := ⟨_, rfl⟩
  rw [hp0] at C0 HOUT S0
  obtain ⟨p1, hp1⟩ : ∃ pp, putL [49, 49] i = pp := ⟨_, rfl⟩
  rw [hp1] at C1 HOUT S1
  obtain ⟨p2, hp2⟩ : ∃ pp, putL [49] c = pp := ⟨_, rfl⟩
  rw [hp2] at C2 HOUT S2
  obtain ⟨p3, hp3⟩ : ∃ pp, putL [53, 53] s = pp := ⟨_, rfl⟩
  rw [hp3] at C3 HOUT S3
  obtain ⟨p4, hp4⟩ : ∃ pp, putL [53, 52] (numT sd) = pp := ⟨_, rfl⟩
  rw [hp4] at C4 HOUT S4
  obtain ⟨p5, hp5⟩ : ∃ pp, putL [51, 56] (numT q) = pp := ⟨_, rfl⟩
  rw [hp5] at C5 HOUT S5
  obtain ⟨p6, hp6⟩ : ∃ pp, putL [52, 52] (numT p) = pp := ⟨_, rfl⟩
  rw [hp6] at C6 HOUT S6
  obtain ⟨p7, hp7⟩ : ∃ pp, putL [53, 48, 48, 49] (numT al) = pp := ⟨_, rfl⟩
  rw [hp7] at C7 HOUT S7
  obtain ⟨p8, hp8⟩ : ∃ pp, putL [53, 48, 48, 50] (numT st) = pp := ⟨_, rfl⟩
  rw [hp8] at C8 HOUT S8
  obtain ⟨p9, hp9⟩ : ∃ pp, putL [53, 48, 48, 51] (numT en) = pp := ⟨_, rfl⟩
  rw [hp9] at C9 HOUT S9
  obtain ⟨p10, hp10⟩ : ∃ pp, putL [53, 48, 48, 52] (numT ra) = pp := ⟨_, rfl⟩
  rw [hp10] at C10 HOUT S10
  rw [← HOUT.out]
  clear HOUT hp0 hp1 hp2 hp3 hp4 hp5 hp6 hp7 hp8 hp9 hp10
  have Jq0 := fun w => join_run p0 p1 (by omega) w
  have Zq0 : (p0 ++ p1).size = p0.size + p1.size := ByteArray.size_append
  obtain ⟨q0, hq0⟩ : ∃ qq, p0 ++ p1 = qq := ⟨_, rfl⟩
  rw [hq0] at Jq0 Zq0 ⊢
  have Jq1 := fun w => join_run p2 p3 (by omega) w
  have Zq1 : (p2 ++ p3).size = p2.size + p3.size := ByteArray.size_append
  obtain ⟨q1, hq1⟩ : ∃ qq, p2 ++ p3 = qq := ⟨_, rfl⟩
  rw [hq1] at Jq1 Zq1 ⊢
  have Jq2 := fun w => join_run q1 p4 (by omega) w
  have Zq2 : (q1 ++ p4).size = q1.size + p4.size := ByteArray.size_append
  obtain ⟨q2, hq2⟩ : ∃ qq, q1 ++ p4 = qq := ⟨_, rfl⟩
  rw [hq2] at Jq2 Zq2 ⊢
  have Jq3 := fun w => join_run q0 q2 (by omega) w
  have Zq3 : (q0 ++ q2).size = q0.size + q2.size := ByteArray.size_append
  obtain ⟨q3, hq3⟩ : ∃ qq, q0 ++ q2 = qq := ⟨_, rfl⟩
  rw [hq3] at Jq3 Zq3 ⊢
  have Jq4 := fun w => join_run p5 p6 (by omega) w
  have Zq4 : (p5 ++ p6).size = p5.size + p6.size := ByteArray.size_append
  obtain ⟨q4, hq4⟩ : ∃ qq, p5 ++ p6 = qq := ⟨_, rfl⟩
  rw [hq4] at Jq4 Zq4 ⊢
  have Jq5 := fun w => join_run q3 q4 (by omega) w
  have Zq5 : (q3 ++ q4).size = q3.size + q4.size := ByteArray.size_append
  obtain ⟨q5, hq5⟩ : ∃ qq, q3 ++ q4 = qq := ⟨_, rfl⟩
  rw [hq5] at Jq5 Zq5 ⊢
  have Jq6 := fun w => join_run p7 p8 (by omega) w
  have Zq6 : (p7 ++ p8).size = p7.size + p8.size := ByteArray.size_append
  obtain ⟨q6, hq6⟩ : ∃ qq, p7 ++ p8 = qq := ⟨_, rfl⟩
  rw [hq6] at Jq6 Zq6 ⊢
  have Jq7 := fun w => join_run q5 q6 (by omega) w
  have Zq7 : (q5 ++ q6).size = q5.size + q6.size := ByteArray.size_append
  obtain ⟨q7, hq7⟩ : ∃ qq, q5 ++ q6 = qq := ⟨_, rfl⟩
  rw [hq7] at Jq7 Zq7 ⊢
  have Jq8 := fun w => join_run q7 p9 (by omega) w
  have Zq8 : (q7 ++ p9).size = q7.size + p9.size := ByteArray.size_append
  obtain ⟨q8, hq8⟩ : ∃ qq, q7 ++ p9 = qq := ⟨_, rfl⟩
  rw [hq8] at Jq8 Zq8 ⊢
  have Jq9 := fun w => join_run q8 p10 (by omega) w
  have Zq9 : (q8 ++ p10).size = q8.size + p10.size := ByteArray.size_append
  obtain ⟨q9, hq9⟩ : ∃ qq, q8 ++ p10 = qq := ⟨_, rfl⟩
  rw [hq9] at Jq9 Zq9 ⊢
  have gk1 : (k == 1) = true := beq_iff_eq.2 e1
  have gk3 : (k == 3) = false := beq_false_of_ne (by omega)
  have ga2 : (al == 2) = false := beq_false_of_ne (by omega)
  have ga3 : (al == 3) = true := beq_iff_eq.2 h0
  have ga4 : (al == 4) = false := beq_false_of_ne (by omega)
  clear e1 h0
  clear hq0 Zq0 hq1 Zq1 hq2 Zq2 hq3 Zq3 hq4 Zq4 hq5 Zq5 hq6 Zq6 hq7 Zq7 hq8 Zq8 hq9 Zq9 S0 S1 S2 S3 S4 N4 S5 N5 S6 N6 S7 N7 S8 N8 S9 N9 S10 N10 hwd k1 k5
  clear zi zc zs zsd zq zp zal zst zen zra
  generalize wordT k = wd at *
  obtain ⟨d0, d1, d2, d3, d4, d5, d6, d7, d8, d9, d10, d11, d12, d13⟩ := HT.out
  go_enter Tryz.func17, Tryz.ntmps17
  go_wp2_with fail
  go_region_held3 (fun w' => w'.cell? ⟨w.heap.size, 0, none⟩ = some (.int .i64 k) ∧ w'.cell? ⟨w.heap.size, 1, none⟩ = some (.string i) ∧ w'.cell? ⟨w.heap.size, 2, none⟩ = some (.string t) ∧ w'.cell? ⟨w.heap.size, 3, none⟩ = some (.string c) ∧ w'.cell? ⟨w.heap.size, 4, none⟩ = some (.string s) ∧ w'.cell? ⟨w.heap.size, 5, none⟩ = some (.int .i64 sd) ∧ w'.cell? ⟨w.heap.size, 6, none⟩ = some (.int .i64 q) ∧ w'.cell? ⟨w.heap.size, 7, none⟩ = some (.int .i64 p) ∧ w'.cell? ⟨w.heap.size, 8, none⟩ = some (.int .i64 al) ∧ w'.cell? ⟨w.heap.size, 9, none⟩ = some (.int .i64 st) ∧ w'.cell? ⟨w.heap.size, 10, none⟩ = some (.int .i64 en) ∧ w'.cell? ⟨w.heap.size, 11, none⟩ = some (.int .i64 ra) ∧ w'.cell? ⟨w.heap.size, 12, none⟩ = some (.int .i64 sh) ∧ w'.cell? ⟨w.heap.size, 13, none⟩ = some (.slice a n cap)) (go_keep) (first
    | (go_at_call 38; refine (WD _).mono ?_; rintro e' yw ⟨rfl, bw⟩; have Bw := below_of_drew bw; have Xw : Hid (AskAt yw w.heap.size k i t c s sd q p al st en ra sh (.slice a n cap)) := HT.out.still Bw HT.out.lt; obtain ⟨uw_0, uw_1, uw_2, uw_3, uw_4, uw_5, uw_6, uw_7, uw_8, uw_9, uw_10, uw_11, uw_12, uw_13⟩ := Xw.out; have HBw' : Hid (Below w.heap.size w yw) := HB0.out.trans (Bw.mono HB0.out.size))
    | (go_at_call_of 50 (Value.string ⟨#[51, 53]⟩); refine (C0 _).mono ?_; rintro e' y0 ⟨rfl, rfl⟩)
    | (go_at_call_of 50 (Value.string ⟨#[49, 49]⟩); refine (C1 _).mono ?_; rintro e' y1 ⟨rfl, rfl⟩))
  go_wp2_with fail
  go_region_held3 (fun w' => w'.cell? ⟨w.heap.size, 0, none⟩ = some (.int .i64 k) ∧ w'.cell? ⟨w.heap.size, 1, none⟩ = some (.string i) ∧ w'.cell? ⟨w.heap.size, 2, none⟩ = some (.string t) ∧ w'.cell? ⟨w.heap.size, 3, none⟩ = some (.string c) ∧ w'.cell? ⟨w.heap.size, 4, none⟩ = some (.string s) ∧ w'.cell? ⟨w.heap.size, 5, none⟩ = some (.int .i64 sd) ∧ w'.cell? ⟨w.heap.size, 6, none⟩ = some (.int .i64 q) ∧ w'.cell? ⟨w.heap.size, 7, none⟩ = some (.int .i64 p) ∧ w'.cell? ⟨w.heap.size, 8, none⟩ = some (.int .i64 al) ∧ w'.cell? ⟨w.heap.size, 9, none⟩ = some (.int .i64 st) ∧ w'.cell? ⟨w.heap.size, 10, none⟩ = some (.int .i64 en) ∧ w'.cell? ⟨w.heap.size, 11, none⟩ = some (.int .i64 ra) ∧ w'.cell? ⟨w.heap.size, 12, none⟩ = some (.int .i64 sh) ∧ w'.cell? ⟨w.heap.size, 13, none⟩ = some (.slice a n cap)) (go_keep) (first
    | (go_at_call_of 50 (Value.string ⟨#[49]⟩); refine (C2 _).mono ?_; rintro e' y2 ⟨rfl, rfl⟩)
    | (go_at_call_of 50 (Value.string ⟨#[53, 53]⟩); refine (C3 _).mono ?_; rintro e' y3 ⟨rfl, rfl⟩)
    | (go_at_call_of 51 (Value.string ⟨#[53, 52]⟩); refine (C4 _).mono ?_; rintro e' y4 ⟨rfl, b4⟩; have B4 := below_of_drew b4; have X4 : Hid (AskAt y4 w.heap.size k i t c s sd q p al st en ra sh (.slice a n cap)) := Xw.out.still B4 Xw.out.lt; obtain ⟨u4_0, u4_1, u4_2, u4_3, u4_4, u4_5, u4_6, u4_7, u4_8, u4_9, u4_10, u4_11, u4_12, u4_13⟩ := X4.out; have HB4' : Hid (Below w.heap.size w y4) := HBw'.out.trans (B4.mono HBw'.out.size)))
  go_wp2_with fail
  go_region_held3 (fun w' => w'.cell? ⟨w.heap.size, 0, none⟩ = some (.int .i64 k) ∧ w'.cell? ⟨w.heap.size, 1, none⟩ = some (.string i) ∧ w'.cell? ⟨w.heap.size, 2, none⟩ = some (.string t) ∧ w'.cell? ⟨w.heap.size, 3, none⟩ = some (.string c) ∧ w'.cell? ⟨w.heap.size, 4, none⟩ = some (.string s) ∧ w'.cell? ⟨w.heap.size, 5, none⟩ = some (.int .i64 sd) ∧ w'.cell? ⟨w.heap.size, 6, none⟩ = some (.int .i64 q) ∧ w'.cell? ⟨w.heap.size, 7, none⟩ = some (.int .i64 p) ∧ w'.cell? ⟨w.heap.size, 8, none⟩ = some (.int .i64 al) ∧ w'.cell? ⟨w.heap.size, 9, none⟩ = some (.int .i64 st) ∧ w'.cell? ⟨w.heap.size, 10, none⟩ = some (.int .i64 en) ∧ w'.cell? ⟨w.heap.size, 11, none⟩ = some (.int .i64 ra) ∧ w'.cell? ⟨w.heap.size, 12, none⟩ = some (.int .i64 sh) ∧ w'.cell? ⟨w.heap.size, 13, none⟩ = some (.slice a n cap)) (go_keep) (first
    | (go_at_call_of 51 (Value.string ⟨#[51, 56]⟩); refine (C5 _).mono ?_; rintro e' y5 ⟨rfl, b5⟩; have B5 := below_of_drew b5; have X5 : Hid (AskAt y5 w.heap.size k i t c s sd q p al st en ra sh (.slice a n cap)) := X4.out.still B5 X4.out.lt; obtain ⟨u5_0, u5_1, u5_2, u5_3, u5_4, u5_5, u5_6, u5_7, u5_8, u5_9, u5_10, u5_11, u5_12, u5_13⟩ := X5.out; have HB5' : Hid (Below w.heap.size w y5) := HB4'.out.trans (B5.mono HB4'.out.size))
    | (go_at_call_of 51 (Value.string ⟨#[52, 52]⟩); refine (C6 _).mono ?_; rintro e' y6 ⟨rfl, b6⟩; have B6 := b6; have X6 : Hid (AskAt y6 w.heap.size k i t c s sd q p al st en ra sh (.slice a n cap)) := X5.out.still B6 X5.out.lt; obtain ⟨u6_0, u6_1, u6_2, u6_3, u6_4, u6_5, u6_6, u6_7, u6_8, u6_9, u6_10, u6_11, u6_12, u6_13⟩ := X6.out; have HB6' : Hid (Below w.heap.size w y6) := HB5'.out.trans (B6.mono HB5'.out.size)))
  go_wp2_with fail
  go_region_held3 (fun w' => w'.cell? ⟨w.heap.size, 0, none⟩ = some (.int .i64 k) ∧ w'.cell? ⟨w.heap.size, 1, none⟩ = some (.string i) ∧ w'.cell? ⟨w.heap.size, 2, none⟩ = some (.string t) ∧ w'.cell? ⟨w.heap.size, 3, none⟩ = some (.string c) ∧ w'.cell? ⟨w.heap.size, 4, none⟩ = some (.string s) ∧ w'.cell? ⟨w.heap.size, 5, none⟩ = some (.int .i64 sd) ∧ w'.cell? ⟨w.heap.size, 6, none⟩ = some (.int .i64 q) ∧ w'.cell? ⟨w.heap.size, 7, none⟩ = some (.int .i64 p) ∧ w'.cell? ⟨w.heap.size, 8, none⟩ = some (.int .i64 al) ∧ w'.cell? ⟨w.heap.size, 9, none⟩ = some (.int .i64 st) ∧ w'.cell? ⟨w.heap.size, 10, none⟩ = some (.int .i64 en) ∧ w'.cell? ⟨w.heap.size, 11, none⟩ = some (.int .i64 ra) ∧ w'.cell? ⟨w.heap.size, 12, none⟩ = some (.int .i64 sh) ∧ w'.cell? ⟨w.heap.size, 13, none⟩ = some (.slice a n cap)) (go_keep) (first
    | (go_at_call_of 51 (Value.string ⟨#[53, 48, 48, 49]⟩); refine (C7 _).mono ?_; rintro e' y7 ⟨rfl, b7⟩; have B7 := below_of_drew b7; have X7 : Hid (AskAt y7 w.heap.size k i t c s sd q p al st en ra sh (.slice a n cap)) := X6.out.still B7 X6.out.lt; obtain ⟨u7_0, u7_1, u7_2, u7_3, u7_4, u7_5, u7_6, u7_7, u7_8, u7_9, u7_10, u7_11, u7_12, u7_13⟩ := X7.out; have HB7' : Hid (Below w.heap.size w y7) := HB6'.out.trans (B7.mono HB6'.out.size))
    | (go_at_call_of 51 (Value.string ⟨#[53, 48, 48, 50]⟩); refine (C8 _).mono ?_; rintro e' y8 ⟨rfl, b8⟩; have B8 := b8; have X8 : Hid (AskAt y8 w.heap.size k i t c s sd q p al st en ra sh (.slice a n cap)) := X7.out.still B8 X7.out.lt; obtain ⟨u8_0, u8_1, u8_2, u8_3, u8_4, u8_5, u8_6, u8_7, u8_8, u8_9, u8_10, u8_11, u8_12, u8_13⟩ := X8.out; have HB8' : Hid (Below w.heap.size w y8) := HB7'.out.trans (B8.mono HB7'.out.size)))
  go_wp2_with fail
  refine (C9 _).mono ?_
  rintro e' y9 ⟨rfl, b9⟩
  have B9 := b9
  have X9 : Hid (AskAt y9 w.heap.size k i t c s sd q p al st en ra sh (.slice a n cap)) := X8.out.still B9 X8.out.lt
  obtain ⟨u9_0, u9_1, u9_2, u9_3, u9_4, u9_5, u9_6, u9_7, u9_8, u9_9, u9_10, u9_11, u9_12, u9_13⟩ := X9.out
  have HB9' : Hid (Below w.heap.size w y9) := HB8'.out.trans (B9.mono HB8'.out.size)
  go_wp2_with fail
  refine (C10 _).mono ?_
  rintro e' y10 ⟨rfl, b10⟩
  have B10 := b10
  have X10 : Hid (AskAt y10 w.heap.size k i t c s sd q p al st en ra sh (.slice a n cap)) := X9.out.still B10 X9.out.lt
  obtain ⟨u10_0, u10_1, u10_2, u10_3, u10_4, u10_5, u10_6, u10_7, u10_8, u10_9, u10_10, u10_11, u10_12, u10_13⟩ := X10.out
  have HB10' : Hid (Below w.heap.size w y10) := HB9'.out.trans (B10.mono HB9'.out.size)
  go_wp2_with fail
  go_ret
  exact ⟨rfl, HB10'.out⟩
set_option maxRecDepth 1000000 in
set_option maxHeartbeats 16000000 in
theorem refForm_new4 (k : Int) (i t c s : ByteArray) (sd q p al st en ra sh : Int) (a : Option Addr) (n cap : Nat) (w : World) (k1 : 1 ≤ k) (k5 : k ≤ 5) (e1 : k = 1) (h0 : al = 4) (zi : i.size ≤ 600) (zc : c.size ≤ 600) (zs : s.size ≤ 600) (zsd : 0 ≤ sd ∧ sd ≤ 1099511627776) (zq : 0 ≤ q ∧ q ≤ 1099511627776) (zp : 0 ≤ p ∧ p ≤ 1099511627776) (zal : 0 ≤ al ∧ al ≤ 1099511627776) (zst : 0 ≤ st ∧ st ≤ 1099511627776) (zen : 0 ≤ en ∧ en ≤ 1099511627776) (zsh : 0 ≤ sh ∧ sh ≤ 1099511627776) :
    Calls Tryz.prog 17 #[.agg #[.int .i64 k, .string i, .string t, .string c, .string s, .int .i64 sd, .int .i64 q, .int .i64 p, .int .i64 al, .int .i64 st, .int .i64 en, .int .i64 ra, .int .i64 sh, .slice a n cap]] w fun e' w' => e' = .returned (.string (mk ((((((([51, 53] ++ 61 :: ((wordT k).data.toList ++ [1])) ++ ([49, 49] ++ 61 :: ((i).data.toList ++ [1]))) ++ ((([49] ++ 61 :: ((c).data.toList ++ [1])) ++ ([53, 53] ++ 61 :: ((s).data.toList ++ [1]))) ++ ([53, 52] ++ 61 :: ((numT sd).data.toList ++ [1])))) ++ (([51, 56] ++ 61 :: ((numT q).data.toList ++ [1])) ++ ([52, 52] ++ 61 :: ((numT p).data.toList ++ [1])))) ++ (([53, 48, 48, 49] ++ 61 :: ((numT al).data.toList ++ [1])) ++ ([53, 48, 48, 50] ++ 61 :: ((numT st).data.toList ++ [1])))) ++ ([53, 48, 48, 51] ++ 61 :: ((numT en).data.toList ++ [1]))) ++ ([53, 48, 48, 53] ++ 61 :: ((numT sh).data.toList ++ [1]))))) ∧ Below w.heap.size w w' := by
  have HB0 : Hid (Below w.heap.size w (boxR w k i t c s sd q p al st en ra sh (.slice a n cap))) := boxR_below w k i t c s sd q p al st en ra sh (.slice a n cap)
  have HT : Hid (AskAt (boxR w k i t c s sd q p al st en ra sh (.slice a n cap)) w.heap.size k i t c s sd q p al st en ra sh (.slice a n cap)) := AskAt.boxR w k i t c s sd q p al st en ra sh (.slice a n cap)
  have WD := fun w => refWord_any k k1 k5 w
  have hwd := word_small k
  have C0 : ∀ w, Calls Tryz.prog 50 #[.string ⟨#[51, 53]⟩, .string (wordT k)] w fun e' w' => e' = .returned (.string (putL [51, 53] (wordT k))) ∧ w = w' := fun w => (refPut_any [51, 53] (wordT k) (by decide) (by omega) w).mono fun e w' ⟨h1, h2⟩ => ⟨h1, h2.symm⟩
  have S0 := putL_size [51, 53] (wordT k)
  simp only [List.length_cons, List.length_nil] at S0
  have C1 : ∀ w, Calls Tryz.prog 50 #[.string ⟨#[49, 49]⟩, .string i] w fun e' w' => e' = .returned (.string (putL [49, 49] i)) ∧ w = w' := fun w => (refPut_any [49, 49] i (by decide) (by omega) w).mono fun e w' ⟨h1, h2⟩ => ⟨h1, h2.symm⟩
  have S1 := putL_size [49, 49] (i)
  simp only [List.length_cons, List.length_nil] at S1
  have C2 : ∀ w, Calls Tryz.prog 50 #[.string ⟨#[49]⟩, .string c] w fun e' w' => e' = .returned (.string (putL [49] c)) ∧ w = w' := fun w => (refPut_any [49] c (by decide) (by omega) w).mono fun e w' ⟨h1, h2⟩ => ⟨h1, h2.symm⟩
  have S2 := putL_size [49] (c)
  simp only [List.length_cons, List.length_nil] at S2
  have C3 : ∀ w, Calls Tryz.prog 50 #[.string ⟨#[53, 53]⟩, .string s] w fun e' w' => e' = .returned (.string (putL [53, 53] s)) ∧ w = w' := fun w => (refPut_any [53, 53] s (by decide) (by omega) w).mono fun e w' ⟨h1, h2⟩ => ⟨h1, h2.symm⟩
  have S3 := putL_size [53, 53] (s)
  simp only [List.length_cons, List.length_nil] at S3
  have C4 : ∀ w, Calls Tryz.prog 51 #[.string ⟨#[53, 52]⟩, .int .i64 sd] w fun e' w' => e' = .returned (.string (putL [53, 52] (numT sd))) ∧ Below w.heap.size w w' := fun w => numberP_any [53, 52] sd (by decide) zsd.1 zsd.2 w
  have S4 := putL_size [53, 52] (numT sd)
  have N4 := num_small sd zsd.2
  simp only [List.length_cons, List.length_nil] at S4
  have C5 : ∀ w, Calls Tryz.prog 51 #[.string ⟨#[51, 56]⟩, .int .i64 q] w fun e' w' => e' = .returned (.string (putL [51, 56] (numT q))) ∧ Below w.heap.size w w' := fun w => numberP_any [51, 56] q (by decide) zq.1 zq.2 w
  have S5 := putL_size [51, 56] (numT q)
  have N5 := num_small q zq.2
  simp only [List.length_cons, List.length_nil] at S5
  have C6 : ∀ w, Calls Tryz.prog 51 #[.string ⟨#[52, 52]⟩, .int .i64 p] w fun e' w' => e' = .returned (.string (putL [52, 52] (numT p))) ∧ Below w.heap.size w w' := fun w => numberP_any [52, 52] p (by decide) zp.1 zp.2 w
  have S6 := putL_size [52, 52] (numT p)
  have N6 := num_small p zp.2
  simp only [List.length_cons, List.length_nil] at S6
  have C7 : ∀ w, Calls Tryz.prog 51 #[.string ⟨#[53, 48, 48, 49]⟩, .int .i64 al] w fun e' w' => e' = .returned (.string (putL [53, 48, 48, 49] (numT al))) ∧ Below w.heap.size w w' := fun w => numberP_any [53, 48, 48, 49] al (by decide) zal.1 zal.2 w
  have S7 := putL_size [53, 48, 48, 49] (numT al)
  have N7 := num_small al zal.2
  simp only [List.length_cons, List.length_nil] at S7
  have C8 : ∀ w, Calls Tryz.prog 51 #[.string ⟨#[53, 48, 48, 50]⟩, .int .i64 st] w fun e' w' => e' = .returned (.string (putL [53, 48, 48, 50] (numT st))) ∧ Below w.heap.size w w' := fun w => numberP_any [53, 48, 48, 50] st (by decide) zst.1 zst.2 w
  have S8 := putL_size [53, 48, 48, 50] (numT st)
  have N8 := num_small st zst.2
  simp only [List.length_cons, List.length_nil] at S8
  have C9 : ∀ w, Calls Tryz.prog 51 #[.string ⟨#[53, 48, 48, 51]⟩, .int .i64 en] w fun e' w' => e' = .returned (.string (putL [53, 48, 48, 51] (numT en))) ∧ Below w.heap.size w w' := fun w => numberP_any [53, 48, 48, 51] en (by decide) zen.1 zen.2 w
  have S9 := putL_size [53, 48, 48, 51] (numT en)
  have N9 := num_small en zen.2
  simp only [List.length_cons, List.length_nil] at S9
  have C10 : ∀ w, Calls Tryz.prog 51 #[.string ⟨#[53, 48, 48, 53]⟩, .int .i64 sh] w fun e' w' => e' = .returned (.string (putL [53, 48, 48, 53] (numT sh))) ∧ Below w.heap.size w w' := fun w => numberP_any [53, 48, 48, 53] sh (by decide) zsh.1 zsh.2 w
  have S10 := putL_size [53, 48, 48, 53] (numT sh)
  have N10 := num_small sh zsh.2
  simp only [List.length_cons, List.length_nil] at S10
  have HOUT : Hid (((((((putL [51, 53] (wordT k) ++ putL [49, 49] i) ++ ((putL [49] c ++ putL [53, 53] s) ++ putL [53, 52] (numT sd))) ++ (putL [51, 56] (numT q) ++ putL [52, 52] (numT p))) ++ (putL [53, 48, 48, 49] (numT al) ++ putL [53, 48, 48, 50] (numT st))) ++ putL [53, 48, 48, 51] (numT en)) ++ putL [53, 48, 48, 53] (numT sh)) = mk ((((((([51, 53] ++ 61 :: ((wordT k).data.toList ++ [1])) ++ ([49, 49] ++ 61 :: ((i).data.toList ++ [1]))) ++ ((([49] ++ 61 :: ((c).data.toList ++ [1])) ++ ([53, 53] ++ 61 :: ((s).data.toList ++ [1]))) ++ ([53, 52] ++ 61 :: ((numT sd).data.toList ++ [1])))) ++ (([51, 56] ++ 61 :: ((numT q).data.toList ++ [1])) ++ ([52, 52] ++ 61 :: ((numT p).data.toList ++ [1])))) ++ (([53, 48, 48, 49] ++ 61 :: ((numT al).data.toList ++ [1])) ++ ([53, 48, 48, 50] ++ 61 :: ((numT st).data.toList ++ [1])))) ++ ([53, 48, 48, 51] ++ 61 :: ((numT en).data.toList ++ [1]))) ++ ([53, 48, 48, 53] ++ 61 :: ((numT sh).data.toList ++ [1])))) := by
    show _ = _
    apply bytes_ext8
    simp [mk, putL]
  obtain ⟨p0, hp0⟩ : ∃ pp, putL [51, 53] (wordT k) = pp := ⟨_, rfl⟩
  rw [hp0] at C0 HOUT S0
  obtain ⟨p1, hp1⟩ : ∃ pp, putL [49, 49] i = pp := ⟨_, rfl⟩
  rw [hp1] at C1 HOUT S1
  obtain ⟨p2, hp2⟩ : ∃ pp, putL [49] c = pp := ⟨_, rfl⟩
  rw [hp2] at C2 HOUT S2
  obtain ⟨p3, hp3⟩ : ∃ pp, putL [53, 53] s = pp := ⟨_, rfl⟩
  rw [hp3] at C3 HOUT S3
  obtain ⟨p4, hp4⟩ : ∃ pp, putL [53, 52] (numT sd) = pp := ⟨_, rfl⟩
  rw [hp4] at C4 HOUT S4
  obtain ⟨p5, hp5⟩ : ∃ pp, putL [51, 56] (numT q) = pp := ⟨_, rfl⟩
  rw [hp5] at C5 HOUT S5
  obtain ⟨p6, hp6⟩ : ∃ pp, putL [52, 52] (numT p) = pp := ⟨_, rfl⟩
  rw [hp6] at C6 HOUT S6
  obtain ⟨p7, hp7⟩ : ∃ pp, putL [53, 48, 48, 49] (numT al) = pp := ⟨_, rfl⟩
  rw [hp7] at C7 HOUT S7
  obtain ⟨p8, hp8⟩ : ∃ pp, putL [53, 48, 48, 50] (numT st) = pp := ⟨_, rfl⟩
  rw [hp8] at C8 HOUT S8
  obtain ⟨p9, hp9⟩ : ∃ pp, putL [53, 48, 48, 51] (numT en) = pp := ⟨_, rfl⟩
  rw [hp9] at C9 HOUT S9
  obtain ⟨p10, hp10⟩ : ∃ pp, putL [53, 48, 48, 53] (numT sh) = pp := ⟨_, rfl⟩
  rw [hp10] at C10 HOUT S10
  rw [← HOUT.out]
  clear HOUT hp0 hp1 hp2 hp3 hp4 hp5 hp6 hp7 hp8 hp9 hp10
  have Jq0 := fun w => join_run p0 p1 (by omega) w
  have Zq0 : (p0 ++ p1).size = p0.size + p1.size := ByteArray.size_append
  obtain ⟨q0, hq0⟩ : ∃ qq, p0 ++ p1 = qq := ⟨_, rfl⟩
  rw [hq0] at Jq0 Zq0 ⊢
  have Jq1 := fun w => join_run p2 p3 (by omega) w
  have Zq1 : (p2 ++ p3).size = p2.size + p3.size := ByteArray.size_append
  obtain ⟨q1, hq1⟩ : ∃ qq, p2 ++ p3 = qq := ⟨_, rfl⟩
  rw [hq1] at Jq1 Zq1 ⊢
  have Jq2 := fun w => join_run q1 p4 (by omega) w
  have Zq2 : (q1 ++ p4).size = q1.size + p4.size := ByteArray.size_append
  obtain ⟨q2, hq2⟩ : ∃ qq, q1 ++ p4 = qq := ⟨_, rfl⟩
  rw [hq2] at Jq2 Zq2 ⊢
  have Jq3 := fun w => join_run q0 q2 (by omega) w
  have Zq3 : (q0 ++ q2).size = q0.size + q2.size := ByteArray.size_append
  obtain ⟨q3, hq3⟩ : ∃ qq, q0 ++ q2 = qq := ⟨_, rfl⟩
  rw [hq3] at Jq3 Zq3 ⊢
  have Jq4 := fun w => join_run p5 p6 (by omega) w
  have Zq4 : (p5 ++ p6).size = p5.size + p6.size := ByteArray.size_append
  obtain ⟨q4, hq4⟩ : ∃ qq, p5 ++ p6 = qq := ⟨_, rfl⟩
  rw [hq4] at Jq4 Zq4 ⊢
  have Jq5 := fun w => join_run q3 q4 (by omega) w
  have Zq5 : (q3 ++ q4).size = q3.size + q4.size := ByteArray.size_append
  obtain ⟨q5, hq5⟩ : ∃ qq, q3 ++ q4 = qq := ⟨_, rfl⟩
  rw [hq5] at Jq5 Zq5 ⊢
  have Jq6 := fun w => join_run p7 p8 (by omega) w
  have Zq6 : (p7 ++ p8).size = p7.size + p8.size := ByteArray.size_append
  obtain ⟨q6, hq6⟩ : ∃ qq, p7 ++ p8 = qq := ⟨_, rfl⟩
  rw [hq6] at Jq6 Zq6 ⊢
  have Jq7 := fun w => join_run q5 q6 (by omega) w
  have Zq7 : (q5 ++ q6).size = q5.size + q6.size := ByteArray.size_append
  obtain ⟨q7, hq7⟩ : ∃ qq, q5 ++ q6 = qq := ⟨_, rfl⟩
  rw [hq7] at Jq7 Zq7 ⊢
  have Jq8 := fun w => join_run q7 p9 (by omega) w
  have Zq8 : (q7 ++ p9).size = q7.size + p9.size := ByteArray.size_append
  obtain ⟨q8, hq8⟩ : ∃ qq, q7 ++ p9 = qq := ⟨_, rfl⟩
  rw [hq8] at Jq8 Zq8 ⊢
  have Jq9 := fun w => join_run q8 p10 (by omega) w
  have Zq9 : (q8 ++ p10).size = q8.size + p10.size := ByteArray.size_append
  obtain ⟨q9, hq9⟩ : ∃ qq, q8 ++ p10 = qq := ⟨_, rfl⟩
  rw [hq9] at Jq9 Zq9 ⊢
  have gk1 : (k == 1) = true := beq_iff_eq.2 e1
  have gk3 : (k == 3) = false := beq_false_of_ne (by omega)
  have ga2 : (al == 2) = false := beq_false_of_ne (by omega)
  have ga3 : (al == 3) = false := beq_false_of_ne (by omega)
  have ga4 : (al == 4) = true := beq_iff_eq.2 h0
  clear e1 h0
  clear hq0 Zq0 hq1 Zq1 hq2 Zq2 hq3 Zq3 hq4 Zq4 hq5 Zq5 hq6 Zq6 hq7 Zq7 hq8 Zq8 hq9 Zq9 S0 S1 S2 S3 S4 N4 S5 N5 S6 N6 S7 N7 S8 N8 S9 N9 S10 N10 hwd k1 k5
  clear zi zc zs zsd zq zp zal zst zen zsh
  generalize wordT k = wd at *
  obtain ⟨d0, d1, d2, d3, d4, d5, d6, d7, d8, d9, d10, d11, d12, d13⟩ := HT.out
  go_enter Tryz.func17, Tryz.ntmps17
  go_wp2_with fail
  go_region_held3 (fun w' => w'.cell? ⟨w.heap.size, 0, none⟩ = some (.int .i64 k) ∧ w'.cell? ⟨w.heap.size, 1, none⟩ = some (.string i) ∧ w'.cell? ⟨w.heap.size, 2, none⟩ = some (.string t) ∧ w'.cell? ⟨w.heap.size, 3, none⟩ = some (.string c) ∧ w'.cell? ⟨w.heap.size, 4, none⟩ = some (.string s) ∧ w'.cell? ⟨w.heap.size, 5, none⟩ = some (.int .i64 sd) ∧ w'.cell? ⟨w.heap.size, 6, none⟩ = some (.int .i64 q) ∧ w'.cell? ⟨w.heap.size, 7, none⟩ = some (.int .i64 p) ∧ w'.cell? ⟨w.heap.size, 8, none⟩ = some (.int .i64 al) ∧ w'.cell? ⟨w.heap.size, 9, none⟩ = some (.int .i64 st) ∧ w'.cell? ⟨w.heap.size, 10, none⟩ = some (.int .i64 en) ∧ w'.cell? ⟨w.heap.size, 11, none⟩ = some (.int .i64 ra) ∧ w'.cell? ⟨w.heap.size, 12, none⟩ = some (.int .i64 sh) ∧ w'.cell? ⟨w.heap.size, 13, none⟩ = some (.slice a n cap)) (go_keep) (first
    | (go_at_call 38; refine (WD _).mono ?_; rintro e' yw ⟨rfl, bw⟩; have Bw := below_of_drew bw; have Xw : Hid (AskAt yw w.heap.size k i t c s sd q p al st en ra sh (.slice a n cap)) := HT.out.still Bw HT.out.lt; obtain ⟨uw_0, uw_1, uw_2, uw_3, uw_4, uw_5, uw_6, uw_7, uw_8, uw_9, uw_10, uw_11, uw_12, uw_13⟩ := Xw.out; have HBw' : Hid (Below w.heap.size w yw) := HB0.out.trans (Bw.mono HB0.out.size))
    | (go_at_call_of 50 (Value.string ⟨#[51, 53]⟩); refine (C0 _).mono ?_; rintro e' y0 ⟨rfl, rfl⟩)
    | (go_at_call_of 50 (Value.string ⟨#[49, 49]⟩); refine (C1 _).mono ?_; rintro e' y1 ⟨rfl, rfl⟩))
  go_wp2_with fail
  go_region_held3 (fun w' => w'.cell? ⟨w.heap.size, 0, none⟩ = some (.int .i64 k) ∧ w'.cell? ⟨w.heap.size, 1, none⟩ = some (.string i) ∧ w'.cell? ⟨w.heap.size, 2, none⟩ = some (.string t) ∧ w'.cell? ⟨w.heap.size, 3, none⟩ = some (.string c) ∧ w'.cell? ⟨w.heap.size, 4, none⟩ = some (.string s) ∧ w'.cell? ⟨w.heap.size, 5, none⟩ = some (.int .i64 sd) ∧ w'.cell? ⟨w.heap.size, 6, none⟩ = some (.int .i64 q) ∧ w'.cell? ⟨w.heap.size, 7, none⟩ = some (.int .i64 p) ∧ w'.cell? ⟨w.heap.size, 8, none⟩ = some (.int .i64 al) ∧ w'.cell? ⟨w.heap.size, 9, none⟩ = some (.int .i64 st) ∧ w'.cell? ⟨w.heap.size, 10, none⟩ = some (.int .i64 en) ∧ w'.cell? ⟨w.heap.size, 11, none⟩ = some (.int .i64 ra) ∧ w'.cell? ⟨w.heap.size, 12, none⟩ = some (.int .i64 sh) ∧ w'.cell? ⟨w.heap.size, 13, none⟩ = some (.slice a n cap)) (go_keep) (first
    | (go_at_call_of 50 (Value.string ⟨#[49]⟩); refine (C2 _).mono ?_; rintro e' y2 ⟨rfl, rfl⟩)
    | (go_at_call_of 50 (Value.string ⟨#[53, 53]⟩); refine (C3 _).mono ?_; rintro e' y3 ⟨rfl, rfl⟩)
    | (go_at_call_of 51 (Value.string ⟨#[53, 52]⟩); refine (C4 _).mono ?_; rintro e' y4 ⟨rfl, b4⟩; have B4 := below_of_drew b4; have X4 : Hid (AskAt y4 w.heap.size k i t c s sd q p al st en ra sh (.slice a n cap)) := Xw.out.still B4 Xw.out.lt; obtain ⟨u4_0, u4_1, u4_2, u4_3, u4_4, u4_5, u4_6, u4_7, u4_8, u4_9, u4_10, u4_11, u4_12, u4_13⟩ := X4.out; have HB4' : Hid (Below w.heap.size w y4) := HBw'.out.trans (B4.mono HBw'.out.size)))
  go_wp2_with fail
  go_region_held3 (fun w' => w'.cell? ⟨w.heap.size, 0, none⟩ = some (.int .i64 k) ∧ w'.cell? ⟨w.heap.size, 1, none⟩ = some (.string i) ∧ w'.cell? ⟨w.heap.size, 2, none⟩ = some (.string t) ∧ w'.cell? ⟨w.heap.size, 3, none⟩ = some (.string c) ∧ w'.cell? ⟨w.heap.size, 4, none⟩ = some (.string s) ∧ w'.cell? ⟨w.heap.size, 5, none⟩ = some (.int .i64 sd) ∧ w'.cell? ⟨w.heap.size, 6, none⟩ = some (.int .i64 q) ∧ w'.cell? ⟨w.heap.size, 7, none⟩ = some (.int .i64 p) ∧ w'.cell? ⟨w.heap.size, 8, none⟩ = some (.int .i64 al) ∧ w'.cell? ⟨w.heap.size, 9, none⟩ = some (.int .i64 st) ∧ w'.cell? ⟨w.heap.size, 10, none⟩ = some (.int .i64 en) ∧ w'.cell? ⟨w.heap.size, 11, none⟩ = some (.int .i64 ra) ∧ w'.cell? ⟨w.heap.size, 12, none⟩ = some (.int .i64 sh) ∧ w'.cell? ⟨w.heap.size, 13, none⟩ = some (.slice a n cap)) (go_keep) (first
    | (go_at_call_of 51 (Value.string ⟨#[51, 56]⟩); refine (C5 _).mono ?_; rintro e' y5 ⟨rfl, b5⟩; have B5 := below_of_drew b5; have X5 : Hid (AskAt y5 w.heap.size k i t c s sd q p al st en ra sh (.slice a n cap)) := X4.out.still B5 X4.out.lt; obtain ⟨u5_0, u5_1, u5_2, u5_3, u5_4, u5_5, u5_6, u5_7, u5_8, u5_9, u5_10, u5_11, u5_12, u5_13⟩ := X5.out; have HB5' : Hid (Below w.heap.size w y5) := HB4'.out.trans (B5.mono HB4'.out.size))
    | (go_at_call_of 51 (Value.string ⟨#[52, 52]⟩); refine (C6 _).mono ?_; rintro e' y6 ⟨rfl, b6⟩; have B6 := b6; have X6 : Hid (AskAt y6 w.heap.size k i t c s sd q p al st en ra sh (.slice a n cap)) := X5.out.still B6 X5.out.lt; obtain ⟨u6_0, u6_1, u6_2, u6_3, u6_4, u6_5, u6_6, u6_7, u6_8, u6_9, u6_10, u6_11, u6_12, u6_13⟩ := X6.out; have HB6' : Hid (Below w.heap.size w y6) := HB5'.out.trans (B6.mono HB5'.out.size)))
  go_wp2_with fail
  go_region_held3 (fun w' => w'.cell? ⟨w.heap.size, 0, none⟩ = some (.int .i64 k) ∧ w'.cell? ⟨w.heap.size, 1, none⟩ = some (.string i) ∧ w'.cell? ⟨w.heap.size, 2, none⟩ = some (.string t) ∧ w'.cell? ⟨w.heap.size, 3, none⟩ = some (.string c) ∧ w'.cell? ⟨w.heap.size, 4, none⟩ = some (.string s) ∧ w'.cell? ⟨w.heap.size, 5, none⟩ = some (.int .i64 sd) ∧ w'.cell? ⟨w.heap.size, 6, none⟩ = some (.int .i64 q) ∧ w'.cell? ⟨w.heap.size, 7, none⟩ = some (.int .i64 p) ∧ w'.cell? ⟨w.heap.size, 8, none⟩ = some (.int .i64 al) ∧ w'.cell? ⟨w.heap.size, 9, none⟩ = some (.int .i64 st) ∧ w'.cell? ⟨w.heap.size, 10, none⟩ = some (.int .i64 en) ∧ w'.cell? ⟨w.heap.size, 11, none⟩ = some (.int .i64 ra) ∧ w'.cell? ⟨w.heap.size, 12, none⟩ = some (.int .i64 sh) ∧ w'.cell? ⟨w.heap.size, 13, none⟩ = some (.slice a n cap)) (go_keep) (first
    | (go_at_call_of 51 (Value.string ⟨#[53, 48, 48, 49]⟩); refine (C7 _).mono ?_; rintro e' y7 ⟨rfl, b7⟩; have B7 := below_of_drew b7; have X7 : Hid (AskAt y7 w.heap.size k i t c s sd q p al st en ra sh (.slice a n cap)) := X6.out.still B7 X6.out.lt; obtain ⟨u7_0, u7_1, u7_2, u7_3, u7_4, u7_5, u7_6, u7_7, u7_8, u7_9, u7_10, u7_11, u7_12, u7_13⟩ := X7.out; have HB7' : Hid (Below w.heap.size w y7) := HB6'.out.trans (B7.mono HB6'.out.size))
    | (go_at_call_of 51 (Value.string ⟨#[53, 48, 48, 50]⟩); refine (C8 _).mono ?_; rintro e' y8 ⟨rfl, b8⟩; have B8 := b8; have X8 : Hid (AskAt y8 w.heap.size k i t c s sd q p al st en ra sh (.slice a n cap)) := X7.out.still B8 X7.out.lt; obtain ⟨u8_0, u8_1, u8_2, u8_3, u8_4, u8_5, u8_6, u8_7, u8_8, u8_9, u8_10, u8_11, u8_12, u8_13⟩ := X8.out; have HB8' : Hid (Below w.heap.size w y8) := HB7'.out.trans (B8.mono HB7'.out.size)))
  go_wp2_with fail
  refine (C9 _).mono ?_
  rintro e' y9 ⟨rfl, b9⟩
  have B9 := b9
  have X9 : Hid (AskAt y9 w.heap.size k i t c s sd q p al st en ra sh (.slice a n cap)) := X8.out.still B9 X8.out.lt
  obtain ⟨u9_0, u9_1, u9_2, u9_3, u9_4, u9_5, u9_6, u9_7, u9_8, u9_9, u9_10, u9_11, u9_12, u9_13⟩ := X9.out
  have HB9' : Hid (Below w.heap.size w y9) := HB8'.out.trans (B9.mono HB8'.out.size)
  go_wp2_with fail
  refine (C10 _).mono ?_
  rintro e' y10 ⟨rfl, b10⟩
  have B10 := b10
  have X10 : Hid (AskAt y10 w.heap.size k i t c s sd q p al st en ra sh (.slice a n cap)) := X9.out.still B10 X9.out.lt
  obtain ⟨u10_0, u10_1, u10_2, u10_3, u10_4, u10_5, u10_6, u10_7, u10_8, u10_9, u10_10, u10_11, u10_12, u10_13⟩ := X10.out
  have HB10' : Hid (Below w.heap.size w y10) := HB9'.out.trans (B10.mono HB9'.out.size)
  go_wp2_with fail
  go_ret
  exact ⟨rfl, HB10'.out⟩
end Go.Proofs.YtepkmbpadhfbmaaGreatDoor
