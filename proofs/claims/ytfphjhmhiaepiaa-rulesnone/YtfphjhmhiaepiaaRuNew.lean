/-
  Rules in memory; contract of rules' New.
-/
import Derived.Test.YtfphjhmhiaepiaaRuCopy
import Derived.Test.YtfphjhmhiaepiaaRuPlacesA
import Derived.Test.YtfphjhmhiaepiaaRuPlacesS
import Derived.Test.YtfphjhmhiaepiaaRuPlacesV
import Derived.Deep.RegionHeld3
namespace Go.Proofs.Ytfphjhmhiaepiaa.RU
open Go.ChangeShapes Go.WideShapes Go.ChangeAt Go.RowKit Go.Lib SM

/-- Rules at block p, all of them in memory from B on: the setup that they keep, and the maps of its names. -/
structure RulAt (B : Nat) (w : World) (p : Nat) (x1 x2 x3 : Option Addr) (y1 y2 y3 m1 m2 m3 : Nat) (s : Stp) : Prop where
  at9 : SetAt w p x1 x2 x3 y1 y2 y3 s
  e9 : w.cell? ⟨p, 9, none⟩ = some (.map (some m1))
  e10 : w.cell? ⟨p, 10, none⟩ = some (.map (some m2))
  e11 : w.cell? ⟨p, 11, none⟩ = some (.map (some m3))
  own : SetOwn w B x1 x2 x3 y1 y2 y3 s
  ma : SMap w m1 s.nA (lastOf (fun i => (s.A i).1) s.nA)
  ms : SMap w m2 s.nS (lastOf (fun i => (s.S i).1) s.nS)
  mv : SMap w m3 s.nV (lastOf (fun i => (s.V i).1) s.nV)
  lp : B ≤ p
  l1 : B ≤ m1
  l2 : B ≤ m2
  l3 : B ≤ m3
theorem RulAt.kept {B : Nat} {w w' : World} {p : Nat} {x1 x2 x3 : Option Addr} {y1 y2 y3 m1 m2 m3 : Nat} {s : Stp} {S : Nat → Prop} (h : RulAt B w p x1 x2 x3 y1 y2 y3 m1 m2 m3 s) (k : But S w w') (hS : ∀ i, B ≤ i → ¬ S i) : RulAt B w' p x1 x2 x3 y1 y2 y3 m1 m2 m3 s := by
  have hp := hS p h.lp
  have lt := h.at9.lt
  refine ⟨⟨(k.cell lt hp).trans h.at9.d0, (k.cell lt hp).trans h.at9.d1, (k.cell lt hp).trans h.at9.d2, (k.cell lt hp).trans h.at9.d3, (k.cell lt hp).trans h.at9.d4, (k.cell lt hp).trans h.at9.d5, (k.cell lt hp).trans h.at9.d6, (k.cell lt hp).trans h.at9.d7, (k.cell lt hp).trans h.at9.d8⟩, (k.cell lt hp).trans h.e9, (k.cell lt hp).trans h.e10, (k.cell lt hp).trans h.e11, h.own.kept k hS, h.ma.kept k (hS _ h.l1), h.ms.kept k (hS _ h.l2), h.mv.kept k (hS _ h.l3), h.lp, h.l1, h.l2, h.l3⟩
theorem RulAt.still {B : Nat} {w w' : World} {p : Nat} {x1 x2 x3 : Option Addr} {y1 y2 y3 m1 m2 m3 : Nat} {s : Stp} (h : RulAt B w p x1 x2 x3 y1 y2 y3 m1 m2 m3 s) (k : Below w.heap.size w w') : RulAt B w' p x1 x2 x3 y1 y2 y3 m1 m2 m3 s := h.kept (S := fun _ => False) (But.of_below k) (fun _ _ => id)
theorem SetOwn.lower {w : World} {B C : Nat} {a1 a2 a3 : Option Addr} {c1 c2 c3 : Nat} {s : Stp} (h : SetOwn w B a1 a2 a3 c1 c2 c3 s) (hB : C ≤ B) : SetOwn w C a1 a2 a3 c1 c2 c3 s := ⟨own_base h.oa hB, own_base h.os hB, own_base h.ov hB⟩
/-- The names of a setup have a bounded size. -/
def Szs (s : Stp) : Prop := (∀ i, i < s.nA → (s.A i).1.size ≤ 1000000) ∧ (∀ i, i < s.nS → (s.S i).1.size ≤ 1000000) ∧ (∀ i, i < s.nV → (s.V i).1.size ≤ 1000000)
theorem right_nms {s : Stp} (h : rightB s = true) : nmsB s = true := by unfold rightB at h; rw [Bool.and_eq_true] at h; exact h.1
theorem nms_get {s : Stp} (h : nmsB s = true) : namesB (fun i => (s.A i).1) s.nA 16 = true ∧ namesB (fun i => (s.S i).1) s.nS 16 = true ∧ namesB (fun i => (s.V i).1) s.nV 8 = true := by
  unfold nmsB at h
  rw [Bool.and_eq_true, Bool.and_eq_true] at h
  exact h
theorem right_cnt {s : Stp} (h : rightB s = true) : Cnt s := by
  obtain ⟨h1, h2, h3⟩ := nms_get (right_nms h)
  have k1 := (names_get h1).1
  have k2 := (names_get h2).1
  have k3 := (names_get h3).1
  exact ⟨by omega, by omega, by omega⟩
set_option maxHeartbeats 2000000 in
theorem new_bad {w : World} {a1 a2 a3 : Option Addr} {c1 c2 c3 : Nat} {s : Stp} (h : SetIn w a1 a2 a3 c1 c2 c3 s) (hr : rightB s = false) :
    Calls Try.prog 9 #[.agg #[.slice a1 s.nA c1, .slice a2 s.nS c2, .slice a3 s.nV c3, .int .i64 (s.P 3), .int .i64 (s.P 4), .int .i64 (s.P 5), .int .i64 (s.P 6), .int .i64 (s.P 7), .int .i64 (s.P 8)]] w fun e w' => e = .returned (.tuple #[.pointer none, .int .i64 150]) ∧ Below w.heap.size w w' := by
  have B0 : Below w.heap.size w (w.alloc (.cells #[.slice a1 s.nA c1, .slice a2 s.nS c2, .slice a3 s.nV c3, .int .i64 (s.P 3), .int .i64 (s.P 4), .int .i64 (s.P 5), .int .i64 (s.P 6), .int .i64 (s.P 7), .int .i64 (s.P 8)] 26)) := (Below.refl _ _).alloc (Nat.le_refl _) _
  have HB0 : Hid (Below w.heap.size w (w.alloc (.cells #[.slice a1 s.nA c1, .slice a2 s.nS c2, .slice a3 s.nV c3, .int .i64 (s.P 3), .int .i64 (s.P 4), .int .i64 (s.P 5), .int .i64 (s.P 6), .int .i64 (s.P 7), .int .i64 (s.P 8)] 26))) := B0
  have F := check_any (h.below B0 (Nat.le_refl _))
  rw [hr, show chkE false = 150 from rfl] at F
  clear h hr B0
  go_enter Try.func9, Try.ntmps9
  go_wp2_with fail
  refine F.mono ?_
  rintro e w1 ⟨rfl, hb⟩
  go_wp2_with fail
  go_ret2
  exact ⟨rfl, HB0.out.trans (hb.mono HB0.out.size)⟩
set_option maxRecDepth 100000 in
set_option maxHeartbeats 8000000 in
theorem new_good {w : World} {a1 a2 a3 : Option Addr} {c1 c2 c3 : Nat} {s : Stp} (h : SetIn w a1 a2 a3 c1 c2 c3 s) (hr : rightB s = true) (hz : Szs s) :
    Calls Try.prog 9 #[.agg #[.slice a1 s.nA c1, .slice a2 s.nS c2, .slice a3 s.nV c3, .int .i64 (s.P 3), .int .i64 (s.P 4), .int .i64 (s.P 5), .int .i64 (s.P 6), .int .i64 (s.P 7), .int .i64 (s.P 8)]] w fun e w' => ∃ p x1 x2 x3 y1 y2 y3 m1 m2 m3, e = .returned (.tuple #[.pointer (some ⟨p, 0, none⟩), .int .i64 0]) ∧ RulAt w.heap.size w' p x1 x2 x3 y1 y2 y3 m1 m2 m3 s ∧ Below w.heap.size w w' := by
  have B0 : Below w.heap.size w (w.alloc (.cells #[.slice a1 s.nA c1, .slice a2 s.nS c2, .slice a3 s.nV c3, .int .i64 (s.P 3), .int .i64 (s.P 4), .int .i64 (s.P 5), .int .i64 (s.P 6), .int .i64 (s.P 7), .int .i64 (s.P 8)] 26)) := (Below.refl _ _).alloc (Nat.le_refl _) _
  have HB0 : Hid (Below w.heap.size w (w.alloc (.cells #[.slice a1 s.nA c1, .slice a2 s.nS c2, .slice a3 s.nV c3, .int .i64 (s.P 3), .int .i64 (s.P 4), .int .i64 (s.P 5), .int .i64 (s.P 6), .int .i64 (s.P 7), .int .i64 (s.P 8)] 26))) := B0
  have A0 : Hid (SetAt (w.alloc (.cells #[.slice a1 s.nA c1, .slice a2 s.nS c2, .slice a3 s.nV c3, .int .i64 (s.P 3), .int .i64 (s.P 4), .int .i64 (s.P 5), .int .i64 (s.P 6), .int .i64 (s.P 7), .int .i64 (s.P 8)] 26)) w.heap.size a1 a2 a3 c1 c2 c3 s) := SetAt.box w a1 a2 a3 c1 c2 c3 s _
  have F := check_any (h.below B0 (Nat.le_refl _))
  rw [hr, show chkE true = 0 from rfl] at F
  have hc := right_cnt hr
  have G0 : ∀ W, Below w.heap.size w W → Calls Try.prog 23 #[.agg #[.slice a1 s.nA c1, .slice a2 s.nS c2, .slice a3 s.nV c3, .int .i64 (s.P 3), .int .i64 (s.P 4), .int .i64 (s.P 5), .int .i64 (s.P 6), .int .i64 (s.P 7), .int .i64 (s.P 8)]] W fun e w' => ∃ x1 x2 x3 y1 y2 y3, e = .returned (.agg #[.slice x1 s.nA y1, .slice x2 s.nS y2, .slice x3 s.nV y3, .int .i64 (s.P 3), .int .i64 (s.P 4), .int .i64 (s.P 5), .int .i64 (s.P 6), .int .i64 (s.P 7), .int .i64 (s.P 8)]) ∧ SetOwn w' W.heap.size x1 x2 x3 y1 y2 y3 s ∧ Below W.heap.size W w' := fun W hW => copied_any (h.below hW (Nat.le_refl _)) hc
  have G1 : ∀ W, Below w.heap.size w W → Calls Try.prog 24 #[.slice a1 s.nA c1, .func (.func 25) #[] #[]] W fun e w' => e = .returned (.map (some W.heap.size)) ∧ SMap w' W.heap.size s.nA (lastOf (fun i => (s.A i).1) s.nA) ∧ Below W.heap.size W w' := fun W hW => placesA_any (h.ra.below hW (Nat.le_refl _)) (by have := hc.1.2; omega) hz.1
  have G2 : ∀ W, Below w.heap.size w W → Calls Try.prog 26 #[.slice a2 s.nS c2, .func (.func 27) #[] #[]] W fun e w' => e = .returned (.map (some W.heap.size)) ∧ SMap w' W.heap.size s.nS (lastOf (fun i => (s.S i).1) s.nS) ∧ Below W.heap.size W w' := fun W hW => placesS_any (h.rs.below hW (Nat.le_refl _)) (by have := hc.2.1.2; omega) hz.2.1
  have G3 : ∀ W, Below w.heap.size w W → Calls Try.prog 28 #[.slice a3 s.nV c3, .func (.func 29) #[] #[]] W fun e w' => e = .returned (.map (some W.heap.size)) ∧ SMap w' W.heap.size s.nV (lastOf (fun i => (s.V i).1) s.nV) ∧ Below W.heap.size W w' := fun W hW => placesV_any (h.rv.below hW (Nat.le_refl _)) (by have := hc.2.2.2; omega) hz.2.2
  clear h hr B0 hc hz
  go_enter Try.func9, Try.ntmps9
  go_wp2_with fail
  refine F.mono ?_
  rintro e w1 ⟨rfl, hb⟩
  have HB1 : Hid (Below w.heap.size w w1) := HB0.out.trans (hb.mono HB0.out.size)
  have A1 : Hid (SetAt w1 w.heap.size a1 a2 a3 c1 c2 c3 s) := A0.out.still hb A0.out.lt
  obtain ⟨p1_0, p1_1, p1_2, p1_3, p1_4, p1_5, p1_6, p1_7, p1_8⟩ := A1.out
  clear hb F HB0 A0
  go_wp2_with fail
  go_region_held3 (fun w' => w'.cell? ⟨w.heap.size, 0, none⟩ = some (.slice a1 s.nA c1) ∧ w'.cell? ⟨w.heap.size, 1, none⟩ = some (.slice a2 s.nS c2) ∧ w'.cell? ⟨w.heap.size, 2, none⟩ = some (.slice a3 s.nV c3) ∧ w'.cell? ⟨w.heap.size, 3, none⟩ = some (.int .i64 (s.P 3)) ∧ w'.cell? ⟨w.heap.size, 4, none⟩ = some (.int .i64 (s.P 4)) ∧ w'.cell? ⟨w.heap.size, 5, none⟩ = some (.int .i64 (s.P 5)) ∧ w'.cell? ⟨w.heap.size, 6, none⟩ = some (.int .i64 (s.P 6)) ∧ w'.cell? ⟨w.heap.size, 7, none⟩ = some (.int .i64 (s.P 7)) ∧ w'.cell? ⟨w.heap.size, 8, none⟩ = some (.int .i64 (s.P 8))) (go_keep) (first
    | (go_at_call 23; refine (G0 _ (below_more HB1.out 1)).mono ?_; rintro e w2 ⟨x1, x2, x3, y1, y2, y3, rfl, so, b2⟩; have HS : Hid (w.heap.size ≤ w1.heap.size) := HB1.out.size; have B2 : Below w1.heap.size w1 w2 := (Below.refl _ w1).drew.trans b2; have SO2 : Hid (SetOwn w2 w1.heap.size x1 x2 x3 y1 y2 y3 s) := so; have HB2 : Hid (Below w.heap.size w w2) := HB1.out.trans (B2.mono HB1.out.size); have A2 : Hid (SetAt w2 w.heap.size a1 a2 a3 c1 c2 c3 s) := A1.out.still B2 A1.out.lt; obtain ⟨p2_0, p2_1, p2_2, p2_3, p2_4, p2_5, p2_6, p2_7, p2_8⟩ := A2.out; clear so b2 B2)
    | (go_at_call 24; refine (G1 _ HB2.out).mono ?_; rintro e w3 ⟨rfl, sm, b3⟩; have MA3 : Hid (SMap w3 w2.heap.size s.nA (lastOf (fun i => (s.A i).1) s.nA)) := sm; have SO3 : Hid (SetOwn w3 w1.heap.size x1 x2 x3 y1 y2 y3 s) := SO2.out.still b3; have HB3 : Hid (Below w.heap.size w w3) := HB2.out.trans (b3.mono HB2.out.size); have A3 : Hid (SetAt w3 w.heap.size a1 a2 a3 c1 c2 c3 s) := A2.out.still b3 A2.out.lt; obtain ⟨p3_0, p3_1, p3_2, p3_3, p3_4, p3_5, p3_6, p3_7, p3_8⟩ := A3.out; have S3 : Hid (w2.heap.size ≤ w3.heap.size) := b3.size; clear sm b3)
    | (go_at_call 26; refine (G2 _ HB3.out).mono ?_; rintro e w4 ⟨rfl, sm, b4⟩; have MS4 : Hid (SMap w4 w3.heap.size s.nS (lastOf (fun i => (s.S i).1) s.nS)) := sm; have MA4 : Hid (SMap w4 w2.heap.size s.nA (lastOf (fun i => (s.A i).1) s.nA)) := MA3.out.still b4 MA3.out.lt; have SO4 : Hid (SetOwn w4 w1.heap.size x1 x2 x3 y1 y2 y3 s) := SO3.out.still b4; have HB4 : Hid (Below w.heap.size w w4) := HB3.out.trans (b4.mono HB3.out.size); have A4 : Hid (SetAt w4 w.heap.size a1 a2 a3 c1 c2 c3 s) := A3.out.still b4 A3.out.lt; obtain ⟨p4_0, p4_1, p4_2, p4_3, p4_4, p4_5, p4_6, p4_7, p4_8⟩ := A4.out; have S4 : Hid (w3.heap.size ≤ w4.heap.size) := b4.size; clear sm b4)
    | (go_at_call 28; refine (G3 _ HB4.out).mono ?_; rintro e w5 ⟨rfl, sm, b5⟩; have MV5 : Hid (SMap w5 w4.heap.size s.nV (lastOf (fun i => (s.V i).1) s.nV)) := sm; have MS5 : Hid (SMap w5 w3.heap.size s.nS (lastOf (fun i => (s.S i).1) s.nS)) := MS4.out.still b5 MS4.out.lt; have MA5 : Hid (SMap w5 w2.heap.size s.nA (lastOf (fun i => (s.A i).1) s.nA)) := MA4.out.still b5 MA4.out.lt; have SO5 : Hid (SetOwn w5 w1.heap.size x1 x2 x3 y1 y2 y3 s) := SO4.out.still b5; have HB5 : Hid (Below w.heap.size w w5) := HB4.out.trans (b5.mono HB4.out.size); have A5 : Hid (SetAt w5 w.heap.size a1 a2 a3 c1 c2 c3 s) := A4.out.still b5 A4.out.lt; obtain ⟨p5_0, p5_1, p5_2, p5_3, p5_4, p5_5, p5_6, p5_7, p5_8⟩ := A5.out; have S5 : Hid (w4.heap.size ≤ w5.heap.size) := b5.size; clear sm b5))
  all_goals
    go_wp2_with fail
    go_ret2
    refine ⟨w5.heap.size, x1, x2, x3, y1, y2, y3, w2.heap.size, w3.heap.size, w4.heap.size, rfl, ?_, HB5.out.alloc HB5.out.size _⟩
    have BA : ∀ o : Obj, Below w5.heap.size w5 (w5.alloc o) := fun o => (Below.refl _ _).alloc (Nat.le_refl _) _
    refine ⟨⟨by simp, by simp, by simp, by simp, by simp, by simp, by simp, by simp, by simp⟩, by simp, by simp, by simp, (SO5.out.still (BA _)).lower HB1.out.size, MA5.out.still (BA _) MA5.out.lt, MS5.out.still (BA _) MS5.out.lt, MV5.out.still (BA _) MV5.out.lt, HB5.out.size, HB2.out.size, HB3.out.size, HB4.out.size⟩
end Go.Proofs.Ytfphjhmhiaepiaa.RU
