/-
  The contract of slicer's out: how much should be out of an order that has begun.
-/
import Derived.Test.YtdacfnodihannaaGreatSlStep
namespace Go.Proofs.YtdacfnodihannaaGreat.SL
open Go.ChangeShapes Go.WideShapes Go.ChangeAt Go.RowKit Go.Lib

theorem calls_in {f : FuncId} {args : Array Value} {w w1 : World} {v : Ending} (b : Below w.heap.size w w1) (h : Calls Tryz.prog f args w1 fun e w' => e = v ∧ Below w1.heap.size w1 w') : Calls Tryz.prog f args w1 fun e w' => e = v ∧ Below w.heap.size w w' :=
  h.mono fun _ _ ⟨e, k⟩ => ⟨e, b.trans (k.mono b.size)⟩
set_option maxRecDepth 100000 in
set_option maxHeartbeats 8000000 in
theorem out_any (x : Sl) (G : Good x) (v : Value) (w : World) (hr : x.al = 2 → Row w v x.z.length fun i => .int .i64 (x.z.getD i 0)) (nw vol d : Int) (ha : askB x nw vol d = true) :
    Calls Tryz.prog 25 #[bV x, alV x v, .int .i64 nw, .int .i64 (vol - x.fr), .int .i64 d] w fun e w' => e = .returned (.tuple #[.int .i64 (outN x nw vol d), .int .i64 0]) ∧ Below w.heap.size w w' := by
  obtain ⟨⟨n0, n1⟩, ⟨v0, v1⟩, d0, d1⟩ := ask_of ha
  have F := G.fine n0 n1
  by_cases a2 : x.al = 2
  · skip
    have e1 : alV x v = .iface 65 (.agg #[v]) := by unfold alV; rw [if_pos a2]
    have hb : bV x = Value.agg #[.int .i64 x.k, .string x.i, .string x.t, .string x.c, .string x.s, .int .i64 x.sd, .int .i64 x.q, .int .i64 x.p, .int .i64 2, .int .i64 x.st, .int .i64 x.en, .int .i64 0, .int .i64 0, .slice none 0 0] := by show Value.agg #[.int .i64 x.k, .string x.i, .string x.t, .string x.c, .string x.s, .int .i64 x.sd, .int .i64 x.q, .int .i64 x.p, .int .i64 x.al, .int .i64 x.st, .int .i64 x.en, .int .i64 0, .int .i64 0, .slice none 0 0] = _; rw [a2]
    have e2 : targetOf (fun i => x.z.getD i 0) x.z.length x.q (PA.gone x.st x.en nw) (x.en - x.st) = outN x nw vol d := by unfold outN; rw [if_pos a2]
    have T := fun w1 (b : Below w.heap.size w w1) => calls_in b (PA.vwap_good x.q x.st x.en nw (fun i => x.z.getD i 0) x.z.length v w1 ((hr a2).below b) (G.curve a2) F _ e2)
    obtain ⟨a, cap, rfl, _⟩ := id (hr a2)
    rw [e1, hb]
    have A0 := as_along_partOf a x.z.length cap
    have A1 := as_along_along a x.z.length cap
    have A2 := as_along_iceberg a x.z.length cap
    generalize outN x nw vol d = r at *
    generalize vol - x.fr = tr at *
    clear hr G ha e1 hb e2 F
    go_enter Tryz.func25, Tryz.ntmps25
    go_wp2_with fail
    refine (T _ ((((Below.refl _ w).alloc (Nat.le_refl _) _).alloc (by simp) _).alloc (by simp; omega) _)).mono ?_
    rintro e w1 ⟨rfl, b1⟩
    go_wp2_with fail
    go_ret2
    exact ⟨rfl, b1⟩
  by_cases a3 : x.al = 3
  · skip
    have e1 : alV x v = .iface 67 (.agg #[.int .i64 x.ra]) := by unfold alV; rw [if_neg a2, if_pos a3]
    have hb : bV x = Value.agg #[.int .i64 x.k, .string x.i, .string x.t, .string x.c, .string x.s, .int .i64 x.sd, .int .i64 x.q, .int .i64 x.p, .int .i64 3, .int .i64 x.st, .int .i64 x.en, .int .i64 0, .int .i64 0, .slice none 0 0] := by show Value.agg #[.int .i64 x.k, .string x.i, .string x.t, .string x.c, .string x.s, .int .i64 x.sd, .int .i64 x.q, .int .i64 x.p, .int .i64 x.al, .int .i64 x.st, .int .i64 x.en, .int .i64 0, .int .i64 0, .slice none 0 0] = _; rw [a3]
    have e2 : FL.tgN x.q x.ra (vol - x.fr) = outN x nw vol d := by unfold outN; rw [if_neg a2, if_pos a3]
    have e3 : FL.tgE x.q x.ra (vol - x.fr) = 0 := by unfold FL.tgE; rw [FL.of_fine (G.flow a3 v0 v1)]; rfl
    have T := fun w1 (b : Below w.heap.size w w1) => calls_in b (FL.target_any x.q x.ra (vol - x.fr) w1)
    rw [e2, e3] at T
    clear e3
    rw [e1, hb]
    have A0 := as_partOf_partOf x.ra
    have A1 := as_partOf_along x.ra
    have A2 := as_partOf_iceberg x.ra
    generalize outN x nw vol d = r at *
    generalize vol - x.fr = tr at *
    clear hr G ha e1 hb e2 F
    go_enter Tryz.func25, Tryz.ntmps25
    go_wp2_with fail
    refine (T _ (((Below.refl _ w).alloc (Nat.le_refl _) _).alloc (by simp) _)).mono ?_
    rintro e w1 ⟨rfl, b1⟩
    go_wp2_with fail
    go_ret2
    exact ⟨rfl, b1⟩
  by_cases a4 : x.al = 4
  · skip
    have e1 : alV x v = .iface 69 (.agg #[.int .i64 x.sh]) := by unfold alV; rw [if_neg a2, if_neg a3, if_pos a4]
    have hb : bV x = Value.agg #[.int .i64 x.k, .string x.i, .string x.t, .string x.c, .string x.s, .int .i64 x.sd, .int .i64 x.q, .int .i64 x.p, .int .i64 4, .int .i64 x.st, .int .i64 x.en, .int .i64 0, .int .i64 0, .slice none 0 0] := by show Value.agg #[.int .i64 x.k, .string x.i, .string x.t, .string x.c, .string x.s, .int .i64 x.sd, .int .i64 x.q, .int .i64 x.p, .int .i64 x.al, .int .i64 x.st, .int .i64 x.en, .int .i64 0, .int .i64 0, .slice none 0 0] = _; rw [a4]
    have e2 : BE.tgN x.q x.sh d = outN x nw vol d := by unfold outN; rw [if_neg a2, if_neg a3, if_pos a4]
    have e3 : BE.tgE x.q x.sh d = 0 := by unfold BE.tgE; rw [G.berg a4 d0 d1]; rfl
    have T := fun w1 (b : Below w.heap.size w w1) => calls_in b (BE.target_any x.q x.sh d w1)
    rw [e2, e3] at T
    clear e3
    rw [e1, hb]
    have A0 := as_iceberg_partOf x.sh
    have A1 := as_iceberg_along x.sh
    have A2 := as_iceberg_iceberg x.sh
    generalize outN x nw vol d = r at *
    generalize vol - x.fr = tr at *
    clear hr G ha e1 hb e2 F
    go_enter Tryz.func25, Tryz.ntmps25
    go_wp2_with fail
    refine (T _ ((((Below.refl _ w).alloc (Nat.le_refl _) _).alloc (by simp) _).alloc (by simp; omega) _)).mono ?_
    rintro e w1 ⟨rfl, b1⟩
    go_wp2_with fail
    go_ret2
    exact ⟨rfl, b1⟩
  have a1 : x.al = 1 := by rcases G.al with h | h | h | h <;> omega
  have e1 : alV x v = .iface 71 (.agg #[]) := by unfold alV; rw [if_neg a2, if_neg a3, if_neg a4]
  have hb : bV x = Value.agg #[.int .i64 x.k, .string x.i, .string x.t, .string x.c, .string x.s, .int .i64 x.sd, .int .i64 x.q, .int .i64 x.p, .int .i64 1, .int .i64 x.st, .int .i64 x.en, .int .i64 0, .int .i64 0, .slice none 0 0] := by show Value.agg #[.int .i64 x.k, .string x.i, .string x.t, .string x.c, .string x.s, .int .i64 x.sd, .int .i64 x.q, .int .i64 x.p, .int .i64 x.al, .int .i64 x.st, .int .i64 x.en, .int .i64 0, .int .i64 0, .slice none 0 0] = _; rw [a1]
  have e2 : x.q * PA.gone x.st x.en nw / (x.en - x.st) = outN x nw vol d := by unfold outN; rw [if_neg a2, if_neg a3, if_neg a4]
  have T := fun w1 (b : Below w.heap.size w w1) => calls_in b (PA.twap_good x.q x.st x.en nw w1 F _ e2)
  rw [e1, hb]
  have A0 := as_evenly_partOf
  have A1 := as_evenly_along
  have A2 := as_evenly_iceberg
  generalize outN x nw vol d = r at *
  generalize vol - x.fr = tr at *
  clear hr G ha e1 hb e2 F
  go_enter Tryz.func25, Tryz.ntmps25
  go_wp2_with fail
  refine (T _ (((Below.refl _ w).alloc (Nat.le_refl _) _).alloc (by simp) _)).mono ?_
  rintro e w1 ⟨rfl, b1⟩
  go_wp2_with fail
  go_ret2
  exact ⟨rfl, b1⟩
end Go.Proofs.YtdacfnodihannaaGreat.SL
