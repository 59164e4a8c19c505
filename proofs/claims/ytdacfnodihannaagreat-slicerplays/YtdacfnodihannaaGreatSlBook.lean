/-
  A slicer in memory; contracts of slicer's within, made, without, algorithm.
-/
import Derived.Lib.SliceRun
import Derived.Test.YtdacfnodihannaaGreatSlMath
import Derived.Test.YtdacfnodihannaaGreatOwnRows
namespace Go.Proofs.YtdacfnodihannaaGreat.SL
open Go.ChangeShapes Go.WideShapes Go.ChangeAt Go.RowKit Go.Lib

/-- The values of a list of numbers. -/
def valsZ (z : List Int) : List Value := vals (fun i => .int .i64 (z.getD i 0)) z.length
theorem valsZ_length (z : List Int) : (valsZ z).length = z.length := vals_length _ _
theorem row_of_ownZ {w : World} {base : Nat} {v : Value} {z : List Int} (h : w.ownsRow base 3 1 v z.length (valsZ z)) : Row w v z.length fun i => .int .i64 (z.getD i 0) :=
  row_of_own h _ (fun _ hi => vals_at _ hi)
theorem own_less {w : World} {base base' : Nat} {e : TypeId} {size : Nat} {v : Value} {n : Nat} {xs : List Value} (h : w.ownsRow base e size v n xs) (hb : base' ≤ base) : w.ownsRow base' e size v n xs := by
  refine ⟨h.1, ?_⟩
  rcases h.2 with h2 | ⟨g, cap, cur, e1, hg, rest⟩
  · exact .inl h2
  · exact .inr ⟨g, cap, cur, e1, Nat.le_trans hb hg, rest⟩
/-- What of an order its algorithm alone has, with its curve at v. -/
def alV (x : Sl) (v : Value) : Value :=
  if x.al = 2 then .iface 65 (.agg #[v])
  else if x.al = 3 then .iface 67 (.agg #[.int .i64 x.ra])
  else if x.al = 4 then .iface 69 (.agg #[.int .i64 x.sh])
  else .iface 71 (.agg #[])
/-- A slicer's cells, its algorithm's value being m. -/
def slF (x : Sl) (m : Value) : Nat → Value
  | 0 => .int .i64 x.k
  | 1 => .string x.i
  | 2 => .string x.t
  | 3 => .string x.c
  | 4 => .string x.s
  | 5 => .int .i64 x.sd
  | 6 => .int .i64 x.q
  | 7 => .int .i64 x.p
  | 8 => .int .i64 x.al
  | 9 => .int .i64 x.st
  | 10 => .int .i64 x.en
  | 11 => .int .i64 0
  | 12 => .int .i64 0
  | 13 => .slice none 0 0
  | 14 => m
  | _ => .int .i64 x.fr
/-- The order as it was handed in, its curve at v; without what its algorithm has; its cells. -/
abbrev oV (x : Sl) (v : Value) : Value := .agg #[.int .i64 x.k, .string x.i, .string x.t, .string x.c, .string x.s, .int .i64 x.sd, .int .i64 x.q, .int .i64 x.p, .int .i64 x.al, .int .i64 x.st, .int .i64 x.en, .int .i64 x.ra, .int .i64 x.sh, v]
abbrev bV (x : Sl) : Value := .agg #[.int .i64 x.k, .string x.i, .string x.t, .string x.c, .string x.s, .int .i64 x.sd, .int .i64 x.q, .int .i64 x.p, .int .i64 x.al, .int .i64 x.st, .int .i64 x.en, .int .i64 0, .int .i64 0, .slice none 0 0]
/-- The world holds at block P, from block B on, a slicer that holds x; its curve, if it has one, lies at v, in memory of its own from block B on, apart from P. -/
structure SlAt (w : World) (B P : Nat) (v : Value) (x : Sl) : Prop where
  cell : ∀ j, j < 16 → w.cell? ⟨P, j, none⟩ = some (slF x (alV x v) j)
  fz : ∀ j, w.frozen? ⟨P, j, none⟩ = false
  lP : B ≤ P
  own : x.al = 2 → w.ownsRow B 3 1 v x.z.length (valsZ x.z)
  apart : x.al = 2 → ∀ g, v.ownBlock = some g → g ≠ P
  good : Good x
theorem SlAt.pt {w : World} {B P : Nat} {v : Value} {x : Sl} (K : SlAt w B P v x) : P < w.heap.size := World.block_lt_of_cell? _ _ (K.cell 0 (by omega))
theorem SlAt.kept {w w' : World} {B P : Nat} {v : Value} {x : Sl} {S : Nat → Prop} (K : SlAt w B P v x) (k : But S w w') (hP : ¬ S P) (hv : x.al = 2 → ∀ g, v.ownBlock = some g → ¬ S g) : SlAt w' B P v x :=
  ⟨fun j hj => (k.cell K.pt hP).trans (K.cell j hj), fun j => (k.frozen K.pt hP).trans (K.fz j), K.lP, fun a => own_kept (K.own a) k (hv a), K.apart, K.good⟩
theorem SlAt.below {w w' : World} {B P : Nat} {v : Value} {x : Sl} (K : SlAt w B P v x) (k : Below w.heap.size w w') : SlAt w' B P v x :=
  K.kept (S := fun _ => False) (But.of_below k) id (fun _ _ _ => id)
theorem SlAt.row {w : World} {B P : Nat} {v : Value} {x : Sl} (K : SlAt w B P v x) (a : x.al = 2) : Row w v x.z.length fun i => .int .i64 (x.z.getD i 0) := row_of_ownZ (K.own a)
/-- A slicer that is none. -/
def NoSl (w : World) (r : Value) : Prop := r = .pointer none ∨ ∃ q, r = .pointer (some ⟨q, 0, none⟩) ∧ w.cell? ⟨q, 14, none⟩ = some .nilIface
theorem NoSl.below {w w' : World} {r : Value} (h : NoSl w r) (k : Below w.heap.size w w') : NoSl w' r := by
  rcases h with rfl | ⟨q, rfl, h⟩
  · exact .inl rfl
  · exact .inr ⟨q, rfl, (k.cell (p := ⟨q, 14, none⟩) (World.block_lt_of_cell? _ _ h)).trans h⟩
theorem within_any (n low high : Int) (w : World) : Calls Tryz.prog 19 #[.int .i64 n, .int .i64 low, .int .i64 high] w fun e w' => e = .returned (.bool (inB n low high)) ∧ w = w' := by
  by_cases h1 : low ≤ n
  · by_cases h2 : n ≤ high
    · rw [inB_true.2 ⟨h1, h2⟩]
      go_enter Tryz.func19, Tryz.ntmps19
      go_wp2
      go_ret
      exact ⟨rfl, rfl⟩
    · rw [inB_false.2 (.inr (by omega))]
      go_enter Tryz.func19, Tryz.ntmps19
      go_wp2
      go_ret
      exact ⟨rfl, rfl⟩
  · rw [inB_false.2 (.inl (by omega))]
    go_enter Tryz.func19, Tryz.ntmps19
    go_wp2
    go_ret
    exact ⟨rfl, rfl⟩
theorem alV_some (x : Sl) (v : Value) : ∃ T u, alV x v = .iface T u := by
  unfold alV
  repeat' split
  all_goals exact ⟨_, _, rfl⟩
theorem made_yes {w : World} {B P : Nat} {v : Value} {x : Sl} (K : SlAt w B P v x) : Calls Tryz.prog 24 #[.pointer (some ⟨P, 0, none⟩)] w fun e w' => e = .returned (.bool true) ∧ w = w' := by
  have h14 : w.cell? ⟨P, 14, none⟩ = some (alV x v) := K.cell 14 (by omega)
  obtain ⟨T, u, h⟩ := alV_some x v
  rw [h] at h14
  clear K h
  go_enter Tryz.func24, Tryz.ntmps24
  go_wp2
  go_ret
  exact ⟨rfl, rfl⟩
theorem made_no {w : World} {r : Value} (h : NoSl w r) : Calls Tryz.prog 24 #[r] w fun e w' => e = .returned (.bool false) ∧ w = w' := by
  rcases h with rfl | ⟨q, rfl, h⟩
  · go_enter Tryz.func24, Tryz.ntmps24
    go_wp2
    go_ret
    exact ⟨rfl, rfl⟩
  · go_enter Tryz.func24, Tryz.ntmps24
    go_wp2
    go_ret
    exact ⟨by simp, rfl⟩
theorem infoI : (Tryz.prog.info? 3).map (fun i => (i.zero, i.size, i.bytes)) = some (some (.int .i64 0), 1, 8) := by kernel_rfl
theorem valsZ_one (z : List Int) : ∀ u ∈ valsZ z, u.oneCell' = true := by
  intro u hu
  simp only [valsZ, vals, List.mem_map] at hu
  obtain ⟨i, _, rfl⟩ := hu
  rfl
theorem rowZ_cells {w : World} {b off cap : Nat} {z : List Int} (h : Row w (.slice (some ⟨b, off, none⟩) z.length cap) z.length fun i => .int .i64 (z.getD i 0)) : ∀ j u, (valsZ z)[j]? = some u → w.cell? ((⟨b, off, none⟩ : Addr).add j) = some u := by
  obtain ⟨a, cap', e, _, _, h3⟩ := h
  injection e with e1
  subst e1
  intro j u hj
  have hl : j < z.length := by
    have := (List.getElem?_eq_some_iff.1 hj).1
    rwa [valsZ_length] at this
  rw [valsZ, vals_at _ hl] at hj
  injection hj with hj
  subst hj
  obtain ⟨b', off', e', c⟩ := h3 j hl
  injection e' with e'
  injection e' with e1 e2
  subst e1 e2
  rw [Addr.add_lit]
  exact c
set_option maxHeartbeats 2000000 in
set_option maxRecDepth 100000 in
theorem cloneI_any {w : World} {v : Value} {z : List Int} (h : Row w v z.length fun i => .int .i64 (z.getD i 0)) (h1 : 1 ≤ z.length) (h2 : z.length ≤ 1000000) :
    Calls Tryz.prog 40 #[v] w fun e w' => ∃ v', e = .returned v' ∧ w'.ownsRow w.heap.size 3 1 v' z.length (valsZ z) ∧ Below w.heap.size w w' := by
  obtain ⟨a, cap, rfl, k1, k2, k3⟩ := id h
  obtain ⟨b, off, rfl, _⟩ := k3 0 (by omega)
  clear k3
  obtain ⟨i0, hi, hz0, hz1, hz2⟩ := info_parts infoI
  have q22 : ∀ (w : World) (a : Option Addr) (n c n' c' : Nat), (binOp .eql 22 (.slice a n c) (.slice none n' c')).run Tryz.prog w = .ok (.bool a.isNone) w := fun w a n c n' c' => Lib.run_eql_slice_nil w _ _ a n c n' c' Tryz.underlying22
  have A : Hid (∀ j u, (valsZ z)[j]? = some u → w.cell? ((⟨b, off, none⟩ : Addr).add j) = some u) := rowZ_cells h
  clear h
  go_enter Tryz.func40, Tryz.ntmps40
  go_wp2_with (at_builtin; refine wpList_append_own _ rfl _ _ 22 rfl w.heap.size 3 i0 (.int .i64 0) 1 8 Tryz.underlying22 hi hz0 hz1 hz2 rfl (by decide) _ _ _ rfl (World.ownsRow_made w #[] 0 (Nat.le_refl _) (Nat.zero_le _) rfl) ⟨b, off, none⟩ z.length cap (valsZ z) rfl ?qc1 ?qc2 ?qc3 ?qc4 ?qc5 ?qc6 ?_)
  case qc1 => rw [valsZ_length]
  case qc2 =>
    intro j u hj
    have := A.out j u hj
    rw [Addr.add_lit] at this
    exact Lib.cell?_alloc_some _ this
  case qc3 => exact valsZ_one z
  case qc4 => unfold maxLen; omega
  case qc5 => omega
  intro v' w1 hown hgrow hnil
  have hown' : Hid (w1.ownsRow w.heap.size 3 1 v' z.length (valsZ z)) := by
    show w1.ownsRow w.heap.size 3 1 v' z.length (valsZ z)
    simpa using hown
  clear hown hnil
  go_wp2
  go_ret
  exact ⟨v', rfl, hown'.out, ((Below.refl _ w).alloc (Nat.le_refl _) _).grown hgrow (by simp) (by intro k hk; simp [Value.ownBlock] at hk; omega)⟩
set_option maxHeartbeats 4000000 in
theorem without_any (x : Sl) (a : Option Addr) (n cap : Nat) (w : World) : Calls Tryz.prog 20 #[oV x (.slice a n cap)] w fun e w' => e = .returned (bV x) ∧ Below w.heap.size w w' := by
  go_enter Tryz.func20, Tryz.ntmps20
  go_wp2_with fail
  refine bodyPost_ret (v := bV x) (by simp [results, Tryz.results20, go_sem]) rfl ⟨rfl, ?_⟩
  exact ((Below.refl _ w).alloc (Nat.le_refl _) _).alloc (by simp) _
end Go.Proofs.YtdacfnodihannaaGreat.SL
