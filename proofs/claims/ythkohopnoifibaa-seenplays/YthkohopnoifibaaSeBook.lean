/-
  Executions that were met, in memory; contracts of seen's made, find, Get, Count, New.
-/
import Derived.Test.YthkohopnoifibaaSeMap
import Derived.BigQuiet
import Derived.Laws.StructEq
namespace Go.Proofs.Ythkohopnoifibaa.SE
open Go.ChangeShapes Go.WideShapes Go.ChangeAt Go.RowKit Go.Lib

/-- The world holds at block n + 1 a Seen; its map lies in block n. -/
structure SeenAt (w : World) (n : Nat) (b : Sn) : Prop where
  cR : w.cell? ⟨n + 1, 0, none⟩ = some (.int .i64 (b.r : Int))
  cM : w.cell? ⟨n + 1, 1, none⟩ = some (.map (some n))
  mp : MMap w n b.c b.L
  good : Good b
theorem SeenAt.lt {w : World} {n : Nat} {b : Sn} (K : SeenAt w n b) : n + 1 < w.heap.size := World.block_lt_of_cell? _ _ K.cR
theorem SeenAt.kept {w w' : World} {n : Nat} {b : Sn} {T : Nat → Prop} (K : SeenAt w n b) (k : But T w w') (h0 : ¬ T n) (h1 : ¬ T (n + 1)) : SeenAt w' n b :=
  ⟨(k.cell K.lt h1).trans K.cR, (k.cell K.lt h1).trans K.cM, K.mp.kept k h0, K.good⟩
theorem SeenAt.below {w w' : World} {n : Nat} {b : Sn} (K : SeenAt w n b) (k : Below w.heap.size w w') : SeenAt w' n b :=
  K.kept (T := fun _ => False) (But.of_below k) id id
/-- What changes only its map leaves all that is older. -/
theorem SeenAt.frame {w a w' : World} {B n : Nat} {b : Sn} (K : SeenAt a n b) (k : But (fun i => i = n) a w') (hn : B ≤ n) (hb : Below B w a) : Below B w w' := by
  have h1 := K.lt
  exact hb.trans (k.below (by omega) (fun i hi => by have : i = n := hi; omega))
/-- A Seen that is none. -/
def NoSeen (w : World) (r : Value) : Prop := r = .pointer none ∨ ∃ q, r = .pointer (some ⟨q, 0, none⟩) ∧ w.cell? ⟨q, 0, none⟩ = some (.int .i64 0)
theorem NoSeen.below {w w' : World} {r : Value} (h : NoSeen w r) (k : Below w.heap.size w w') : NoSeen w' r := by
  rcases h with rfl | ⟨q, rfl, h⟩
  · exact .inl rfl
  · exact .inr ⟨q, rfl, (k.cell (p := ⟨q, 0, none⟩) (World.block_lt_of_cell? _ _ h)).trans h⟩
theorem made_yes {w : World} {n : Nat} {b : Sn} (K : SeenAt w n b) : Calls Try.prog 16 #[.pointer (some ⟨n + 1, 0, none⟩)] w fun e w' => e = .returned (.bool true) ∧ w' = w := by
  have h0 := K.cR
  have t : (0 : Int) < (b.r : Int) := by have := K.good.r1; omega
  clear K
  go_enter Try.func16, Try.ntmps16
  go_wp2
  go_ret
  exact ⟨by simp; omega, rfl⟩
theorem made_no {w : World} {r : Value} (h : NoSeen w r) : Calls Try.prog 16 #[r] w fun e w' => e = .returned (.bool false) ∧ w' = w := by
  rcases h with rfl | ⟨q, rfl, h⟩
  · go_enter Try.func16, Try.ntmps16
    go_wp2
    go_ret
    exact ⟨rfl, rfl⟩
  · go_enter Try.func16, Try.ntmps16
    go_wp2
    go_ret
    exact ⟨by simp, rfl⟩
/-- find's own block, when it is laid. -/
abbrev metO (x : Xc) (h : Bool) : Obj := .cells #[.string x.o, .int .i64 x.q, .int .i64 x.p, .bool x.k, .bool h] 56
set_option maxRecDepth 100000 in
set_option maxHeartbeats 1000000 in
theorem find_any {w : World} {n : Nat} {b : Sn} (K : SeenAt w n b) (s : ByteArray) (hs : s.size ≤ maxLen) : Calls Try.prog 18 #[.pointer (some ⟨n + 1, 0, none⟩), .string s] w fun e w' => e = .returned (metV (tell (b.L s)) (b.L s).isSome) ∧ Below w.heap.size w w' := by
  have b0 : Below w.heap.size w (w.alloc (metO x0 false)) := (Below.refl _ _).alloc (Nat.le_refl _) _
  have K1 := K.below b0
  have F := made_yes K1
  have L1 := K1.mp.look s hs
  have c1 := K1.cM
  clear K K1 b0
  generalize tell (b.L s) = x at *
  generalize (b.L s).isSome = h at *
  obtain ⟨o, q, p, k⟩ := x
  simp only [metV] at L1 ⊢
  go_enter Try.func18, Try.ntmps18
  go_wp2_with fail
  refine F.mono ?_
  rintro e w1 ⟨rfl, rfl⟩
  go_wp2_with fail
  refine bodyPost_ret (v := .agg #[.string o, .int .i64 q, .int .i64 p, .bool k, .bool h]) (by simp [results, Try.results18, go_sem]) rfl ⟨rfl, ?_⟩
  exact (Below.refl _ _).alloc (Nat.le_refl _) _
/-- Two executions are the same. -/
def eqX (x y : Xc) : Bool := decide (x.o = y.o) && (x.q == y.q && (x.p == y.p && x.k == y.k))
theorem eqX_self (x : Xc) : eqX x x = true := by simp [eqX]
theorem eqX_iff {x y : Xc} : eqX x y = true ↔ x = y := by
  obtain ⟨a, b, c, d⟩ := x
  obtain ⟨a', b', c', d'⟩ := y
  simp [eqX]
theorem ex_eq (d : Nat) (x y : Xc) (w : World) : (Op.equalIn (d + 2) 34 (exV x) (exV y)).run Try.prog w = .ok (eqX x y) w := by
  rw [run_equalIn_struct (P := Try.prog) w (d + 1) _ _ _ (by kernel_rfl) (by kernel_rfl)]
  simp [Program.fieldsOf, Try.underlying34, Op.eqFields, go_sem, Try.underlying3, Try.underlying4, Try.underlying9]
  unfold eqX
  rw [← beq_bytes]
  by_cases h1 : x.o.toList = y.o.toList <;> by_cases h2 : x.q = y.q <;> by_cases h3 : x.p = y.p <;> by_cases h4 : x.k = y.k <;> simp [h1, h2, h3, h4]
theorem met_eq (x : Xc) (h : Bool) (w : World) : (Op.equalIn 10000 56 (metV x h) (metV x0 false)).run Try.prog w = .ok (eqX x x0 && !h) w := by
  rw [show (10000 : Nat) = 9999 + 1 from rfl, run_equalIn_struct (P := Try.prog) w 9999 _ _ _ (by kernel_rfl) (by kernel_rfl)]
  simp [Program.fieldsOf, Try.underlying56, Op.eqFields, go_sem, Try.underlying4]
  unfold eqX
  rw [← beq_bytes]
  by_cases h1 : x.o.toList = x0.o.toList <;> by_cases h2 : x.q = x0.q <;> by_cases h3 : x.p = x0.p <;> by_cases h4 : x.k = x0.k <;> cases h <;> simp [h1, h2, h3, h4, go_sem]
theorem met_some (o : Option Xc) : (eqX (tell o) x0 && !o.isSome) = !o.isSome := by
  cases o with
  | none => rfl
  | some x => simp
set_option maxRecDepth 100000 in
set_option maxHeartbeats 1000000 in
theorem findN {w : World} {r : Value} (h : NoSeen w r) (s : ByteArray) : Calls Try.prog 18 #[r, .string s] w fun e w' => e = .returned (metV x0 false) ∧ Below w.heap.size w w' := by
  have F := made_no (h.below ((Below.refl _ _).alloc (Nat.le_refl _) (metO x0 false)))
  clear h
  go_enter Try.func18, Try.ntmps18
  go_wp2_with fail
  refine F.mono ?_
  rintro e w1 ⟨rfl, rfl⟩
  go_wp2_with fail
  refine bodyPost_ret (v := .agg #[.string ⟨#[]⟩, .int .i64 0, .int .i64 0, .bool false, .bool false]) (by simp [results, Try.results18, go_sem]) rfl ⟨rfl, ?_⟩
  exact (Below.refl _ _).alloc (Nat.le_refl _) _
abbrev exO (x : Xc) : Obj := .cells #[.string x.o, .int .i64 x.q, .int .i64 x.p, .bool x.k] 34
/-- Four cells of block b are written. -/
def put4 (w : World) (b : Nat) (x : Xc) : World := (((w.setCell ⟨b, 0, none⟩ (.string x.o)).setCell ⟨b, 1, none⟩ (.int .i64 x.q)).setCell ⟨b, 2, none⟩ (.int .i64 x.p)).setCell ⟨b, 3, none⟩ (.bool x.k)
/-- Block b holds an execution, and may be written. -/
structure Box4 (w : World) (b : Nat) (x : Xc) : Prop where
  c0 : w.cell? ⟨b, 0, none⟩ = some (.string x.o)
  c1 : w.cell? ⟨b, 1, none⟩ = some (.int .i64 x.q)
  c2 : w.cell? ⟨b, 2, none⟩ = some (.int .i64 x.p)
  c3 : w.cell? ⟨b, 3, none⟩ = some (.bool x.k)
  f0 : w.frozen? ⟨b, 0, none⟩ = false
  f1 : w.frozen? ⟨b, 1, none⟩ = false
  f2 : w.frozen? ⟨b, 2, none⟩ = false
  f3 : w.frozen? ⟨b, 3, none⟩ = false
theorem Box4.lt {w : World} {b : Nat} {x : Xc} (h : Box4 w b x) : b < w.heap.size := World.block_lt_of_cell? _ _ h.c0
theorem Box4.kept {w w' : World} {b : Nat} {x : Xc} {T : Nat → Prop} (h : Box4 w b x) (k : But T w w') (hT : ¬ T b) : Box4 w' b x := by
  have lt := h.lt
  exact ⟨(k.cell lt hT).trans h.c0, (k.cell lt hT).trans h.c1, (k.cell lt hT).trans h.c2, (k.cell lt hT).trans h.c3, (k.frozen lt hT).trans h.f0, (k.frozen lt hT).trans h.f1, (k.frozen lt hT).trans h.f2, (k.frozen lt hT).trans h.f3⟩
theorem Box4.below {w w' : World} {b : Nat} {x : Xc} (h : Box4 w b x) (k : Below w.heap.size w w') : Box4 w' b x := h.kept (T := fun _ => False) (But.of_below k) id
theorem Box4.new (w : World) (x : Xc) (t : TypeId) : Box4 (w.alloc (.cells #[.string x.o, .int .i64 x.q, .int .i64 x.p, .bool x.k] t)) w.heap.size x := by
  refine ⟨?_, ?_, ?_, ?_, ?_, ?_, ?_, ?_⟩ <;> simp
theorem Box4.put {w : World} {b : Nat} {x : Xc} (h : Box4 w b x) (y : Xc) : Box4 (put4 w b y) b y ∧ But (fun k => k = b) w (put4 w b y) := by
  refine ⟨⟨?_, ?_, ?_, ?_, ?_, ?_, ?_, ?_⟩, ((((But.refl (fun k => k = b) w).setCell b 0 _ (fun _ => rfl)).setCell b 1 _ (fun _ => rfl)).setCell b 2 _ (fun _ => rfl)).setCell b 3 _ (fun _ => rfl)⟩
  · unfold put4
    rw [World.cell?_setCell_other _ _ _ _ (by simp), World.cell?_setCell_other _ _ _ _ (by simp), World.cell?_setCell_other _ _ _ _ (by simp)]
    exact World.cell?_setCell_same' _ _ _ (by rw [h.c0]; rfl)
  · unfold put4
    rw [World.cell?_setCell_other _ _ _ _ (by simp), World.cell?_setCell_other _ _ _ _ (by simp)]
    exact World.cell?_setCell_same' _ _ _ (by rw [World.cell?_setCell_other _ _ _ _ (by simp), h.c1]; rfl)
  · unfold put4
    rw [World.cell?_setCell_other _ _ _ _ (by simp)]
    exact World.cell?_setCell_same' _ _ _ (by rw [World.cell?_setCell_other _ _ _ _ (by simp), World.cell?_setCell_other _ _ _ _ (by simp), h.c2]; rfl)
  · unfold put4
    exact World.cell?_setCell_same' _ _ _ (by rw [World.cell?_setCell_other _ _ _ _ (by simp), World.cell?_setCell_other _ _ _ _ (by simp), World.cell?_setCell_other _ _ _ _ (by simp), h.c3]; rfl)
  all_goals unfold put4; rw [World.frozen?_setCell, World.frozen?_setCell, World.frozen?_setCell, World.frozen?_setCell]
  · exact h.f0
  · exact h.f1
  · exact h.f2
  · exact h.f3
set_option maxRecDepth 100000 in
set_option maxHeartbeats 1000000 in
theorem get_of {w : World} {r : Value} {s : ByteArray} {x : Xc} {h : Bool} (F : Calls Try.prog 18 #[r, .string s] (w.alloc (exO x0)) fun e w' => e = .returned (metV x h) ∧ Below (w.alloc (exO x0)).heap.size (w.alloc (exO x0)) w') (hx : (eqX x x0 && !h) = !h) :
    Calls Try.prog 13 #[r, .string s] w fun e w' => e = .returned (.tuple #[exV x, .bool h]) ∧ Below w.heap.size w w' := by
  have E := fun w => met_eq x h w
  rw [hx] at E
  clear hx
  obtain ⟨o, q, p, k⟩ := x
  simp only [metV, exV, x0] at E F ⊢
  have X0 : Box4 (w.alloc (exO x0)) w.heap.size x0 := Box4.new w x0 _
  have HB : Hid (Below w.heap.size w (w.alloc (exO x0))) := (Below.refl _ _).alloc (Nat.le_refl _) _
  go_enter Try.func13, Try.ntmps13
  go_wp2_with fail
  refine F.mono ?_
  rintro e w1 ⟨rfl, hb⟩
  have HB1 : Hid (Below w.heap.size w w1) := HB.out.trans (hb.mono HB.out.size)
  have X1 := X0.below hb
  have HX : Hid (Box4 w1 w.heap.size x0) := X1
  obtain ⟨d0, d1, d2, d3, f0, f1, f2, f3⟩ := X1
  simp only [x0] at d0 d1 d2 d3
  have lx := World.block_lt_of_cell? _ _ d0
  simp only at lx
  clear HB hb F X0
  go_wp2_with fail
  go_region
  go_wp2_with fail
  obtain ⟨Y, Z⟩ := HX.out.put ⟨o, q, p, k⟩
  have eW : put4 w1 w.heap.size ⟨o, q, p, k⟩ = (((w1.setCell ⟨w.heap.size, 0, none⟩ (.string o)).setCell ⟨w.heap.size, 1, none⟩ (.int .i64 q)).setCell ⟨w.heap.size, 2, none⟩ (.int .i64 p)).setCell ⟨w.heap.size, 3, none⟩ (.bool k) := rfl
  rw [← eW]
  have HB2 : Hid (Below w.heap.size w (put4 w1 w.heap.size ⟨o, q, p, k⟩)) := HB1.out.trans (Z.below HB1.out.size (fun i hi => by have : i = w.heap.size := hi; omega))
  generalize put4 w1 w.heap.size ⟨o, q, p, k⟩ = W at *
  have ly := Y.lt
  obtain ⟨g0, g1, g2, g3, _, _, _, _⟩ := Y
  simp only at g0 g1 g2 g3
  refine bodyPost_ret (v := .tuple #[.agg #[.string o, .int .i64 q, .int .i64 p, .bool k], .bool h]) (by simp [results, Try.results13, go_sem, g0, g1, g2, g3, ly]) rfl ⟨rfl, ?_⟩
  exact (HB2.out.alloc HB2.out.size _).drew
theorem get_any {w : World} {n : Nat} {b : Sn} (K : SeenAt w n b) (s : ByteArray) (hs : s.size ≤ maxLen) : Calls Try.prog 13 #[.pointer (some ⟨n + 1, 0, none⟩), .string s] w fun e w' => e = .returned (.tuple #[exV (tell (b.L s)), .bool (b.L s).isSome]) ∧ Below w.heap.size w w' :=
  get_of (find_any (K.below ((Below.refl _ _).alloc (Nat.le_refl _) _)) s hs) (met_some _)
theorem getN {w : World} {r : Value} (h : NoSeen w r) (s : ByteArray) : Calls Try.prog 13 #[r, .string s] w fun e w' => e = .returned (.tuple #[exV x0, .bool false]) ∧ Below w.heap.size w w' :=
  get_of (findN (h.below ((Below.refl _ _).alloc (Nat.le_refl _) _)) s) (met_some none)
theorem count_any {w : World} {n : Nat} {b : Sn} (K : SeenAt w n b) : Calls Try.prog 15 #[.pointer (some ⟨n + 1, 0, none⟩)] w fun e w' => e = .returned (.int .i64 (b.c : Int)) ∧ w' = w := by
  have F := made_yes K
  have c1 := K.cM
  have L := K.mp.len
  clear K
  go_enter Try.func15, Try.ntmps15
  go_wp2_with fail
  refine F.mono ?_
  rintro e w1 ⟨rfl, rfl⟩
  go_wp2_with fail
  go_ret
  exact ⟨rfl, rfl⟩
theorem countN {w : World} {r : Value} (h : NoSeen w r) : Calls Try.prog 15 #[r] w fun e w' => e = .returned (.int .i64 0) ∧ w' = w := by
  have F := made_no h
  clear h
  go_enter Try.func15, Try.ntmps15
  go_wp2_with fail
  refine F.mono ?_
  rintro e w1 ⟨rfl, rfl⟩
  go_wp2_with fail
  go_ret
  exact ⟨rfl, rfl⟩
theorem new_out (r : Int) (w : World) (h : r < 1 ∨ 4096 < r) : Calls Try.prog 8 #[.int .i64 r] w fun e w' => e = .returned (.tuple #[.pointer none, .int .i64 2]) ∧ w' = w := by
  by_cases h1 : r < 1
  · clear h
    go_enter Try.func8, Try.ntmps8
    go_wp2_with fail
    go_ret2
    exact ⟨rfl, rfl⟩
  · have h2 : (4096 : Int) < r := by omega
    clear h
    go_enter Try.func8, Try.ntmps8
    go_wp2_with fail
    go_ret2
    exact ⟨rfl, rfl⟩
theorem mkMap (w : World) : (Instr.makeMap 48 none).run Try.prog w = .ok (.map (some w.heap.size)) (w.alloc (.map #[] 0)) := by
  simp [Instr.makeMap, newObj, go_sem]
  rfl
theorem new_in (r : Nat) (w : World) (h1 : 1 ≤ r) (h2 : r ≤ 4096) : Calls Try.prog 8 #[.int .i64 (r : Int)] w fun e w' => e = .returned (.tuple #[.pointer (some ⟨w.heap.size + 1, 0, none⟩), .int .i64 0]) ∧ SeenAt w' w.heap.size (newS r) ∧ Below w.heap.size w w' ∧ w'.heap.size = w.heap.size + 2 := by
  have t1 : ¬ (r : Int) < 1 := by omega
  have t2 : ¬ (4096 : Int) < (r : Int) := by omega
  have M := mkMap w
  go_enter Try.func8, Try.ntmps8
  go_wp2_with fail
  go_ret2
  have b1 := (Below.refl w.heap.size w).alloc (Nat.le_refl _) (.map #[] 0)
  refine ⟨by simp, ⟨?_, ?_, (MMap.made w).below ((Below.refl _ _).alloc (Nat.le_refl _) _), new_good h1 h2⟩, b1.alloc (by simp) _, by simp⟩
  · simp
    rfl
  · simp
end Go.Proofs.Ythkohopnoifibaa.SE
