/-
  Lists of offers that come in; contracts of the library's stable sort of few offers, and of router's Rank.
-/
import Derived.Test.YtbjibmfehphffaaRoIns
namespace Go.Proofs.Ytbjibmfehphffaa.RO
open Go.ChangeShapes Go.WideShapes Go.ChangeAt Go.RowKit Go.Lib Go.Proofs.Ytbjibmfehphffaa.ST

/-- The slice value v reads as n offers, told by L. -/
def RowL (w : World) (v : Value) (n : Nat) (L : Nat → Of) : Prop :=
  ∃ a cap, v = .slice a n cap ∧ n ≤ cap ∧ ∀ i, i < n → ∃ b o, a = some ⟨b, o, none⟩ ∧ Fiv w b (o + i * 5) (L i)
theorem RowL.below {w w' : World} {v : Value} {n : Nat} {L : Nat → Of} (h : RowL w v n L) (k : Below w.heap.size w w') : RowL w' v n L := by
  obtain ⟨a, cap, rfl, h1, h3⟩ := h
  refine ⟨a, cap, rfl, h1, fun i hi => ?_⟩
  obtain ⟨b, o, e, c⟩ := h3 i hi
  exact ⟨b, o, e, c.below k⟩
theorem RowL.of_hold {w : World} {b n cap : Nat} {L : Nat → Of} (h : HoldO w b n L) (hc : n ≤ cap) : RowL w (.slice (some ⟨b, 0, none⟩) n cap) n L :=
  ⟨_, cap, rfl, hc, fun i hi => ⟨b, 0, rfl, by rw [Nat.zero_add]; exact h.cell i hi⟩⟩
/-- The order of n offers: which stands where. -/
def Ranked (L : Nat → Of) (n : Nat) (f : Nat → Nat) : Prop := Pm 0 n id f ∧ Srt (ltP L) 0 n f
theorem Ranked.lt {L : Nat → Of} {n : Nat} {f : Nat → Nat} (h : Ranked L n f) {k : Nat} (hk : k < n) : f k < n := by
  obtain ⟨j, _, j2, e⟩ := h.1.from (Nat.zero_le k) hk
  rw [e]; exact j2
theorem Ranked.one {L : Nat → Of} {n : Nat} {f g : Nat → Nat} (h : Ranked L n f) (k : Ranked L n g) : ∀ i, i < n → f i = g i := Srt.one (ltP_swo L) h.1 k.1 h.2 k.2
/-- The library's stable sort, of n offers. -/
def StableAt (n : Nat) : Prop := ∀ (L : Nat → Of) (cap bk : Nat) (w : World), HoldO w bk n L →
  Calls Try.prog 45 #[.slice (some ⟨bk, 0, none⟩) n cap, .int .i64 (n : Int), .func (.func 25) #[] #[]] w
    fun e w' => (∃ v, e = .returned v) ∧ ∃ f', Hid (Ranked L n f' ∧ Sor w w' bk n L f')
theorem stable_few {n : Nat} (hn : n < 20) : StableAt n := by
  intro L cap bk w h
  have F := ins_any L id n 0 n cap bk w h (Nat.zero_le _) (Nat.le_refl _) (by omega) (fun k l _ h2 _ => h2)
  have t : ¬ (20 : Int) ≤ (n : Int) := by omega
  have t2 : ¬ (20 : Int) < (n : Int) := by omega
  clear h
  go_enter Try.func45, Try.ntmps45
  go_wp2_with fail
  refine wp_loop_rounds 1 ?_
  rw [rounds_succ]
  go_wp2_with fail
  refine F.mono ?_
  rintro e w1 ⟨⟨v, rfl⟩, f', HF⟩
  go_wp2_with fail
  refine wp_loop_rounds 1 ?_
  rw [rounds_succ]
  go_wp2_with fail
  go_end0
  exact ⟨⟨_, rfl⟩, f', ⟨HF.out.1, HF.out.2.1⟩, HF.out.2.2⟩
theorem sort_any {n : Nat} (hs : StableAt n) (L : Nat → Of) (cap bk : Nat) (w : World) (h : HoldO w bk n L) :
    Calls Try.prog 24 #[.slice (some ⟨bk, 0, none⟩) n cap, .func (.func 25) #[] #[]] w
      fun e w' => (∃ v, e = .returned v) ∧ ∃ f', Hid (Ranked L n f' ∧ Sor w w' bk n L f') := by
  have F := hs L cap bk w h
  clear hs h
  go_enter Try.func24, Try.ntmps24
  go_wp2_with fail
  refine F.mono ?_
  rintro e w1 ⟨⟨v, rfl⟩, f', HF⟩
  go_wp2_with fail
  go_end0
  exact ⟨⟨_, rfl⟩, f', HF⟩

theorem info_offer : (Try.prog.info? 35).map (fun i => (i.zero, i.size, i.bytes)) = some (some (.agg #[.int .i64 0, .int .i64 0, .int .i64 0, .int .i64 0, .bool false]), 5, 40) := by kernel_rfl
theorem run_make_offers (K : Nat) (hK : K ≤ 1024) (w : World) : (Instr.makeSlice 29 (.int .i64 (K : Int)) (.int .i64 (K : Int))).run Try.prog w = .ok (.slice (some ⟨w.heap.size, 0, none⟩) K K) (w.alloc (.cells (madeCells #[.int .i64 0, .int .i64 0, .int .i64 0, .int .i64 0, .bool false] (K * 5)) 35)) := by
  obtain ⟨i0, hi0, hz0, hzs, hzb⟩ := info_parts info_offer
  have := run_make (P := Try.prog) w 29 35 i0 _ Try.underlying29 hi0 hz0 .i64 .i64 (K : Int) (K : Int) (by omega) (by omega) (by rw [hzb]; omega) (by omega)
  rw [hzs, Int.toNat_natCast] at this
  exact this
theorem made_offer (K i : Nat) (h : i < K * 5) : ((madeCells #[.int .i64 0, .int .i64 0, .int .i64 0, .int .i64 0, .bool false] (K * 5))[i]?).isSome = true := by
  simp [madeCells, h]
/-- The cells of n offers. -/
def cellsL (L : Nat → Of) (n : Nat) : List Value := (List.range (n * 5)).map (fun j => cO (L (j / 5)) (j % 5))
theorem cellsL_length (L : Nat → Of) (n : Nat) : (cellsL L n).length = n * 5 := by simp [cellsL]
theorem cellsL_at (L : Nat → Of) (n j : Nat) (h : j < (cellsL L n).length) : (cellsL L n)[j] = cO (L (j / 5)) (j % 5) := by simp [cellsL]
theorem cellsL_one (L : Nat → Of) (n : Nat) : ∀ v ∈ cellsL L n, v.oneCell' = true := by
  intro v hv
  simp only [cellsL, List.mem_map] at hv
  obtain ⟨j, _, rfl⟩ := hv
  unfold cO
  split
  · rfl
  · split
    · rfl
    · split
      · rfl
      · split <;> rfl
/-- copy, elements of five cells. -/
theorem run_copy5 {P : Program} (w : World) (dT sT ty elem : TypeId) (b dLen dCap : Nat) (a : Addr) (sLen sCap m : Nat) (cs : List Value)
    (hu : P.underlying dT = some (.slice elem)) (hs : (P.info? elem).map (·.size) = some 5) (hm : m = Nat.min sLen dLen) (hn : cs.length = m * 5)
    (hsrc : ∀ j v, cs[j]? = some v → w.cell? (a.add j) = some v) (hc : ∀ j, j < cs.length → (w.cell? ⟨b, 0 + j, none⟩).isSome = true) (hf : ∀ j, j < cs.length → w.frozen? ⟨b, 0 + j, none⟩ = false) (h1 : ∀ v ∈ cs, v.oneCell' = true) :
    (Builtin.copy_ #[dT, sT] ty #[.slice (some ⟨b, 0, none⟩) dLen dCap, .slice (some a) sLen sCap]).run P w = .ok (goInt m) (w.setCells b 0 cs) := by
  have hl := run_loadCells_list (P := P) w a cs hsrc
  have hst := run_storeCells_cells (P := P) b 0 cs 0 w (by simpa using hc) (by simpa using hf) h1
  rw [hn] at hl
  cases hq : P.info? elem with
  | none => simp [hq] at hs
  | some i =>
    have hi : i.size = 5 := by simpa [hq] using hs
    simp [Builtin.copy_, run_underlying hu, Builtin.lenOf, Builtin.firstCells, sizeOf, typeInfo, hq, hi, ← hm, hl, hst]
theorem run_copy0 {P : Program} (w : World) (dT sT ty elem : TypeId) (d a : Option Addr) (dCap sCap : Nat)
    (hu : P.underlying dT = some (.slice elem)) (hs : (P.info? elem).map (·.size) = some 5) :
    (Builtin.copy_ #[dT, sT] ty #[.slice d 0 dCap, .slice a 0 sCap]).run P w = .ok (goInt 0) w := by
  cases hq : P.info? elem with
  | none => simp [hq] at hs
  | some i =>
    have hl : ∀ a, Sem.run P (loadCells a 0) w = .ok #[] w := fun a => by simpa using run_loadCells_list (P := P) w a [] (by simp)
    cases a <;> cases d <;> simp [Builtin.copy_, run_underlying hu, Builtin.lenOf, Builtin.firstCells, sizeOf, typeInfo, hq, hl, storeCells]

theorem size_offer : (Try.prog.info? 35).map (·.size) = some 5 := by kernel_rfl
/-- A copy of n offers into a block of its own. -/
theorem copied {w : World} {a : Option Addr} {n cap : Nat} {L : Nat → Of} (h : RowL w (.slice a n cap) n L) (hn : n ≤ 1024) :
    ∃ W, (∀ ty, (Builtin.copy_ #[29, 29] ty #[.slice (some ⟨w.heap.size, 0, none⟩) n n, .slice a n cap]).run Try.prog (w.alloc (.cells (madeCells #[.int .i64 0, .int .i64 0, .int .i64 0, .int .i64 0, .bool false] (n * 5)) 35)) = .ok (goInt n) W) ∧ HoldO W w.heap.size n L ∧ Below w.heap.size w W := by
  obtain ⟨a', cap', e, h1, h3⟩ := h
  injection e with e1 e2 e3
  subst e1 e3
  have hb0 : Below w.heap.size w (w.alloc (.cells (madeCells #[.int .i64 0, .int .i64 0, .int .i64 0, .int .i64 0, .bool false] (n * 5)) 35)) := (Below.refl _ _).alloc (Nat.le_refl _) _
  have ths : ∀ j, j < n * 5 → ((w.alloc (.cells (madeCells #[.int .i64 0, .int .i64 0, .int .i64 0, .int .i64 0, .bool false] (n * 5)) 35)).cell? ⟨w.heap.size, j, none⟩).isSome = true := fun j hj => by
    simp only [World.cell?_alloc_new]
    exact made_offer n j hj
  have frz : ∀ j, (w.alloc (.cells (madeCells #[.int .i64 0, .int .i64 0, .int .i64 0, .int .i64 0, .bool false] (n * 5)) 35)).frozen? ⟨w.heap.size, j, none⟩ = false := fun j => by simp
  rcases Nat.eq_zero_or_pos n with rfl | hp
  · exact ⟨_, fun ty => run_copy0 _ _ _ ty 35 _ _ _ _ Try.underlying29 size_offer, ⟨fun i hi => absurd hi (by omega), frz, by simp⟩, hb0⟩
  · obtain ⟨b, o, rfl, _⟩ := h3 0 hp
    have src : ∀ i, i < n → Fiv w b (o + i * 5) (L i) := fun i hi => by
      obtain ⟨b', o', e, c⟩ := h3 i hi
      injection e with e
      injection e with e1 e2
      subst e1 e2
      exact c
    have hlt : b < w.heap.size := (src 0 hp).lt
    refine ⟨_, fun ty => run_copy5 _ _ _ ty 35 w.heap.size n n ⟨b, o, none⟩ n cap n (cellsL L n) Try.underlying29 size_offer (by simp) (cellsL_length L n) (fun j v hj => ?_) (fun j hj => ?_) (fun j hj => frz _) (cellsL_one L n), ⟨fun i hi c hc => ?_, fun j => by rw [World.frozen?_setCells]; exact frz j, by rw [size_setCells]; simp⟩, ?_⟩
    · obtain ⟨hj1, rfl⟩ := List.getElem?_eq_some_iff.1 hj
      rw [cellsL_at]
      rw [cellsL_length] at hj1
      rw [show (⟨b, o, none⟩ : Addr).add j = ⟨b, o + j, none⟩ from by unfold Addr.add; split <;> simp_all, hb0.cell (p := ⟨b, o + j, none⟩) hlt]
      have := src (j / 5) (by omega) (j % 5) (by omega)
      rw [show o + j / 5 * 5 + j % 5 = o + j by omega] at this
      exact this
    · rw [cellsL_length] at hj
      rw [Nat.zero_add]
      exact ths j hj
    · have hl : i * 5 + c < (cellsL L n).length := by rw [cellsL_length]; omega
      have := World.cell?_setCells_in w.heap.size (cellsL L n) 0 (w.alloc (.cells (madeCells #[.int .i64 0, .int .i64 0, .int .i64 0, .int .i64 0, .bool false] (n * 5)) 35)) (fun j hj => by rw [cellsL_length] at hj; rw [Nat.zero_add]; exact ths j hj) (i * 5 + c) hl
      rw [Nat.zero_add] at this
      rw [this, cellsL_at, show (i * 5 + c) / 5 = i by omega, show (i * 5 + c) % 5 = c by omega]
    · exact (But.setCells (S := fun k => k = w.heap.size) (But.of_below hb0) w.heap.size 0 _ (fun _ => rfl)).below (Nat.le_refl _) (fun i e => by omega)
theorem rank_any {n : Nat} (hs : StableAt n) (hn : n ≤ 1024) (L : Nat → Of) (v : Value) (w : World) (h : RowL w v n L) :
    Calls Try.prog 11 #[v] w fun e w' => ∃ bk f, Hid (Ranked L n f ∧ HoldO w' bk n (fun k => L (f k)) ∧ Below w.heap.size w w' ∧ w.heap.size ≤ bk) ∧ e = .returned (.slice (some ⟨bk, 0, none⟩) n n) := by
  obtain ⟨a, cap, rfl, _⟩ := id h
  obtain ⟨W, hc, hW, hB⟩ := copied h hn
  have hmk := run_make_offers n hn w
  have F := sort_any hs L n w.heap.size W hW
  have HB : Hid (Below w.heap.size w W) := hB
  clear h hs hW hB
  go_enter Try.func11, Try.ntmps11
  go_wp2_with fail
  refine F.mono ?_
  rintro e w1 ⟨⟨v, rfl⟩, f, HF⟩
  go_wp2_with fail
  go_ret
  exact ⟨w.heap.size, f, ⟨HF.out.1, HF.out.2.1, HB.out.trans (HF.out.2.2.below (n := w.heap.size) HB.out.size (fun i e => by omega)), Nat.le_refl _⟩, rfl⟩
end Go.Proofs.Ytbjibmfehphffaa.RO
