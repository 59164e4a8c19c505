/-
  Contracts of slices.Insert at seats (a text and a number: two cells each), one more seat at any place.
-/
import Derived.Test.YtfphjhmhiaepiaaSeek
import Derived.Shelf.Spec.SlicesInsertGrow
import Derived.Deep.RegionLaw
import Derived.Lib.Walk
namespace Go.Proofs.Ytfphjhmhiaepiaa
open Go.ChangeShapes Go.WideShapes Go.ChangeAt Go.RowKit Go.Lib

/-- A seat's two cells. -/
def seatCells (x : ByteArray × Nat) : List Value := [.string x.1, .int .i64 (x.2 : Int)]
def flat (L : List (ByteArray × Nat)) : List Value := L.flatMap seatCells
theorem flat_nil : flat [] = [] := rfl
theorem flat_cons (x : ByteArray × Nat) (L : List (ByteArray × Nat)) : flat (x :: L) = .string x.1 :: .int .i64 (x.2 : Int) :: flat L := rfl
theorem flat_append (L M : List (ByteArray × Nat)) : flat (L ++ M) = flat L ++ flat M := by simp [flat]
theorem flat_length : ∀ L : List (ByteArray × Nat), (flat L).length = L.length * 2
  | [] => rfl
  | x :: L => by rw [flat_cons]; simp [flat_length L]; omega
theorem flat_take : ∀ (L : List (ByteArray × Nat)) (i : Nat), (flat L).take (i * 2) = flat (L.take i)
  | _, 0 => by simp [flat_nil]
  | [], i + 1 => by simp [flat_nil]
  | x :: L, i + 1 => by rw [flat_cons, show (i + 1) * 2 = i * 2 + 1 + 1 by omega, List.take_succ_cons, List.take_succ_cons, flat_take L i]; rfl
theorem flat_drop : ∀ (L : List (ByteArray × Nat)) (i : Nat), (flat L).drop (i * 2) = flat (L.drop i)
  | _, 0 => by simp
  | [], i + 1 => by simp [flat_nil]
  | x :: L, i + 1 => by rw [flat_cons, show (i + 1) * 2 = i * 2 + 1 + 1 by omega, List.drop_succ_cons, List.drop_succ_cons, flat_drop L i]; rfl
theorem flat_at : ∀ (L : List (ByteArray × Nat)) (i : Nat) (h : i < L.length), (flat L)[i * 2]? = some (.string L[i].1) ∧ (flat L)[i * 2 + 1]? = some (.int .i64 (L[i].2 : Int))
  | [], _, h => by simp at h
  | x :: L, 0, _ => ⟨rfl, rfl⟩
  | x :: L, i + 1, h => by
    have := flat_at L i (by simpa using h)
    rw [flat_cons, show (i + 1) * 2 = i * 2 + 1 + 1 by omega]
    simpa using this
theorem flat_one : ∀ (L : List (ByteArray × Nat)), ∀ v ∈ flat L, v.oneCell' = true
  | [], _, h => by simp [flat_nil] at h
  | x :: L, v, h => by
    rw [flat_cons] at h
    simp only [List.mem_cons] at h
    rcases h with rfl | rfl | h
    · rfl
    · rfl
    · exact flat_one L v h
theorem seat_one (x : ByteArray × Nat) : ∀ v ∈ seatCells x, v.oneCell' = true := by
  intro v h
  simp only [seatCells, List.mem_cons, List.not_mem_nil, or_false] at h
  rcases h with rfl | rfl <;> rfl
theorem seat_length (x : ByteArray × Nat) : (seatCells x).length = 2 := rfl

theorem infoSeat : (Try.prog.info? 121).map (fun i => (i.zero, i.size, i.bytes)) = some (some (.agg #[.string { data := #[] }, .int .i64 0]), 2, 24) := by kernel_rfl
theorem sizeSeat (w : World) : (sizeOf 121).run Try.prog w = .ok 2 w := by
  obtain ⟨i0, hi0, hz0, hzs, hzb⟩ := info_parts infoSeat
  simp [sizeOf, typeInfo, hi0, hzs]

/-- copy, elements of two cells: all is read ahead of what is written. -/
theorem run_copy2 {P : Program} (w : World) (dT sT ty elem : TypeId) (b o dLen dCap : Nat) (a : Addr) (sLen sCap m : Nat) (cs : List Value)
    (hu : P.underlying dT = some (.slice elem)) (hs : (P.info? elem).map (·.size) = some 2) (hm : m = Nat.min sLen dLen) (hn : cs.length = m * 2)
    (hsrc : ∀ j v, cs[j]? = some v → w.cell? (a.add j) = some v) (hc : ∀ j, j < cs.length → (w.cell? ⟨b, o + j, none⟩).isSome = true) (hf : ∀ j, j < cs.length → w.frozen? ⟨b, o + j, none⟩ = false) (h1 : ∀ v ∈ cs, v.oneCell' = true) :
    (Builtin.copy_ #[dT, sT] ty #[.slice (some ⟨b, o, none⟩) dLen dCap, .slice (some a) sLen sCap]).run P w = .ok (goInt m) (w.setCells b o cs) := by
  have hl := run_loadCells_list (P := P) w a cs hsrc
  have hst := run_storeCells_cells (P := P) b o cs 0 w (by simpa using hc) (by simpa using hf) h1
  rw [hn] at hl
  cases hq : P.info? elem with
  | none => simp [hq] at hs
  | some i =>
    have hi : i.size = 2 := by simpa [hq] using hs
    simp [Builtin.copy_, run_underlying hu, Builtin.lenOf, Builtin.firstCells, sizeOf, typeInfo, hq, hi, ← hm, hl, hst]

set_option maxHeartbeats 4000000 in
set_option maxRecDepth 100000 in
theorem insert_shift (b n c i vb : Nat) (L : List (ByteArray × Nat)) (x : ByteArray × Nat) (w : World) (hi : i < n) (hn : n ≤ 1000000) (hroom : n + 1 ≤ c) (_hc63 : c ≤ 9223372036854775807) (hvb : vb ≠ b) (hcl : L.length = n)
    (hcs : ∀ j v, (flat L)[j]? = some v → w.cell? ⟨b, j, none⟩ = some v) (hsp : ∀ j, j < c * 2 → (w.cell? ⟨b, j, none⟩).isSome = true) (hfz : ∀ j, j < c * 2 → w.frozen? ⟨b, j, none⟩ = false)
    (hvs : ∀ j v, (seatCells x)[j]? = some v → w.cell? ⟨vb, j, none⟩ = some v)
    (tA tB : TypeId) (kA kB : Nat) (hsa : w.shape? vb = some (tA, kA)) (hsb : w.shape? b = some (tB, kB)) (hkB : kB ≠ 0) (hfa : w.frozen? ⟨vb, 0, none⟩ = false) (hfe : w.frozen? ⟨vb, kA, none⟩ = false) :
    Calls Try.prog 77 #[.slice (some ⟨b, 0, none⟩) n c, .int .i64 (i : Int), .slice (some ⟨vb, 0, none⟩) 1 1] w fun e w' =>
      e = .returned (.slice (some ⟨b, 0, none⟩) (n + 1) c) ∧ w' = (w.drew.setCells b ((i + 1) * 2) (flat (L.drop i))).setCells b (i * 2) (seatCells x) := by
  have hz2 : ((i : Int) == (n : Int)) = false := beq_false_of_ne (by omega)
  have hin' : ¬ ((i : Int) = (n : Int)) := by omega
  have hsz : (Try.prog.info? 121).map (·.size) = some 2 := by
    obtain ⟨i0, hi0, h0, h1, h2⟩ := info_parts infoSeat
    rw [hi0]; simp [h1]
  have hov : ∀ lb cb, (callFunc 88 #[.slice (some ⟨vb, 0, none⟩) 1 1, .slice (some ⟨b, (i + 1) * 2, none⟩) lb cb]).run Try.prog w = .ok (.value (.bool false)) w := fun lb cb => by
    rw [run_callFunc_extern Try.func88 (by kernel_rfl) (by kernel_rfl) (by kernel_rfl) (e := Extern.SlicesOverlaps.overlaps #[115, 115] #[4]) (by kernel_rfl),
      Lib.run_overlaps_apart w 115 4 121 Try.underlying115 2 sizeSeat ⟨vb, 0, none⟩ ⟨b, (i + 1) * 2, none⟩ 1 1 lb cb hvb tA tB kA kB hsa hsb hkB hfa hfe]
    rfl
  have hdl : (flat (L.drop i)).length = (n - i) * 2 := by rw [flat_length, List.length_drop, hcl]
  have hfd : ∀ j v, (flat (L.drop i))[j]? = some v → w.cell? ⟨b, i * 2 + j, none⟩ = some v := fun j v h => by
    rw [← flat_drop, List.getElem?_drop] at h
    exact hcs _ _ h
  have hcp1 : ∀ ty dc sc, (Builtin.copy_ #[115, 115] ty #[.slice (some ⟨b, (i + 1) * 2, none⟩) (n + 1 - (i + 1)) dc, .slice (some ⟨b, i * 2, none⟩) (n + 1 - i) sc]).run Try.prog w.drew = .ok (goInt ((n - i : Nat) : Int)) (w.drew.setCells b ((i + 1) * 2) (flat (L.drop i))) := fun ty dc sc =>
    run_copy2 w.drew _ _ ty 121 b ((i + 1) * 2) (n + 1 - (i + 1)) dc ⟨b, i * 2, none⟩ (n + 1 - i) sc (n - i) (flat (L.drop i)) Try.underlying115 hsz (by simp only [Nat.min_def]; split <;> omega) hdl
      (fun j v hj => by rw [Addr.add_lit]; exact hfd j v hj)
      (fun j hj => hsp _ (by omega)) (fun j hj => hfz _ (by omega)) (flat_one _)
  obtain ⟨W1, hW1⟩ : ∃ W1, W1 = w.drew.setCells b ((i + 1) * 2) (flat (L.drop i)) := ⟨_, rfl⟩
  have hsp1 : ∀ k, k < c * 2 → (W1.cell? ⟨b, k, none⟩).isSome = true := fun k hk => by
    rw [hW1]
    exact isSome_setCells b (flat (L.drop i)) ((i + 1) * 2) w.drew (fun j hj => hsp _ (by omega)) _ (hsp k hk)
  have hcp2 : ∀ (W : World), (∀ x, W.cell? x = W1.cell? x) → (∀ x, W.frozen? x = W1.frozen? x) → ∀ ty dc, (Builtin.copy_ #[115, 115] ty #[.slice (some ⟨b, i * 2, none⟩) (n + 1 - i) dc, .slice (some ⟨vb, 0, none⟩) 1 1]).run Try.prog W = .ok (goInt ((1 : Nat) : Int)) (W.setCells b (i * 2) (seatCells x)) := fun W hWc hWf ty dc =>
    run_copy2 W _ _ ty 121 b (i * 2) (n + 1 - i) dc ⟨vb, 0, none⟩ 1 1 1 (seatCells x) Try.underlying115 hsz (by simp only [Nat.min_def]; split <;> omega) rfl
      (fun j v hj => by
        rw [Addr.add_lit, hWc, hW1, World.cell?_setCells_out b _ _ _ _ (fun h _ => absurd h hvb), Nat.zero_add]
        exact hvs j v hj)
      (fun j hj => by rw [hWc]; rw [seat_length] at hj; exact hsp1 _ (by omega)) (fun j hj => by rw [hWf, hW1, World.frozen?_setCells]; rw [seat_length] at hj; exact hfz _ (by omega)) (seat_one x)
  rw [← hW1] at hcp1
  have HW1 : Hid (W1 = w.drew.setCells b ((i + 1) * 2) (flat (L.drop i))) := hW1
  have hb2 : ¬ (c = i + 1) := by omega
  have hb3 : (i : Int) ≤ (n : Int) + 1 := by omega
  have hb4 : ¬ (c = i) := by omega
  have htn : ((i : Int) + 1).toNat = i + 1 := by omega
  have hw1 : IntKind.i64.wrap ((i : Int) + 1) = (i : Int) + 1 := by rw [IntKind.wrap_i64]; omega
  have hb1 : (0 : Int) ≤ (i : Int) + 1 := by omega
  have hb5 : i ≤ n := by omega
  have htn' : ((n : Int) + 1).toNat = n + 1 := by omega
  clear hW1 hsp1 hsp hfz hcs hvs hfd hdl
  go_enter Try.func77, Try.ntmps77
  go_wp2_with (simp only [hov])
  go_region_law (refine step_copy_runI rfl _ _ 115 115 rfl (.slice (some ⟨b, (i + 1) * 2, none⟩) (n + 1 - (i + 1)) (c - (i + 1))) (.slice (some ⟨b, i * 2, none⟩) (n + 1 - i) (c - i)) (by simp [Act.eval, Act.put]) (by simp [Act.eval, Act.put]) (hcp1 3 (c - (i + 1)) (c - i)) ?_)
  go_wp2_with (at_builtin; refine wpList_copy_runI _ rfl _ _ 115 115 rfl _ _ rfl rfl (hcp2 _ (fun _ => rfl) (fun _ => rfl) _ _) ?_)
  go_ret
  exact ⟨rfl, by rw [HW1.out]⟩

set_option maxHeartbeats 4000000 in
set_option maxRecDepth 100000 in
theorem insert_end_room (b n c vb : Nat) (x : ByteArray × Nat) (w : World) (hn : n ≤ 1000000) (hroom : n + 1 ≤ c) (hc63 : c ≤ 9223372036854775807)
    (hsp : ∀ j, j < c * 2 → (w.cell? ⟨b, j, none⟩).isSome = true) (hfz : ∀ j, j < c * 2 → w.frozen? ⟨b, j, none⟩ = false)
    (hvs : ∀ j v, (seatCells x)[j]? = some v → w.cell? ⟨vb, j, none⟩ = some v) :
    Calls Try.prog 77 #[.slice (some ⟨b, 0, none⟩) n c, .int .i64 (n : Int), .slice (some ⟨vb, 0, none⟩) 1 1] w fun e w' =>
      e = .returned (.slice (some ⟨b, 0, none⟩) (n + 1) c) ∧ w' = w.setCells b (n * 2) (seatCells x) := by
  obtain ⟨i0, hi0, hz0, hzs, hzb⟩ := info_parts infoSeat
  have hsrc : Src Try.prog i0.size 115 (.slice (some ⟨vb, 0, none⟩) 1 1) 1 (seatCells x) w := by
    rw [hzs]
    exact Src.ofSlice w Try.underlying115 ⟨vb, 0, none⟩ 1 1 (seatCells x) rfl (fun j u hj => by rw [Addr.add_lit, Nat.zero_add]; exact hvs j u hj) (seat_one x)
  have hrun : ∀ ty, (Builtin.append_ #[115, 115] ty #[.slice (some ⟨b, 0, none⟩) n c, .slice (some ⟨vb, 0, none⟩) 1 1]).run Try.prog w = .ok (.slice (some ⟨b, 0, none⟩) (n + 1) c) (w.setCells b (n * 2) (seatCells x)) := fun ty => by
    have h := run_append_room_src w 115 115 ty 121 i0 Try.underlying115 hi0 b 0 n c _ 1 (seatCells x) hsrc hroom
      (fun j hj => by rw [seat_length] at hj; rw [hzs]; exact hsp _ (by omega)) (fun j hj => by rw [seat_length] at hj; rw [hzs]; exact hfz _ (by omega))
    rw [hzs, Nat.zero_add] at h
    exact h
  clear hsp hfz hvs hsrc
  go_enter Try.func77, Try.ntmps77
  go_wp2_with (at_builtin; refine Lib.wpList_append_run _ rfl _ _ _ _ rfl _ _ rfl rfl _ _ (hrun _) ?_)
  go_ret
  exact ⟨rfl, rfl⟩

set_option maxHeartbeats 4000000 in
set_option maxRecDepth 100000 in
theorem insert_end_grow (base : Option Addr) (n c vb : Nat) (L : List (ByteArray × Nat)) (x : ByteArray × Nat) (w : World) (hn : n ≤ 1000000) (hnc : n ≤ c) (hroom : c < n + 1) (hcl : L.length = n)
    (hb : (base = none ∧ n = 0) ∨ ∃ b, base = some ⟨b, 0, none⟩ ∧ ∀ j v, (flat L)[j]? = some v → w.cell? ⟨b, j, none⟩ = some v)
    (hvs : ∀ j v, (seatCells x)[j]? = some v → w.cell? ⟨vb, j, none⟩ = some v) :
    Calls Try.prog 77 #[.slice base n c, .int .i64 (n : Int), .slice (some ⟨vb, 0, none⟩) 1 1] w fun e w' =>
      e = .returned (.slice (some ⟨w.heap.size, 0, none⟩) (n + 1) (grownCap w (n + 1) c 121)) ∧
      w' = w.drew.alloc (.cells ((flat L ++ seatCells x).toArray ++ Builtin.zeroCells #[.string { data := #[] }, .int .i64 0] (grownCap w (n + 1) c 121 - (n + 1))) 121) := by
  obtain ⟨i0, hi0, hz0, hzs, hzb⟩ := info_parts infoSeat
  have hsrc : Src Try.prog i0.size 115 (.slice (some ⟨vb, 0, none⟩) 1 1) 1 (seatCells x) w := by
    rw [hzs]
    exact Src.ofSlice w Try.underlying115 ⟨vb, 0, none⟩ 1 1 (seatCells x) rfl (fun j u hj => by rw [Addr.add_lit, Nat.zero_add]; exact hvs j u hj) (seat_one x)
  have hold : (Builtin.firstCells i0.size n (.slice base n c)).run Try.prog w.drew = .ok (flat L).toArray w.drew := by
    rw [hzs]
    rcases hb with ⟨rfl, rfl⟩ | ⟨b, rfl, hc⟩
    · rw [List.length_eq_zero_iff.1 hcl]
      exact run_firstCells_none w.drew 2 0 0 c
    · exact run_firstCells_some w.drew 2 n _ n c (flat L) (by rw [flat_length, hcl]) (fun j v hj => by rw [Addr.add_lit, Nat.zero_add]; exact hc j v hj)
  have hrun : ∀ ty, (Builtin.append_ #[115, 115] ty #[.slice base n c, .slice (some ⟨vb, 0, none⟩) 1 1]).run Try.prog w = _ := fun ty =>
    run_append_grow_src w 115 115 ty 121 i0 _ Try.underlying115 hi0 hz0 base n c (flat L) hold _ 1 (seatCells x) hsrc hroom (by omega) (by rw [hzb]; exact growslice_fits hroom (by omega))
  have hE : (Value.agg #[.string { data := #[] }, .int .i64 0]).cells = #[.string { data := #[] }, .int .i64 0] := rfl
  simp only [hE] at hrun
  clear hvs hsrc hold
  rcases hb with ⟨rfl, rfl⟩ | ⟨b, rfl, hc⟩
  · go_enter Try.func77, Try.ntmps77
    go_wp2_with (at_builtin; refine Lib.wpList_append_run _ rfl _ _ _ _ rfl _ _ rfl rfl _ _ (hrun _) ?_)
    go_ret
    exact ⟨rfl, rfl⟩
  · clear hc
    go_enter Try.func77, Try.ntmps77
    go_wp2_with (at_builtin; refine Lib.wpList_append_run _ rfl _ _ _ _ rfl _ _ rfl rfl _ _ (hrun _) ?_)
    all_goals (go_ret; exact ⟨rfl, rfl⟩)

theorem zeroSeat_size (k : Nat) : (Builtin.zeroCells #[.string { data := #[] }, .int .i64 0] k).size = k * 2 := by
  simp [Builtin.zeroCells]

set_option maxHeartbeats 4000000 in
set_option maxRecDepth 100000 in
theorem insert_grow (b n i vb : Nat) (L : List (ByteArray × Nat)) (x : ByteArray × Nat) (w : World) (hi : i < n) (hn : n ≤ 1000000) (hcl : L.length = n)
    (hcs : ∀ j v, (flat L)[j]? = some v → w.cell? ⟨b, j, none⟩ = some v)
    (hvs : ∀ j v, (seatCells x)[j]? = some v → w.cell? ⟨vb, j, none⟩ = some v) :
    Calls Try.prog 77 #[.slice (some ⟨b, 0, none⟩) n n, .int .i64 (i : Int), .slice (some ⟨vb, 0, none⟩) 1 1] w fun e w' =>
      e = .returned (.slice (some ⟨w.heap.size, 0, none⟩) (n + 1) (grownCap w (n + 1) n 121)) ∧
      w' = (((w.alloc (.cells ((flat (L.take i)).toArray ++ Builtin.zeroCells #[.string { data := #[] }, .int .i64 0] (n + 1 - i) ++ Builtin.zeroCells #[.string { data := #[] }, .int .i64 0] (grownCap w (n + 1) n 121 - (n + 1))) 121)).drew.setCells w.heap.size (i * 2) (seatCells x)).drew).setCells w.heap.size ((i + 1) * 2) (flat (L.drop i)) := by
  obtain ⟨i0, hi0, hz0, hzs, hzb⟩ := info_parts infoSeat
  have hz2 : ((i : Int) == (n : Int)) = false := beq_false_of_ne (by omega)
  have hz3 : (n : Int) < (n : Int) + 1 := by omega
  have hsz : (Try.prog.info? 121).map (·.size) = some 2 := by rw [hi0]; simp [hzs]
  have hbw : b < w.heap.size := World.block_lt_of_cell? _ _ (hcs 0 _ (List.getElem?_eq_getElem (by rw [flat_length]; omega)))
  have hvw : vb < w.heap.size := World.block_lt_of_cell? _ _ (hvs 0 _ rfl)
  have hkk : (n : Int) + 1 - (i : Int) = ((n + 1 - i : Nat) : Int) := by omega
  have hik : i + (n + 1 - i) = n + 1 := by omega
  have hold : (Builtin.firstCells i0.size i (.slice (some ⟨b, 0, none⟩) i n)).run Try.prog w.drew = .ok (flat (L.take i)).toArray w.drew := by
    rw [hzs]
    exact run_firstCells_some w.drew 2 i ⟨b, 0, none⟩ i n (flat (L.take i)) (by rw [flat_length, List.length_take]; omega) (fun j v hj => by
      rw [Addr.add_lit, Nat.zero_add]
      rw [← flat_take, List.getElem?_take] at hj
      split at hj
      · exact hcs j v hj
      · cases hj)
  have hrz : ∀ ty, (Builtin.append_ #[115, 3] ty #[.slice (some ⟨b, 0, none⟩) i n, .int .i64 ((n : Int) + 1 - (i : Int))]).run Try.prog w =
      .ok (.slice (some ⟨w.heap.size, 0, none⟩) (n + 1) (grownCap w (n + 1) n 121)) (w.drew.alloc (.cells ((flat (L.take i)).toArray ++ Builtin.zeroCells #[.string { data := #[] }, .int .i64 0] (n + 1 - i) ++ Builtin.zeroCells #[.string { data := #[] }, .int .i64 0] (grownCap w (n + 1) n 121 - (n + 1))) 121)) := fun ty => by
    have h := Lib.run_append_grow_zeros w 115 3 ty 121 i0 _ .i64 .i64 Try.underlying115 Try.underlying3 hi0 hz0 (some ⟨b, 0, none⟩) i n (flat (L.take i)) hold (n + 1 - i) (by omega) (by omega) (by omega) (by omega) (by rw [hzb]; omega) (by rw [hzb, hik]; exact growslice_fits (by omega) (by omega))
    rw [hik] at h
    rw [hkk]
    exact h
  obtain ⟨G, hG⟩ : ∃ G, G = grownCap w (n + 1) n 121 := ⟨_, rfl⟩
  obtain ⟨ROW, hROW⟩ : ∃ ROW : Array Value, ROW = (flat (L.take i)).toArray ++ Builtin.zeroCells #[.string { data := #[] }, .int .i64 0] (n + 1 - i) ++ Builtin.zeroCells #[.string { data := #[] }, .int .i64 0] (G - (n + 1)) := ⟨_, rfl⟩
  rw [← hG] at hrz ⊢
  rw [← hROW] at hrz ⊢
  have hRl : (n + 1) * 2 ≤ ROW.size := by
    rw [hROW, Array.size_append, Array.size_append, zeroSeat_size, zeroSeat_size]
    simp [flat_length]
    omega
  obtain ⟨W1, hW1⟩ : ∃ W1, W1 = w.drew.alloc (.cells ROW 121) := ⟨_, rfl⟩
  rw [← hW1] at hrz
  have hN : ∀ j, j < (n + 1) * 2 → (W1.cell? ⟨w.heap.size, j, none⟩).isSome = true := fun j hj => by
    rw [hW1, World.cell?_alloc_at (w := w.drew) ROW _ w.heap.size j rfl, Array.getElem?_eq_getElem (by omega)]; rfl
  have hNf : ∀ j, W1.frozen? ⟨w.heap.size, j, none⟩ = false := fun j => by rw [hW1]; exact World.frozen?_alloc_at (w := w.drew) ROW _ w.heap.size j rfl
  have hOb : ∀ j v, w.cell? ⟨b, j, none⟩ = some v → W1.cell? ⟨b, j, none⟩ = some v := fun j v h => by rw [hW1, World.cell?_alloc_past (w := w.drew) _ b j hbw]; exact h
  have hOv : ∀ j v, w.cell? ⟨vb, j, none⟩ = some v → W1.cell? ⟨vb, j, none⟩ = some v := fun j v h => by rw [hW1, World.cell?_alloc_past (w := w.drew) _ vb j hvw]; exact h
  have hcpA : ∀ (W : World), (∀ x, W.cell? x = W1.cell? x) → (∀ x, W.frozen? x = W1.frozen? x) → ∀ ty dc, (Builtin.copy_ #[115, 115] ty #[.slice (some ⟨w.heap.size, i * 2, none⟩) (n + 1 - i) dc, .slice (some ⟨vb, 0, none⟩) 1 1]).run Try.prog W = .ok (goInt ((1 : Nat) : Int)) (W.setCells w.heap.size (i * 2) (seatCells x)) := fun W hWc hWf ty dc =>
    run_copy2 W _ _ ty 121 w.heap.size (i * 2) (n + 1 - i) dc ⟨vb, 0, none⟩ 1 1 1 (seatCells x) Try.underlying115 hsz (by simp only [Nat.min_def]; split <;> omega) rfl
      (fun j v hj => by rw [Addr.add_lit, Nat.zero_add, hWc]; exact hOv _ v (hvs j v hj))
      (fun j hj => by rw [hWc]; rw [seat_length] at hj; exact hN _ (by omega)) (fun j hj => by rw [hWf]; exact hNf _) (seat_one x)
  have hGn : n + 1 ≤ G := by rw [hG]; exact grownCap_ge w _ _ _
  have hG63 : G ≤ 9223372036854775807 := by
    have := grownCap_le_maxLen w (n + 1) n 121 (by unfold maxLen; omega)
    rw [← hG] at this
    unfold maxLen at this
    omega
  have hGi : ¬ (G = i) := by omega
  have hGim : ¬ (G = i + 1) := by omega
  have hci : ¬ (n = i) := by omega
  have hbN : b ≠ w.heap.size := by omega
  have hdl : (flat (L.drop i)).length = (n - i) * 2 := by rw [flat_length, List.length_drop, hcl]
  have hcpB : ∀ (W : World), (∀ y, W.cell? y = (W1.setCells w.heap.size (i * 2) (seatCells x)).cell? y) → (∀ y, W.frozen? y = (W1.setCells w.heap.size (i * 2) (seatCells x)).frozen? y) → ∀ ty dc sc, (Builtin.copy_ #[115, 115] ty #[.slice (some ⟨w.heap.size, (i + 1) * 2, none⟩) (n + 1 - (i + 1)) dc, .slice (some ⟨b, i * 2, none⟩) (n - i) sc]).run Try.prog W = .ok (goInt ((n - i : Nat) : Int)) (W.setCells w.heap.size ((i + 1) * 2) (flat (L.drop i))) := fun W hWc hWf ty dc sc =>
    run_copy2 W _ _ ty 121 w.heap.size ((i + 1) * 2) (n + 1 - (i + 1)) dc ⟨b, i * 2, none⟩ (n - i) sc (n - i) (flat (L.drop i)) Try.underlying115 hsz (by simp only [Nat.min_def]; split <;> omega) hdl
      (fun j v hj => by
        rw [Addr.add_lit, hWc, World.cell?_setCells_out _ _ _ _ _ (fun h _ => absurd h hbN)]
        rw [← flat_drop, List.getElem?_drop] at hj
        exact hOb _ v (hcs _ v hj))
      (fun j hj => by rw [hWc]; exact isSome_setCells _ (seatCells x) (i * 2) _ (fun t ht => by rw [seat_length] at ht; exact hN _ (by omega)) _ (hN _ (by omega)))
      (fun j hj => by rw [hWf, World.frozen?_setCells]; exact hNf _) (flat_one _)
  subst hW1
  have hE1 : ∀ x, ((w.alloc (.cells ROW 121)).drew).cell? x = (w.drew.alloc (.cells ROW 121)).cell? x := fun x => rfl
  have hE2 : ∀ x, ((w.alloc (.cells ROW 121)).drew).frozen? x = (w.drew.alloc (.cells ROW 121)).frozen? x := fun x => rfl
  have hF1 : ∀ y, (((w.alloc (.cells ROW 121)).drew.setCells w.heap.size (i * 2) (seatCells x)).drew).cell? y = ((w.drew.alloc (.cells ROW 121)).setCells w.heap.size (i * 2) (seatCells x)).cell? y := fun y => rfl
  have hF2 : ∀ y, (((w.alloc (.cells ROW 121)).drew.setCells w.heap.size (i * 2) (seatCells x)).drew).frozen? y = ((w.drew.alloc (.cells ROW 121)).setCells w.heap.size (i * 2) (seatCells x)).frozen? y := fun y => rfl
  have hw1 : IntKind.i64.wrap ((i : Int) + 1) = (i : Int) + 1 := by rw [IntKind.wrap_i64]; omega
  have hb1 : (0 : Int) ≤ (i : Int) + 1 := by omega
  have hin : i ≤ n := by omega
  have htn : ((i : Int) + 1).toNat = i + 1 := by omega
  have hb3 : (i : Int) ≤ (n : Int) := by omega
  clear hkk hik hold hROW hG hRl hN hNf hOb hOv hcs hvs hdl
  go_enter Try.func77, Try.ntmps77
  go_wp2_with (first
    | (at_builtin; refine Lib.wpList_append_run _ rfl _ _ _ _ rfl _ _ rfl rfl _ _ (hrz _) ?_)
    | (at_builtin; refine wpList_copy_runI _ rfl _ _ 115 115 rfl _ _ rfl rfl (hcpA _ hE1 hE2 _ _) ?_))
  go_region_law (refine step_copy_runI rfl _ _ 115 115 rfl (.slice (some ⟨w.heap.size, (i + 1) * 2, none⟩) (n + 1 - (i + 1)) (G - (i + 1))) (.slice (some ⟨b, i * 2, none⟩) (n - i) (n - i)) (by simp [Act.eval, Act.put]) (by simp [Act.eval, Act.put]) (hcpB _ hF1 hF2 3 (G - (i + 1)) (n - i)) ?_)
  go_wp2
  go_ret
  exact ⟨rfl, rfl⟩
end Go.Proofs.Ytfphjhmhiaepiaa
