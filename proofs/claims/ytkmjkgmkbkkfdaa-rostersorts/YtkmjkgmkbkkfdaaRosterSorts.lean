/-
  RosterSorts: the names are told rising, each once, each found in its slot; what is told may be written over. For every room and every list of steps, no condition.
-/
import Derived.Test.YtkmjkgmkbkkfdaaFrame4
namespace Go.Proofs.Ytkmjkgmkbkkfdaa
open Go.ChangeShapes Go.WideShapes Go.ChangeAt Go.RowKit Go.Lib

set_option maxHeartbeats 1000000 in
theorem sorts_many (w : World) (room : Int) (v : Value) (n : Nat) (K T : Nat → Int) (N : Nat → ByteArray) (h : Ops w v n K T N) (hf : ¬ Few n N) :
    Calls Try.prog 7 #[.int .i64 room, v] w fun e w' => e = .returned (.bool true) ∧ Below w.heap.size w w' := by
  have F1 := awake4_any w
  have F2 := fun {w'} (h : Ops w' v n K T N) => few_no h hf
  clear hf
  go_enter Try.func7, Try.ntmps7
  go_wp2_with fail
  refine F1.mono ?_
  rintro e w1 ⟨rfl, hb⟩
  go_wp2_with fail
  refine (F2 (h.below (Nat.le_refl _) hb)).mono ?_
  rintro e w2 ⟨rfl, hb2⟩
  go_wp2_with fail
  go_ret
  exact ⟨rfl, hb.trans (hb2.mono hb.size)⟩
set_option maxHeartbeats 1000000 in
theorem sorts_room (w : World) (room : Int) (v : Value) (n : Nat) (K T : Nat → Int) (N : Nat → ByteArray) (h : Ops w v n K T N) (hf : Few n N) (hr : room < 1 ∨ (¬ room < 1 ∧ 100 < room)) :
    Calls Try.prog 7 #[.int .i64 room, v] w fun e w' => e = .returned (.bool true) ∧ Below w.heap.size w w' := by
  have F1 := awake4_any w
  have F2 := fun {w'} (h : Ops w' v n K T N) => few_yes h hf.1 hf.2
  clear hf
  rcases hr with hr | ⟨hr1, hr2⟩
  all_goals
    go_enter Try.func7, Try.ntmps7
    go_wp2_with fail
    refine F1.mono ?_
    rintro e w1 ⟨rfl, hb⟩
    go_wp2_with fail
    refine (F2 (h.below (Nat.le_refl _) hb)).mono ?_
    rintro e w2 ⟨rfl, hb2⟩
    go_wp2_with fail
    go_ret
    exact ⟨rfl, hb.trans (hb2.mono hb.size)⟩
/-- All names that are kept are names. -/
def AllVld (room : Nat) (sl : Nat → ByteArray) : Prop := ∀ i, i < room → sl i ≠ none4 → vldB (sl i) = true
theorem AllVld.upd {room : Nat} {sl : Nat → ByteArray} (h : AllVld room sl) (i : Nat) {a : ByteArray} (ha : a = none4 ∨ vldB a = true) : AllVld room (upd sl i a) := fun j hj hne => by
  by_cases e : j = i
  · subst e
    rw [upd_same] at hne ⊢
    rcases ha with ha | ha
    · exact absurd ha hne
    · exact ha
  · rw [upd_other _ _ e] at hne ⊢
    exact h j hj hne
/-- Put and Drop, whatever they answer: the roster goes on. -/
theorem put_on {w : World} {p q c room : Nat} {S : Option Addr} {sl : Nat → ByteArray} {L : List (ByteArray × Nat)} (h : Ros w p q S c room sl L) (hv : AllVld room sl) (B : Nat) (hB : B ≤ w.heap.size) (hO : ∀ k, own p q S k → B ≤ k) (name : ByteArray) :
    Calls Try.prog 13 #[.pointer (some ⟨p, 0, none⟩), .string name] w fun e w' => ∃ v S' c' sl' L', e = .returned v ∧ Ros w' p q S' c' room sl' L' ∧ Below B w w' ∧ AllVld room sl' ∧ ∀ k, own p q S' k → B ≤ k := by
  rcases put_cases room sl name with hv' | ⟨hv', i, hi, e⟩ | ⟨hv', hno, hfu⟩ | ⟨hv', hno, i, hi, hfr, hl⟩
  · exact (put_name h name hv').mono fun e w' ⟨he, hb⟩ => ⟨_, S, c, sl, L, he, h.below hb, hb.mono hB, hv, hO⟩
  · exact (put_twice h name hv' i hi e).mono fun e w' ⟨he, hb⟩ => ⟨_, S, c, sl, L, he, h.below hb, hb.mono hB, hv, hO⟩
  · exact (put_full h name hv' hno hfu).mono fun e w' ⟨he, hb⟩ => ⟨_, S, c, sl, L, he, h.below hb, hb.mono hB, hv, hO⟩
  · exact (put_ok h name hv' hno i hi hfr hl).mono fun e w' ⟨he, S', c', L', R', k', o'⟩ => ⟨_, S', c', _, L', he, R', k'.below hB hO, hv.upd i (.inr hv'), fun k hk => by
      rcases o' k hk with e | e
      · exact hO k e
      · omega⟩
theorem drop_on {w : World} {p q c room : Nat} {S : Option Addr} {sl : Nat → ByteArray} {L : List (ByteArray × Nat)} (h : Ros w p q S c room sl L) (hv : AllVld room sl) (B : Nat) (hB : B ≤ w.heap.size) (hO : ∀ k, own p q S k → B ≤ k) (name : ByteArray) :
    Calls Try.prog 15 #[.pointer (some ⟨p, 0, none⟩), .string name] w fun e w' => ∃ v S' c' sl' L', e = .returned v ∧ Ros w' p q S' c' room sl' L' ∧ Below B w w' ∧ AllVld room sl' ∧ ∀ k, own p q S' k → B ≤ k := by
  rcases least_ex (fun i => sl i = name ∧ name ≠ none4) room with hno | ⟨i, hi, ⟨e, hne⟩, _⟩
  · exact (drop_no h name (fun i hi e => Decidable.byContradiction fun k => hno i hi ⟨e, k⟩)).mono fun e w' ⟨he, hb⟩ => ⟨_, S, c, sl, L, he, h.below hb, hb.mono hB, hv, hO⟩
  · exact (drop_ok h name i hi e hne).mono fun e w' ⟨he, L', R', k'⟩ => ⟨_, S, c, _, L', he, R', k'.below hB hO, hv.upd i (.inl rfl), hO⟩

/-- A row of one's own: where its cells lie. -/
theorem own_cells {w : World} {base : Nat} {e : TypeId} {v : Value} {n : Nat} {xs : List Value} (h : w.ownsRow base e 1 v n xs) (f : Nat → ByteArray) (hf : ∀ i, i < n → xs[i]? = some (.string (f i))) :
    ∃ a cap, v = .slice a n cap ∧ n ≤ cap ∧ ∀ i, i < n → ∃ g, a = some ⟨g, 0, none⟩ ∧ base ≤ g ∧ w.cell? ⟨g, i, none⟩ = some (.string (f i)) ∧ w.frozen? ⟨g, i, none⟩ = false := by
  have hcs := fun g hg => h.cells (g := g) hg
  rcases h.2 with ⟨rfl, rfl⟩ | ⟨g, cap, cur, rfl, hb, hh, h1, h2, _⟩
  · exact ⟨none, 0, rfl, Nat.le_refl _, fun i hi => absurd hi (by omega)⟩
  · refine ⟨_, cap, rfl, h1, fun i hi => ⟨g, rfl, hb, ?_, ?_⟩⟩
    · have := hcs g rfl i _ (hf i hi)
      rw [Addr.add_lit, Nat.zero_add] at this
      exact this
    · simp [World.frozen?, hh]

set_option maxRecDepth 100000 in
set_option maxHeartbeats 8000000 in
theorem sorts_main (w : World) (room : Nat) (v : Value) (n : Nat) (K T : Nat → Int) (N : Nat → ByteArray) (h : Ops w v n K T N) (hf : Few n N) (hr1 : 1 ≤ room) (hr2 : room ≤ 100) :
    Calls Try.prog 7 #[.int .i64 (room : Int), v] w fun e w' => e = .returned (.bool true) ∧ Below w.heap.size w w' := by
  have F1 := awake4_any w
  have F2 := fun {w'} (h : Ops w' v n K T N) => few_yes h hf.1 hf.2
  have F4 := fun w => new_yes room w (by omega) (by omega)
  have t1 : ¬ (room : Int) < 1 := by omega
  have t2 : ¬ (100 : Int) < (room : Int) := by omega
  have hn := hf.1
  clear hf
  go_enter Try.func7, Try.ntmps7
  go_wp2_with fail
  refine F1.mono ?_
  rintro e w1 ⟨rfl, hb⟩
  go_wp2_with fail
  refine (F2 (h.below (Nat.le_refl _) hb)).mono ?_
  rintro e w3 ⟨rfl, hb2⟩
  have B3 := hb.trans (hb2.mono hb.size)
  have z3 := B3.size
  go_wp2_with fail
  refine (F4 _).mono ?_
  rintro e w4 ⟨rfl, R4, hb4, s4⟩
  have B4 := B3.trans (hb4.mono z3)
  have O4 : ∀ k, own (w3.heap.size + 1) w3.heap.size none k → w.heap.size ≤ k := fun k hk => by
    rcases hk with rfl | rfl | e
    · omega
    · omega
    · cases e
  obtain ⟨a, cap, rfl, g1, g2, _⟩ := id h
  obtain ⟨P, hP⟩ : ∃ P, P = w3.heap.size + 1 := ⟨_, rfl⟩
  obtain ⟨Q, hQ⟩ : ∃ Q, Q = w3.heap.size := ⟨_, rfl⟩
  rw [← hP] at R4 O4
  rw [← hQ] at R4 O4
  rw [← hP]
  clear hP hQ F1 F2 F4 hb hb2 hb4 B3
  go_wp2_with fail
  go_loopw [41] (fun i wr => ∃ k : Nat, i = .int .i64 (k : Int) ∧ k ≤ n ∧ Below w.heap.size w wr ∧ ∃ S c sl L, Ros wr P Q S c room sl L ∧ Hid (AllVld room sl) ∧ Hid (∀ k, own P Q S k → w.heap.size ≤ k)) (fun i _ => n - (RowKit.intOf i).toNat)
  case atStart => exact ⟨0, rfl, Nat.zero_le _, B4, none, 0, _, [], R4, fun i _ h => absurd rfl h, O4⟩
  case round =>
    clear R4 O4 B4
    obtain ⟨k, rfl, hk, B, S, c, sl, L, R, HV, HO⟩ := hrel
    have hz := B.size
    by_cases hlt : k < n
    · have t : (k : Int) < (n : Int) := by omega
      obtain ⟨_, _, e', _, _, hops⟩ := id h
      injection e' with e1 _ e2
      subst e1 e2
      obtain ⟨⟨b, off, rfl, k0, k1, k2⟩, _⟩ := hops k hlt
      have d0 := (B.cell (World.block_lt_of_cell? _ _ k0)).trans k0
      have d1 := (B.cell (World.block_lt_of_cell? _ _ k1)).trans k1
      have d2 := (B.cell (World.block_lt_of_cell? _ _ k2)).trans k2
      clear k0 k1 k2 hops
      generalize N k = y at *
      generalize K k = x at *
      generalize T k = z at *
      have R0 := R.below ((Below.refl _ wr).alloc (Nat.le_refl _) (.cells #[.int .i64 x, .int .i64 z, .string y] 35))
      have B0 : Below w.heap.size w (wr.alloc (.cells #[.int .i64 x, .int .i64 z, .string y] 35)) := B.alloc hz _
      have G1 := put_on R0 HV.out w.heap.size B0.size HO.out y
      have G2 := drop_on R0 HV.out w.heap.size B0.size HO.out y
      by_cases hx2 : x = 2
      · subst hx2
        go_wp2_with fail
        refine G2.mono ?_
        rintro e w6 ⟨u, S6, c6, sl6, L6, rfl, R6, hb6, V6, O6⟩
        go_wp2_with fail
        go_roundw
        case rel => exact ⟨k + 1, by simp, by omega, B0.trans hb6, S6, c6, sl6, L6, R6, V6, O6⟩
        case measure => simp [RowKit.intOf]; omega
      · have q2 : (x == 2) = false := beq_false_of_ne hx2
        clear hx2
        go_wp2_with fail
        refine G1.mono ?_
        rintro e w6 ⟨u, S6, c6, sl6, L6, rfl, R6, hb6, V6, O6⟩
        go_wp2_with fail
        go_roundw
        case rel => exact ⟨k + 1, by simp, by omega, B0.trans hb6, S6, c6, sl6, L6, R6, V6, O6⟩
        case measure => simp [RowKit.intOf]; omega
    · obtain rfl : k = n := by omega
      have t : ¬ (k : Int) < (k : Int) := by omega
      have G := sorted_any R
      have hle := R.seated.le
      go_wp2_with fail
      refine G.mono ?_
      rintro e w7 ⟨l, rfl, hb7, own7⟩
      have B7 := B.trans (hb7.mono hz)
      have R7 := R.below hb7
      have O7 : ∀ k, own P Q S k → k < wr.heap.size := fun k hk => R.there hk
      obtain ⟨la, lcap, rfl, hlc, hcells⟩ := own_cells own7 (nmOf L) (fun i hi => nameCells_at hi)
      have hg0 := hz
      obtain ⟨M, hM⟩ : ∃ M, M = wr.heap.size := ⟨_, rfl⟩
      rw [← hM] at hcells O7 hg0
      clear hM own7 hb7 R B G
      go_wp2_with fail
      go_loopw [61] (fun i wr => ∃ j : Nat, i = .int .i64 (j : Int) ∧ j ≤ L.length ∧ Below w7.heap.size w7 wr) (fun i _ => L.length - (RowKit.intOf i).toNat)
      case atStart => exact ⟨0, rfl, Nat.zero_le _, Below.refl _ _⟩
      case round =>
        obtain ⟨j, rfl, hj, hB⟩ := hrel
        have B8 := B7.trans (hB.mono B7.size)
        have R8 := R7.below hB
        by_cases hjl : j < L.length
        · have t3 : (j : Int) < (L.length : Int) := by omega
          obtain ⟨s1, s2, s3⟩ := R7.seated.at hjl
          have hvd := HV.out _ s1 (by rw [s2]; exact s3)
          rw [s2] at hvd
          have G1 := find_yes R8 (nmOf L j) (slOf L j) s1 s2 s3
          have G2 := fun {w'} (h : Ros w' P Q S c room sl L) => name_in h (slOf L j) s1
          rw [s2, decide_eq_true s3] at G2
          have G3 := fun w => valid_any (nmOf L j) w
          rw [hvd] at G3
          obtain ⟨g, rfl, hgM, hc, _⟩ := hcells j hjl
          have hd := (hB.cell (World.block_lt_of_cell? _ _ hc)).trans hc
          have HLT : Hid (∀ i, i < j → Lt (nmOf L i) (nmOf L j)) := fun i hi => R7.seated.sorted i j hi hjl
          have hcl := fun i (hi : i < L.length) => hcells i hi
          obtain ⟨y, HY⟩ : ∃ y, nmOf L j = y := ⟨_, rfl⟩
          rw [HY] at G1 G2 G3 hd
          by_cases hj0 : j = 0
          · subst hj0
            clear HLT hcells hcl hc HY s2 s3 hvd
            go_wp2_with fail
            refine G1.mono ?_
            rintro e w9 ⟨rfl, hb9⟩
            have BB := hB.trans (hb9.mono hB.size)
            go_wp2_with fail
            refine (G2 (R8.below hb9)).mono ?_
            rintro e w10 ⟨rfl, rfl⟩
            go_wp2_with fail
            refine (G3 _).mono ?_
            rintro e w11 ⟨rfl, hb11⟩
            have BC := BB.trans (hb11.mono BB.size)
            go_wp2_with fail
            go_roundw
            case rel => exact ⟨1, by simp, by omega, BC⟩
            case measure => simp [RowKit.intOf]; omega
          · obtain ⟨g', e', _, hc', _⟩ := hcells (j - 1) (by omega)
            injection e' with e'
            injection e' with e'
            subst e'
            have hd' := (hB.cell (World.block_lt_of_cell? _ _ hc')).trans hc'
            have hlt' : Op.bytesLess (nmOf L (j - 1)).toList (nmOf L j).toList = true := HLT.out (j - 1) (by omega)
            rw [HY] at hlt'
            obtain ⟨x, HX⟩ : ∃ x, nmOf L (j - 1) = x := ⟨_, rfl⟩
            rw [HX] at hlt' hd'
            have t4 : (0 : Int) < (j : Int) := by omega
            have t5 : ((j : Int) - 1).toNat = j - 1 := by omega
            have t6 : (0 : Int) ≤ (j : Int) - 1 := by omega
            have t7 : (j : Int) - 1 < (L.length : Int) := by omega
            have hlen := R7.len
            have t8 : (j : Int) ≤ 1024 := by omega
            clear HLT hcells hcl hc HY HX s2 s3 hvd hc'
            go_wp2_with fail
            refine G1.mono ?_
            rintro e w9 ⟨rfl, hb9⟩
            have BB := hB.trans (hb9.mono hB.size)
            have hd9 := (hb9.cell (World.block_lt_of_cell? _ _ hd')).trans hd'
            go_wp2_with fail
            refine (G2 (R8.below hb9)).mono ?_
            rintro e w10 ⟨rfl, rfl⟩
            go_wp2_with fail
            refine (G3 _).mono ?_
            rintro e w11 ⟨rfl, hb11⟩
            have BC := BB.trans (hb11.mono BB.size)
            go_wp2_with fail
            go_roundw
            case rel => exact ⟨j + 1, by simp, by omega, BC⟩
            case measure => simp [RowKit.intOf]; omega
        · obtain rfl : j = L.length := by omega
          have t3 : ¬ (L.length : Int) < (L.length : Int) := by omega
          have hc8 : ∀ i, i < L.length → ∃ g s, la = some ⟨g, 0, none⟩ ∧ M ≤ g ∧ wr.cell? ⟨g, i, none⟩ = some (.string s) ∧ wr.frozen? ⟨g, i, none⟩ = false := fun i hi => by
            obtain ⟨g, e, hgM, hc, hf⟩ := hcells i hi
            have hlt := World.block_lt_of_cell? _ _ hc
            exact ⟨g, _, e, hgM, (hB.cell hlt).trans hc, (hB.frozen (p := ⟨g, i, none⟩) hlt).trans hf⟩
          have hlaM : ∀ k, la = some ⟨k, 0, none⟩ → 0 < L.length → M ≤ k := fun k e hl => by
            obtain ⟨g, e', hgM, _⟩ := hcells 0 hl
            rw [e] at e'
            injection e' with e'
            injection e' with e'
            rw [e']
            exact hgM
          obtain ⟨w8, hw8⟩ : ∃ w8, w8 = wr := ⟨_, rfl⟩
          rw [← hw8] at hc8 R8 B8 ⊢
          clear hw8 hcells hB R7 B7
          go_wp2_with fail
          go_loopw [112] (fun i wr => ∃ j : Nat, i = .int .i64 (j : Int) ∧ j ≤ L.length ∧ But (fun k => la = some ⟨k, 0, none⟩ ∧ 0 < L.length) w8 wr ∧ Hid (∀ i, i < L.length → ∃ g s, la = some ⟨g, 0, none⟩ ∧ M ≤ g ∧ wr.cell? ⟨g, i, none⟩ = some (.string s) ∧ wr.frozen? ⟨g, i, none⟩ = false)) (fun i _ => L.length - (RowKit.intOf i).toNat)
          case atStart => exact ⟨0, rfl, Nat.zero_le _, But.refl _ _, hc8⟩
          case round =>
            clear hc8
            obtain ⟨j, rfl, hj, hB, hc9⟩ := hrel
            by_cases hjl : j < L.length
            · have t4 : (j : Int) < (L.length : Int) := by omega
              obtain ⟨g, s, rfl, hgM, hc, hf⟩ := hc9.out j hjl
              have hset : Hid (∀ i, i < L.length → ∃ g' s, (some ⟨g, 0, none⟩ : Option Addr) = some ⟨g', 0, none⟩ ∧ M ≤ g' ∧ (wr.setCell ⟨g, j, none⟩ (.string none4)).cell? ⟨g', i, none⟩ = some (.string s) ∧ (wr.setCell ⟨g, j, none⟩ (.string none4)).frozen? ⟨g', i, none⟩ = false) := fun i hi => by
                obtain ⟨g1, s1, e1, _, hc1, hf1⟩ := hc9.out i hi
                injection e1 with e1
                injection e1 with e1
                subst e1
                by_cases e : i = j
                · subst e
                  exact ⟨g, none4, rfl, hgM, World.cell?_setCell_same' _ _ _ (by rw [hc]; rfl), by rw [World.frozen?_setCell]; exact hf⟩
                · exact ⟨g, s1, rfl, hgM, by rw [World.cell?_setCell_other _ _ _ _ (by intro e'; injection e' with _ e2; exact e e2.symm)]; exact hc1, by rw [World.frozen?_setCell]; exact hf1⟩
              have hB' : But (fun k => (some ⟨g, 0, none⟩ : Option Addr) = some ⟨k, 0, none⟩ ∧ 0 < L.length) w8 (wr.setCell ⟨g, j, none⟩ (.string none4)) := hB.setCell g j _ (fun _ => ⟨rfl, by omega⟩)
              clear hc9 hB
              go_wp2_with fail
              go_roundw
              case rel => exact ⟨j + 1, by simp, by omega, hB', hset⟩
              case measure => simp [RowKit.intOf]; omega
            · obtain rfl : j = L.length := by omega
              have R9 := R8.kept hB (fun i hi ⟨e, hl⟩ => by have := O7 i hi; have := hlaM i e hl; omega)
              have B9 : Below w.heap.size w wr := B8.trans (hB.below B8.size (fun i ⟨e, hl⟩ => by have := hlaM i e hl; omega))
              have G1 := sorted_any R9
              have HZ : Hid (0 < L.length → nmOf L 0 ≠ none4) := fun hl => (R9.seated.at hl).2.2
              clear hB hc9 R8 B8
              go_wp2_with fail
              refine G1.mono ?_
              rintro e w10 ⟨l2, rfl, hb10, own10⟩
              have B10 := B9.trans (hb10.mono B9.size)
              have R10 := R9.below hb10
              obtain ⟨lb, lcap2, rfl, _, hcells2⟩ := own_cells own10 (nmOf L) (fun i hi => nameCells_at hi)
              have G2 := count_any R10
              clear own10 hb10 G1 R9
              by_cases hl0 : L.length = 0
              · have q1 : ((L.length : Int) == 0) = true := by rw [hl0]; rfl
                clear hcells2
                go_wp2_with fail
                refine G2.mono ?_
                rintro e w11 ⟨rfl, rfl⟩
                go_wp2_with fail
                go_ret
                exact ⟨by simp, B10⟩
              · have q1 : ((L.length : Int) == 0) = false := beq_false_of_ne (by omega)
                obtain ⟨g2, rfl, _, hc2, _⟩ := hcells2 0 (by omega)
                have he := empty_bytes (nmOf L 0)
                rw [decide_eq_false (HZ.out (by omega))] at he
                obtain ⟨y, HY⟩ : ∃ y, nmOf L 0 = y := ⟨_, rfl⟩
                rw [HY] at he hc2
                have t5 : (0 : Int) < (L.length : Int) := by omega
                clear hcells2 HY HZ
                go_wp2_with fail
                refine G2.mono ?_
                rintro e w11 ⟨rfl, rfl⟩
                go_wp2_with fail
                go_ret
                exact ⟨by simp, B10⟩

theorem rosterSorts_walk (w : World) (room : Int) (_hr : -9223372036854775808 ≤ room ∧ room ≤ 9223372036854775807) (v : Value) (n : Nat) (K T : Nat → Int) (N : Nat → ByteArray) (h : Ops w v n K T N) :
    Calls Try.prog 7 #[.int .i64 room, v] w fun e w' => e = .returned (.bool true) ∧ Below w.heap.size w w' := by
  by_cases hf : Few n N
  · by_cases h1 : room < 1
    · exact sorts_room w room v n K T N h hf (.inl h1)
    · by_cases h2 : 100 < room
      · exact sorts_room w room v n K T N h hf (.inr ⟨h1, h2⟩)
      · obtain ⟨r, rfl⟩ : ∃ r : Nat, room = (r : Int) := ⟨room.toNat, by omega⟩
        exact sorts_main w r v n K T N h hf (by omega) (by omega)
  · exact sorts_many w room v n K T N h hf

theorem rosterSorts_own : ownKnob Try.prog.godebug = none := by kernel_rfl
theorem rosterSorts_laidOut : laidOutB Try.prog = true := by kernel_rfl
set_option maxRecDepth 100000 in
theorem rosterSorts_lifted (os : Os) (started : os.Started) (H : Type) (enc : TypeId × Value → H) :
    ReturnsInHanded {} Try.checked os 7 .any (Rows.rosterSortsSpec.pre6 enc Try.prog Try.f7 Rows.rosterSortsRow.domain false) (Rows.rosterSortsSpec.post enc Try.prog Try.f7 false true false false) := by
  refine returnsInHanded_of_change (C := Try.checked) rosterSorts_own started (by kernel_rfl) Try.func7
    (ChangeSpec.witness6 (enc := enc) (C := Try.checked) false ⟨#[], #[.int .i64 0, .slice none 0 0], []⟩ 8 (by kernel_rfl) (by kernel_rfl) (by kernel_rfl) (by kernel_rfl)) ?_
  intro W base args ds gs before hval0 hW hcnd _
  have hval : ∀ (j : Nat) t v, Try.f7.params[j]? = some t → args[j]? = some v → Value.okWide Try.prog W .any base t v := hval0
  have hW' := hW
  obtain ⟨p, q, hA0, hV, rfl, hfz, hnd⟩ := hW
  have hA : DataW.TrodAll enc Try.prog W 0 (fun _ => true) true Try.f7.params.toList args.toList ds p := hA0
  rw [Try.params7] at hA hval
  obtain ⟨v0, vs0, d0, ds0, p0, q0, hargs, rfl, rfl, h0, r0⟩ := trodAll_cons hA
  obtain ⟨v1, vs1, d1, ds1, p1, q1, rfl, rfl, rfl, h1, r1⟩ := trodAll_cons r0
  obtain ⟨rfl, rfl, rfl⟩ := trodAll_nil r1
  obtain rfl : args = #[v0, v1] := by cases args; simp_all
  obtain ⟨rfl, rfl⟩ := trodVars_none hV
  obtain ⟨a0, rfl, rfl, rfl, w0⟩ := open_int Try.underlying3 (hval 0 3 v0 rfl rfl) h0
  have bd0 := bounds_i64 w0
  obtain ⟨ad1, n1, cap1, rfl⟩ := okWide_slice Try.underlying24 (hval 1 24 v1 rfl rfl)
  have k1 := h1
  have lt1 : ∀ x ∈ p1, x.block < W.heap.size := by obtain ⟨m, hm⟩ := k1; exact DataW.trod_lt m _ _ _ hm
  obtain ⟨K1, T1, N1, ops1⟩ : ∃ K T N, Ops W (.slice ad1 n1 cap1) n1 K T N := by obtain ⟨fuel, hf⟩ := h1; exact open_ops hf
  clear hA0 hval0
  simp only [List.append_nil, List.nil_append] at hW'
  refine (rosterSorts_walk W a0 bd0 _ n1 K1 T1 N1 ops1).mono fun e W' ⟨he, bel⟩ => ?_
  subst he
  exact ⟨_, rfl, _, _, _, [], _, [], hW', trodAll_mk1 (shut_bool Try.underlying4 _), (trodAll_cons_mk (shut_int Try.underlying3 w0) (trodAll_cons_mk (Below.trod rosterSorts_laidOut (by kernel_rfl) (of_decide_eq_true (by kernel_rfl)) k1 bel lt1) trodAll_mk0)), rfl, bel.frame _, fun h => by cases h⟩

/-- THE STATEMENT. -/
theorem rosterSorts_proved : Rows.RosterSortsSaid :=
  OpenClaim.holds_of_wide 7 Try.f7 rfl rfl rfl rfl rfl rfl rfl ⟨rfl, rfl, rfl, rfl, rfl⟩ rfl rfl rfl rfl rfl (by kernel_rfl) Try.func7 (by kernel_rfl)
    (of_decide_eq_true (by kernel_rfl)) (by unfold Func.isWrapper; first | (rw [if_pos (by decide +kernel)]; kernel_rfl) | (rw [if_neg (by decide +kernel)]; exact ⟨rfl, rfl⟩))
    (fun os started H enc _ => rosterSorts_lifted os started H enc)
#print axioms rosterSorts_proved
end Go.Proofs.Ytkmjkgmkbkkfdaa
