/-
  The reference's May, width and Value: which runes may stand in a value, how many bytes the first rune has, whether a text is a value.
-/
import Derived.Test.YtdbkoflejimibaaGreatDoorGB
namespace Go.Proofs.YtdbkoflejimibaaGreatDoor
open Go.ChangeShapes Go.WideShapes Go.ChangeAt Go.RowKit Go.Lib

theorem tagRunes_eq (s : ByteArray) : ∀ (b i : Nat) (acc : Array Value), s.size ≤ i + b → Conv.runesFrom s b i acc = acc ++ ((runesL (s.data.toList.drop i)).map fun c : Nat => Value.int .i32 (c : Int)).toArray
  | 0, i, acc, h => by
    have : s.data.toList.drop i = [] := List.drop_eq_nil_of_le (by rw [← size_eq]; omega)
    rw [this, runesL_nil]
    simp [Conv.runesFrom]
  | b + 1, i, acc, h => by
    unfold Conv.runesFrom
    by_cases hi : i < s.size
    · have hne : s.data.toList.drop i ≠ [] := by
        intro e
        have := congrArg List.length e
        rw [List.length_drop, ← size_eq, List.length_nil] at this
        omega
      have hw := Go.Lib.width_pos s i
      rw [if_pos hi, runesL_step hne, decodeL_drop]
      show Conv.runesFrom s b (i + (Utf8.decode s i).2) (acc.push (.int .i32 (Int.ofNat (Utf8.decode s i).1))) = _
      rw [tagRunes_eq s b _ _ (by omega), List.drop_drop]
      simp
    · have : s.data.toList.drop i = [] := List.drop_eq_nil_of_le (by rw [← size_eq]; omega)
      rw [if_neg hi, this, runesL_nil]
      simp
theorem runesL_le (l : List UInt8) : (runesL l).length ≤ l.length := by
  refine byRunes (C := fun l => (runesL l).length ≤ l.length) (by simp [runesL_nil]) (fun l hne ih => ?_) l
  have := drop_less hne
  rw [runesL_step hne, List.length_cons]
  omega
/-- A text's runes, as a slice of them. -/
theorem conv_any (s : ByteArray) (hs : s.size ≤ 1000000) (w : World) : ∃ (C : Nat) (A : Array Value), (runesL s.data.toList).length ≤ C ∧ C ≤ maxLen ∧ (runesL s.data.toList).length ≤ A.size ∧ (∀ k, (h : k < (runesL s.data.toList).length) → A[k]? = some (.int .i32 ((runesL s.data.toList)[k] : Int))) ∧
    (convert 9 123 (.string s)).run Tryz.prog w = .ok (.slice (some ⟨w.heap.size, 0, none⟩) (runesL s.data.toList).length C) (w.alloc (.cells A 21)).drew := by
  have hle := runesL_le s.data.toList
  rw [← size_eq] at hle
  obtain ⟨L, hL⟩ : ∃ L, runesL s.data.toList = L := ⟨_, rfl⟩
  have hrs : Conv.runesFrom s s.size 0 #[] = (L.map fun c : Nat => Value.int .i32 (c : Int)).toArray := by rw [tagRunes_eq s s.size 0 #[] (by omega), List.drop_zero, hL]; simp
  rw [hL] at hle ⊢
  have hconv := run_runes_of_string (P := Tryz.prog) w 9 123 21 s Tryz.underlying9 Tryz.underlying123 Tryz.underlying21 (by rw [hrs]; simp; omega)
  rw [hrs] at hconv
  simp only [List.size_toArray, List.length_map] at hconv
  have hC := grownCap_ge w L.length 0 21
  refine ⟨grownCap w L.length 0 21, _, hC, grownCap_le_maxLen w _ _ _ (by unfold maxLen; omega), ?_, ?_, hconv⟩
  · simp
  · intro k h
    simp [Array.getElem?_append, h]

set_option maxHeartbeats 1000000 in
theorem may_any (c : Nat) (w : World) :
    Calls Tryz.prog 93 #[.int .i32 (c : Int)] w fun e w' => e = .returned (.bool (mayB c)) ∧ w' = w := by
  by_cases h1 : (31 : Int) < (c : Int)
  · by_cases h2 : c = 127
    · subst h2
      go_enter Tryz.func93, Tryz.ntmps93
      go_wp2
      go_ret
      exact ⟨rfl, rfl⟩
    by_cases h4 : c = 65533
    · subst h4
      go_enter Tryz.func93, Tryz.ntmps93
      go_wp2
      go_ret
      exact ⟨rfl, rfl⟩
    have k2 : ((c : Int) != 127) = true := by simp; omega
    have k4 : ((c : Int) != 65533) = true := by simp; omega
    go_enter Tryz.func93, Tryz.ntmps93
    go_wp2
    go_ret
    exact ⟨by rw [mayB, decide_eq_true (by omega)]; first | rfl | simp [k2, k4], rfl⟩
  · go_enter Tryz.func93, Tryz.ntmps93
    go_wp2
    go_ret
    exact ⟨by rw [mayB, decide_eq_false (by omega)]; rfl, rfl⟩

/-- A text is one rune that is right. -/
def One (l : List UInt8) : Prop := ∃ r, runesL l = [r] ∧ r ≠ 65533
theorem one_decode {l : List UInt8} (h : One l) : (decodeL l).1 ≠ 65533 ∧ runesL l = [(decodeL l).1] ∧ (decodeL l).2 = l.length := by
  obtain ⟨r, h1, h2⟩ := h
  have hne : l ≠ [] := by rintro rfl; rw [runesL_nil] at h1; cases h1
  have h3 := runesL_step hne
  rw [h1] at h3
  injection h3 with h4 h5
  refine ⟨by rw [← h4]; exact h2, by rw [h1, h4], ?_⟩
  have hle := decodeL_le l hne
  by_cases e : l.drop (decodeL l).2 = []
  · have := congrArg List.length e
    rw [List.length_drop, List.length_nil] at this
    omega
  · rw [runesL_step e] at h5
    cases h5
theorem one_head {l : List UInt8} {j : Nat} (h : One (l.take j)) : decodeL l = decodeL (l.take j) := by
  have h1 := one_decode h
  have hne : l.take j ≠ [] := by
    intro e
    obtain ⟨r, k, _⟩ := h
    rw [e, runesL_nil] at k
    cases k
  have := decode_ext (l.take j) (l.drop j) hne h1.1
  rw [List.take_append_drop] at this
  exact this
/-- The first rune, if it is right, is what the shortest head of one rune is. -/
theorem one_less {l : List UInt8} {j : Nat} (h : One (l.take j)) : (decodeL l).1 ≠ 65533 ∧ (decodeL l).2 ≤ j := by
  have h1 := one_decode h
  rw [← one_head h] at h1
  refine ⟨h1.1, ?_⟩
  rw [h1.2.2, List.length_take]
  omega
theorem one_at {l : List UInt8} (hne : l ≠ []) (h : (decodeL l).1 ≠ 65533) : runesL (l.take (decodeL l).2) = [(decodeL l).1] := by
  have hc := decode_cut l (decodeL l).2 hne h (Nat.le_refl _)
  have hw := decodeL_width l
  have hn : l.take (decodeL l).2 ≠ [] := by
    intro e
    have h1 := congrArg List.length e
    rw [List.length_take, List.length_nil] at h1
    have h2 := List.length_pos_iff.2 hne
    omega
  rw [runesL_step hn, hc]
  have : (l.take (decodeL l).2).drop (decodeL l).2 = [] := List.drop_eq_nil_of_le (by rw [List.length_take]; omega)
  rw [this, runesL_nil]
/-- How many bytes the first rune has, if it may stand in a value. -/
def widL (l : List UInt8) : Nat := if mayB (decodeL l).1 = true then (decodeL l).2 else 0
theorem one_of_len {l : List UInt8} (h : (runesL l).length = 1) : ∃ r, runesL l = [r] := List.length_eq_one_iff.1 h
set_option maxRecDepth 1000000 in
set_option maxHeartbeats 4000000 in
theorem width_any (s : ByteArray) (w : World) (hs : s.size ≤ 1000000) (h0 : 0 < s.size) :
    Calls Tryz.prog 81 #[.string s] w fun e w' => e = .returned (.int .i64 (widL s.data.toList : Int)) ∧ Below w.heap.size w w' := by
  have hne : s.data.toList ≠ [] := by
    intro e
    have := congrArg List.length e
    rw [← size_eq, List.length_nil] at this
    omega
  have hle := decodeL_le s.data.toList hne
  have h4 : (decodeL s.data.toList).2 ≤ 4 := by have := width_four s 0; rw [← decodeL_drop, List.drop_zero] at this; exact this
  have hw := decodeL_width s.data.toList
  rw [← size_eq] at hle
  have HL : Hid (∀ j, One (s.data.toList.take j) → (decodeL s.data.toList).1 ≠ 65533 ∧ (decodeL s.data.toList).2 ≤ j) := fun j h => one_less h
  have HA : Hid ((decodeL s.data.toList).1 ≠ 65533 → runesL (s.data.toList.take (decodeL s.data.toList).2) = [(decodeL s.data.toList).1]) := fun h => one_at hne h
  have HH : Hid (∀ j, One (s.data.toList.take j) → decodeL s.data.toList = decodeL (s.data.toList.take j)) := fun j h => one_head h
  clear hne
  go_enter Tryz.func81, Tryz.ntmps81
  go_wp2_with fail
  go_loopw [3] (fun i wr => ∃ (k : Nat), i = .int .i64 (k : Int) ∧ 1 ≤ k ∧ k ≤ 5 ∧ k ≤ s.size + 1 ∧ (∀ j, 1 ≤ j → j < k → ¬ One (s.data.toList.take j)) ∧ Below w.heap.size w wr) (fun i _ => 5 - (RowKit.intOf i).toNat)
  case atStart => exact ⟨1, rfl, by omega, by omega, by omega, fun j h1 h2 => by omega, Below.refl _ _⟩
  case round =>
    obtain ⟨k, rfl, k1, k5, ks, hno, hB⟩ := hrel
    have HN : Hid (∀ j, 1 ≤ j → j < k → ¬ One (s.data.toList.take j)) := hno
    clear hno
    by_cases hlt : k ≤ 4 ∧ k ≤ s.size
    · have t1 : (k : Int) ≤ 4 := by omega
      have t2 : (k : Int) ≤ (s.size : Int) := by omega
      have t3 : k ≤ s.size := hlt.2
      have el : (s.extract 0 k).data.toList = s.data.toList.take k := by rw [ext_head, mk_list]
      have esz : (s.extract 0 k).size ≤ 1000000 := by rw [size_eq, el, List.length_take]; omega
      obtain ⟨C, A, hC, hcm, hAs, hcell, hconv⟩ := conv_any (s.extract 0 k) esz wr
      have hz := hB.size
      have hB2 : Below w.heap.size w (wr.alloc (.cells A 21)).drew := (hB.alloc hz _).drew
      rw [el] at hC hAs hcell hconv
      unfold maxLen at hcm
      clear esz el
      by_cases h1 : (runesL (s.data.toList.take k)).length = 1
      · obtain ⟨r, hr⟩ := one_of_len h1
        rw [hr] at hC hAs hcell hconv
        simp only [List.length_cons, List.length_nil, Nat.zero_add] at hC hAs hcell hconv
        have hc0 := hcell 0 (by omega)
        simp only [List.getElem_cons_zero] at hc0
        have hA0 : 0 < A.size := by omega
        have q0 : (wr.alloc (.cells A 21)).cell? ⟨wr.heap.size, 0, none⟩ = some (.int .i32 (r : Int)) := by
          rw [World.cell?_alloc_new, hc0]
        clear hcell hc0
        by_cases hr5 : r = 65533
        · have HN2 : Hid (∀ j, 1 ≤ j → j < k + 1 → ¬ One (s.data.toList.take j)) := fun j j1 j2 => by
            by_cases e : j = k
            · subst e
              rintro ⟨r', h', h''⟩
              rw [hr] at h'
              injection h' with h'
              exact h'' (h'.symm.trans hr5)
            · exact HN.out j j1 (by omega)
          clear HN hr h1
          subst hr5
          go_wp2_with fail
          go_roundw
          case rel => exact ⟨k + 1, by simp, by omega, by omega, by omega, HN2.out, hB2⟩
          case measure => simp [RowKit.intOf]; omega
        · have t5 : ((r : Int) == 65533) = false := beq_false_of_ne (by omega)
          have t6 : ((r : Int) != 65533) = true := by simp; omega
          have hone : One (s.data.toList.take k) := ⟨r, hr, hr5⟩
          have hd := HH.out k hone
          have ho := one_decode hone
          rw [← hd, hr] at ho
          obtain ⟨o1, o2, o3⟩ := ho
          injection o2 with o2
          rw [List.length_take, ← size_eq] at o3
          have F := may_any r
          cases hm : mayB r
          · rw [hm] at F
            have HW : Hid (widL s.data.toList = 0) := by
              show widL _ = 0
              unfold widL
              rw [← o2, hm]
              rfl
            clear HN hr h1 hd o1 o2 o3 hone HL HA HH hle h4 hw
            go_wp2_with fail
            refine (F _).mono ?_
            rintro e w1 ⟨rfl, rfl⟩
            go_wp2_with fail
            go_ret
            exact ⟨by rw [HW.out]; rfl, hB2⟩
          · rw [hm] at F
            have HW : Hid (widL s.data.toList = k) := by
              show widL _ = k
              unfold widL
              rw [← o2, hm, if_pos rfl]
              omega
            clear HN hr h1 hd o1 o2 o3 hone HL HA HH hle h4 hw
            go_wp2_with fail
            refine (F _).mono ?_
            rintro e w1 ⟨rfl, rfl⟩
            go_wp2_with fail
            go_ret
            exact ⟨by rw [HW.out]; rfl, hB2⟩
      · have HN2 : Hid (∀ j, 1 ≤ j → j < k + 1 → ¬ One (s.data.toList.take j)) := fun j j1 j2 => by
          by_cases e : j = k
          · subst e
            rintro ⟨r', h', h''⟩
            exact h1 (by rw [h']; rfl)
          · exact HN.out j j1 (by omega)
        have t5 : (((runesL (s.data.toList.take k)).length : Int) == 1) = false := beq_false_of_ne (by omega)
        generalize runesL (s.data.toList.take k) = Lr at *
        clear HN hcell
        go_wp2_with fail
        go_roundw
        case rel => exact ⟨k + 1, by simp, by omega, by omega, by omega, HN2.out, hB2⟩
        case measure => simp [RowKit.intOf]; omega
    · have HW : Hid (widL s.data.toList = 0) := by
        show widL _ = 0
        unfold widL
        cases hm : mayB (decodeL s.data.toList).1
        · rfl
        · exfalso
          have h5 := HA.out (may_right hm)
          exact HN.out _ hw (by omega) ⟨_, h5, may_right hm⟩
      clear HL HA HH HN hle h4 hw
      by_cases t1 : (k : Int) ≤ 4
      · have t2 : ¬ (k : Int) ≤ (s.size : Int) := by omega
        clear hlt
        go_wp2_with fail
        go_ret
        exact ⟨by rw [HW.out]; rfl, hB⟩
      · clear hlt
        go_wp2_with fail
        go_ret
        exact ⟨by rw [HW.out]; rfl, hB⟩
end Go.Proofs.YtdbkoflejimibaaGreatDoor
/-
  The reference's Next and Fields: the same as the program's.
-/
namespace Go.Proofs.YtdbkoflejimibaaGreatDoor
open Go.ChangeShapes Go.WideShapes Go.ChangeAt Go.RowKit Go.Lib

/-- Where the value ends by its sign. -/
theorem next_end {l : List UInt8} {N b q : Nat} (hR : tagR l 0 0 = (N, b, 0)) (hM : q + runM (512 - q) ((l.drop b).drop q) = runM 512 (l.drop b)) (hq : q < (l.drop b).length) (h1 : (l.drop b).getD q 0 = 1) (h0 : 0 < q) :
    nextL l = (((N : Int), mk ((l.drop b).take q)), b + q + 1, 0) := by
  have hd : decodeL ((l.drop b).drop q) = (1, 1) := by
    have hne := drop_ne hq
    cases hx : (l.drop b).drop q with
    | nil => exact absurd hx hne
    | cons c r =>
      have : c = 1 := by
        have e := getD_dropU (l.drop b) q 0
        rw [hx, Nat.add_zero, h1] at e
        exact e
      subst this
      exact decode_one 1 r (by decide)
  have he : runM 512 (l.drop b) = q := by
    rw [← hM, runM_step _ (drop_ne hq), hd, if_neg (fun e => absurd e.1 (by decide))]
    rfl
  have hv : valL (l.drop b) = ((l.drop b).take q, 0) := by
    unfold valL
    rw [he, if_neg (by omega), if_neg (by
      rintro (e | e)
      · omega
      · exact e h1)]
  rw [next_good hR, hv]
  dsimp only
  rw [if_pos rfl, List.length_take, Nat.min_eq_left (Nat.le_of_lt hq)]
/-- Where a rune may not be, or is too much. -/
theorem next_stop {l : List UInt8} {N b q : Nat} (hR : tagR l 0 0 = (N, b, 0)) (hM : q + runM (512 - q) ((l.drop b).drop q) = runM 512 (l.drop b)) (hq : q < (l.drop b).length) (h5 : q ≤ 512) (h1 : ¬ ((l.drop b).getD q 0 = 1 ∧ 0 < q)) (hw : widL ((l.drop b).drop q) = 0 ∨ 512 < q + widL ((l.drop b).drop q)) :
    nextL l = (none8, 0, 81) := by
  have he : runM 512 (l.drop b) = q := by
    rw [← hM, run_end h5]
    · rfl
    · intro hm
      unfold widL at hw
      rw [if_pos hm] at hw
      have := decodeL_width ((l.drop b).drop q)
      omega
  have hv : valL (l.drop b) = ([], 81) := by
    unfold valL
    rw [he, if_neg (by omega), if_pos (by
      by_cases e : q = 0
      · exact .inl e
      · exact .inr (fun k => h1 ⟨k, by omega⟩))]
  rw [next_good hR, hv]
  dsimp only
  rw [if_neg (by decide)]
/-- Where the text ends. -/
theorem next_out {l : List UInt8} {N b q : Nat} (hR : tagR l 0 0 = (N, b, 0)) (hM : q + runM (512 - q) ((l.drop b).drop q) = runM 512 (l.drop b)) (hq : q = (l.drop b).length) : nextL l = (none8, 0, 82) := by
  have he : runM 512 (l.drop b) = q := by
    rw [← hM, List.drop_eq_nil_of_le (by omega), runM_nil]
    rfl
  have hv : valL (l.drop b) = ([], 82) := by
    unfold valL
    rw [he, if_pos hq]
  rw [next_good hR, hv]
  dsimp only
  rw [if_neg (by decide)]
/-- Where it goes on. -/
theorem next_on {l : List UInt8} {b q : Nat} (hM : q + runM (512 - q) ((l.drop b).drop q) = runM 512 (l.drop b)) (hq : q < (l.drop b).length) (hw : ¬ widL ((l.drop b).drop q) = 0) (h5 : ¬ 512 < q + widL ((l.drop b).drop q)) :
    q + widL ((l.drop b).drop q) + runM (512 - (q + widL ((l.drop b).drop q))) ((l.drop b).drop (q + widL ((l.drop b).drop q))) = runM 512 (l.drop b) ∧ q + widL ((l.drop b).drop q) ≤ (l.drop b).length := by
  have hm : mayB (decodeL ((l.drop b).drop q)).1 = true := by
    cases e : mayB (decodeL ((l.drop b).drop q)).1
    · exfalso
      apply hw
      unfold widL
      rw [e]
      rfl
    · rfl
  have e : widL ((l.drop b).drop q) = (decodeL ((l.drop b).drop q)).2 := by
    unfold widL
    rw [if_pos hm]
  rw [e] at h5 ⊢
  have := run_on (l := l.drop b) hq hm (by omega)
  have hle := decodeL_le _ (drop_ne hq)
  rw [List.length_drop] at hle
  exact ⟨by rw [← this]; exact hM, by omega⟩
theorem widL_four (s : ByteArray) (a : Nat) : widL (s.data.toList.drop a) ≤ 4 := by
  unfold widL
  split
  · rw [decodeL_drop]
    exact width_four s a
  · omega
set_option maxRecDepth 1000000 in
set_option maxHeartbeats 8000000 in
theorem refNext_any (s : ByteArray) (w : World) (hs : s.size ≤ 1000000) :
    Calls Tryz.prog 58 #[.string s] w fun e w' => e = .returned (.tuple #[.agg #[.int .i64 (nextL s.data.toList).1.1, .string (nextL s.data.toList).1.2], .int .i64 ((nextL s.data.toList).2.1 : Int), .int .i64 ((nextL s.data.toList).2.2 : Int)]) ∧ Below w.heap.size w w' := by
  obtain ⟨N, b, e0, hR⟩ : ∃ N b e0, tagR s.data.toList 0 0 = (N, b, e0) := ⟨_, _, _, rfl⟩
  have HBAD : Hid (e0 ≠ 0 → nextL s.data.toList = (none8, 0, e0)) := fun h => by have := next_bad (l := s.data.toList) (by rw [hR]; exact h); rw [hR] at this; exact this
  have HR : Hid (tagR s.data.toList 0 0 = (N, b, e0)) := hR
  have B0 := (Below.refl _ w).alloc (Nat.le_refl _) (.cells #[.int .i64 0, .string ⟨#[]⟩] 85)
  go_enter Tryz.func58, Tryz.ntmps58
  go_wp2_with fail
  go_loopw [5, 6] (fun u i w' => ∃ (k num : Nat), w' = w.alloc (.cells #[.int .i64 0, .string ⟨#[]⟩] 85) ∧ u = .int .i64 (num : Int) ∧ i = .int .i64 (k : Int) ∧ k ≤ s.size ∧ num ≤ 99999 ∧ tagR (s.data.toList.drop k) k num = (N, b, e0)) (fun _ i _ => s.size - (RowKit.intOf i).toNat)
  case atStart => exact ⟨0, 0, rfl, rfl, rfl, by omega, by omega, by rw [List.drop_zero]; exact hR⟩
  case round =>
    clear hR
    obtain ⟨k, num, rfl, rfl, rfl, hk, hn, hg⟩ := hrel
    by_cases hp : k < s.size
    · have t0 : (k : Int) < (s.size : Int) := by omega
      rw [drop_byte s hp, tagR] at hg
      obtain ⟨c, hc⟩ : ∃ c, (s[k]'hp).toNat = c := ⟨_, rfl⟩
      have hc8 : c < 256 := by rw [← hc]; exact UInt8.toNat_lt _
      rw [hc] at hg
      by_cases k0 : k = 0
      · subst k0
        by_cases c1 : (c : Int) < 48
        · have u1 : ((c : Int) != 61) = true := by simp; omega
          have HG : Hid (nextL s.data.toList = (none8, 0, 80)) := by
            rw [if_neg (by omega), if_pos (by omega)] at hg
            simp only [Prod.mk.injEq] at hg
            obtain ⟨rfl, rfl, rfl⟩ := hg
            exact HBAD.out (by decide)
          clear hg HBAD HR
          go_wp2_with fail
          refine bodyPost_ret (v := .tuple #[.agg #[.int .i64 0, .string ⟨#[]⟩], .int .i64 0, .int .i64 80]) (by simp [results, Tryz.results58, go_sem]) rfl ⟨by rw [HG.out]; rfl, B0⟩
        by_cases c4 : c = 61
        · subst c4
          have HG : Hid (nextL s.data.toList = (none8, 0, 80)) := by
            rw [if_neg (by omega), if_pos (by omega)] at hg
            simp only [Prod.mk.injEq] at hg
            obtain ⟨rfl, rfl, rfl⟩ := hg
            exact HBAD.out (by decide)
          clear hg HBAD HR
          go_wp2_with fail
          refine bodyPost_ret (v := .tuple #[.agg #[.int .i64 0, .string ⟨#[]⟩], .int .i64 0, .int .i64 80]) (by simp [results, Tryz.results58, go_sem]) rfl ⟨by rw [HG.out]; rfl, B0⟩
        have u1 : ((c : Int) != 61) = true := by simp; omega
        by_cases c2 : (57 : Int) < (c : Int)
        · have HG : Hid (nextL s.data.toList = (none8, 0, 80)) := by
            rw [if_neg (by omega), if_pos (by omega)] at hg
            simp only [Prod.mk.injEq] at hg
            obtain ⟨rfl, rfl, rfl⟩ := hg
            exact HBAD.out (by decide)
          clear hg HBAD HR
          go_wp2_with fail
          refine bodyPost_ret (v := .tuple #[.agg #[.int .i64 0, .string ⟨#[]⟩], .int .i64 0, .int .i64 80]) (by simp [results, Tryz.results58, go_sem]) rfl ⟨by rw [HG.out]; rfl, B0⟩
        by_cases c3 : c = 48
        · have HG : Hid (nextL s.data.toList = (none8, 0, 80)) := by
            rw [if_neg (by omega), if_pos (by omega)] at hg
            simp only [Prod.mk.injEq] at hg
            obtain ⟨rfl, rfl, rfl⟩ := hg
            exact HBAD.out (by decide)
          clear hg HBAD HR
          subst c3
          go_wp2_with fail
          refine bodyPost_ret (v := .tuple #[.agg #[.int .i64 0, .string ⟨#[]⟩], .int .i64 0, .int .i64 80]) (by simp [results, Tryz.results58, go_sem]) rfl ⟨by rw [HG.out]; rfl, B0⟩
        have t4 : ((c : Int) == 48) = false := beq_false_of_ne (by omega)
        by_cases hov : 99999 < 10 * num + (c - 48)
        · have t5 : (99999 : Int) < 10 * (num : Int) + ((c : Int) - 48) := by omega
          have HG : Hid (nextL s.data.toList = (none8, 0, 80)) := by
            rw [if_neg (by omega), if_neg (by omega), if_pos hov] at hg
            simp only [Prod.mk.injEq] at hg
            obtain ⟨rfl, rfl, rfl⟩ := hg
            exact HBAD.out (by decide)
          clear hg HBAD HR
          go_wp2_with fail
          refine bodyPost_ret (v := .tuple #[.agg #[.int .i64 0, .string ⟨#[]⟩], .int .i64 0, .int .i64 80]) (by simp [results, Tryz.results58, go_sem]) rfl ⟨by rw [HG.out]; rfl, B0⟩
        · have t5 : ¬ (99999 : Int) < 10 * (num : Int) + ((c : Int) - 48) := by omega
          rw [if_neg (by omega), if_neg (by omega), if_neg hov] at hg
          have HG : Hid (tagR (List.drop (0 + 1) s.data.toList) (0 + 1) (10 * num + (c - 48)) = (N, b, e0)) := hg
          clear hg
          go_wp2_with fail
          go_roundw
          case rel => exact ⟨0 + 1, 10 * num + (c - 48), trivial, by congr 1; omega, by simp, by omega, by omega, HG.out⟩
          case measure => simp [RowKit.intOf]; omega
      · have t1 : ((k : Int) == 0) = false := beq_false_of_ne (by omega)
        have t2 : (0 : Int) < (k : Int) := by omega
        by_cases c0 : c = 61
        · rw [if_pos (by omega)] at hg
          simp only [Prod.mk.injEq] at hg
          obtain ⟨rfl, rfl, rfl⟩ := hg
          have u1 : ((c : Int) != 61) = false := by simp [c0]
          have u2 : ((k : Int) == (s.size : Int)) = false := beq_false_of_ne (by omega)
          clear c0 HBAD
          go_wp2_with fail
          go_loopw [8] (fun i wr => ∃ (a q : Nat), i = .int .i64 (a : Int) ∧ a = k + 1 + q ∧ a ≤ s.size ∧ q ≤ 512 ∧ q + runM (512 - q) ((s.data.toList.drop (k + 1)).drop q) = runM 512 (s.data.toList.drop (k + 1)) ∧ Below (w.alloc (.cells #[.int .i64 0, .string ⟨#[]⟩] 85)).heap.size (w.alloc (.cells #[.int .i64 0, .string ⟨#[]⟩] 85)) wr) (fun i _ => s.size - (RowKit.intOf i).toNat)
          case atStart => exact ⟨k + 1, 0, by simp, by omega, by omega, by omega, by simp, Below.refl _ _⟩
          case round =>
            obtain ⟨a, q, rfl, ha, has, hq5, hM, hB⟩ := hrel
            have HA : Hid (a = k + 1 + q) := ha
            have HM : Hid (q + runM (512 - q) ((s.data.toList.drop (k + 1)).drop q) = runM 512 (s.data.toList.drop (k + 1))) := hM
            have hlen : (s.data.toList.drop (k + 1)).length = s.size - (k + 1) := by rw [List.length_drop, ← size_eq]
            have hdd : (s.data.toList.drop (k + 1)).drop q = s.data.toList.drop a := by rw [List.drop_drop, ha]
            have hla : k + 1 ≤ a := by omega
            have haI : (a : Int) ≤ 1000000 := by omega
            have hkI : (k : Int) ≤ 1000000 := by omega
            clear hM hc hc8 u1 u2
            by_cases hp2 : a < s.size
            · have v0 : (a : Int) < (s.size : Int) := by omega
              obtain ⟨c2, hc2⟩ : ∃ c2, (s[a]'hp2).toNat = c2 := ⟨_, rfl⟩
              have hg2 : (s.data.toList.drop (k + 1)).getD q 0 = 1 ↔ c2 = 1 := by
                have e : (s.data.toList.drop a).getD 0 0 = (s.data.toList.drop (k + 1)).getD q 0 := (congrArg (fun x => x.getD 0 0) hdd).symm.trans (getD_dropU (s.data.toList.drop (k + 1)) q 0)
                rw [drop_byte s hp2, List.getD_cons_zero] at e
                rw [← e, ← hc2]
                exact ⟨fun e => by rw [e]; rfl, fun e => UInt8.toNat_inj.1 e⟩
              by_cases g1 : c2 = 1 ∧ k + 1 < a
              · obtain ⟨g1, g2⟩ := g1
                have HG : Hid (nextL s.data.toList = (((num : Int), s.extract (k + 1) a), a + 1, 0)) := by
                  have := next_end HR.out HM.out (by rw [hlen]; omega) (hg2.2 g1) (by omega)
                  show _ = _
                  rw [this, ext_list, show a - (k + 1) = q by omega, show k + 1 + q + 1 = a + 1 by omega]
                have v1 : ((c2 : Int) == 1) = true := by simp [g1]
                have v2 : (k : Int) + 1 < (a : Int) := by omega
                have q0 : wr.cell? ⟨w.heap.size, 0, none⟩ = some (.int .i64 0) := (hB.cell (p := ⟨w.heap.size, 0, none⟩) (by simp)).trans (by simp)
                have q1 : wr.cell? ⟨w.heap.size, 1, none⟩ = some (.string ⟨#[]⟩) := (hB.cell (p := ⟨w.heap.size, 1, none⟩) (by simp)).trans (by simp)
                have z0 : wr.frozen? ⟨w.heap.size, 0, none⟩ = false := (hB.frozen (p := ⟨w.heap.size, 0, none⟩) (by simp)).trans (by simp)
                have z1 : wr.frozen? ⟨w.heap.size, 1, none⟩ = false := (hB.frozen (p := ⟨w.heap.size, 1, none⟩) (by simp)).trans (by simp)
                clear HA HM HR hg2 hdd hlen ha g1
                go_wp2_with fail
                refine bodyPost_ret (v := .tuple #[.agg #[.int .i64 (num : Int), .string (s.extract (k + 1) a)], .int .i64 ((a : Int) + 1), .int .i64 0]) (by simp [results, Tryz.results58, go_sem, q0, q1]) rfl ⟨by rw [HG.out]; rfl, ?_⟩
                exact ((((B0).trans (hB.mono (by simp))).setCell (by simp) _).setCell (by simp) _)
              · have G := fun w => width_any (s.extract a s.size) w (by rw [ext_tail, mk_size, List.length_drop, ← size_eq]; omega) (by rw [ext_tail, mk_size, List.length_drop, ← size_eq]; omega)
                have el : (s.extract a s.size).data.toList = s.data.toList.drop a := by rw [ext_tail, mk_list]
                have h4 := widL_four s a
                have HS := next_stop HR.out HM.out (by rw [hlen]; omega) hq5 (fun e => g1 ⟨hg2.1 e.1, by omega⟩)
                have HO := next_on HM.out (by rw [hlen]; omega)
                rw [el] at G
                rw [hdd, hlen] at HO
                rw [hdd] at HS
                obtain ⟨wd, hwd⟩ : ∃ wd, widL (s.data.toList.drop a) = wd := ⟨_, rfl⟩
                rw [hwd] at G h4 HS HO
                by_cases g2 : c2 = 1
                · have v1 : ((c2 : Int) == 1) = true := by simp [g2]
                  have v2 : ¬ (k : Int) + 1 < (a : Int) := by omega
                  have hw0 : wd = 0 := by
                    rw [← hwd]
                    unfold widL
                    rw [drop_byte s hp2, decode_one _ _ (by rw [hc2, g2]; decide), hc2, g2]
                    rfl
                  have HG : Hid (nextL s.data.toList = (none8, 0, 81)) := HS (.inl hw0)
                  subst hw0
                  clear HA HM HR hg2 hdd hlen ha g1 g2 HS HO hwd el
                  go_wp2_with fail
                  refine (G _).mono ?_
                  rintro e w2 ⟨rfl, hb2⟩
                  have hB2 := hB.trans (hb2.mono hB.size)
                  have q0 : w2.cell? ⟨w.heap.size, 0, none⟩ = some (.int .i64 0) := (hB2.cell (p := ⟨w.heap.size, 0, none⟩) (by simp)).trans (by simp)
                  have q1 : w2.cell? ⟨w.heap.size, 1, none⟩ = some (.string ⟨#[]⟩) := (hB2.cell (p := ⟨w.heap.size, 1, none⟩) (by simp)).trans (by simp)
                  have z0 : w2.frozen? ⟨w.heap.size, 0, none⟩ = false := (hB2.frozen (p := ⟨w.heap.size, 0, none⟩) (by simp)).trans (by simp)
                  have z1 : w2.frozen? ⟨w.heap.size, 1, none⟩ = false := (hB2.frozen (p := ⟨w.heap.size, 1, none⟩) (by simp)).trans (by simp)
                  go_wp2_with fail
                  refine bodyPost_ret (v := .tuple #[.agg #[.int .i64 0, .string ⟨#[]⟩], .int .i64 0, .int .i64 81]) (by simp [results, Tryz.results58, go_sem, q0, q1]) rfl ⟨by rw [HG.out]; rfl, ?_⟩
                  exact ((((B0).trans (hB2.mono (by simp))).setCell (by simp) _).setCell (by simp) _)
                · have v1 : ((c2 : Int) == 1) = false := beq_false_of_ne (by omega)
                  by_cases w0 : wd = 0
                  · have HG : Hid (nextL s.data.toList = (none8, 0, 81)) := HS (.inl w0)
                    subst w0
                    clear HA HM HR hg2 hdd hlen ha g1 g2 HS HO hwd el
                    go_wp2_with fail
                    refine (G _).mono ?_
                    rintro e w2 ⟨rfl, hb2⟩
                    have hB2 := hB.trans (hb2.mono hB.size)
                    have q0 : w2.cell? ⟨w.heap.size, 0, none⟩ = some (.int .i64 0) := (hB2.cell (p := ⟨w.heap.size, 0, none⟩) (by simp)).trans (by simp)
                    have q1 : w2.cell? ⟨w.heap.size, 1, none⟩ = some (.string ⟨#[]⟩) := (hB2.cell (p := ⟨w.heap.size, 1, none⟩) (by simp)).trans (by simp)
                    have z0 : w2.frozen? ⟨w.heap.size, 0, none⟩ = false := (hB2.frozen (p := ⟨w.heap.size, 0, none⟩) (by simp)).trans (by simp)
                    have z1 : w2.frozen? ⟨w.heap.size, 1, none⟩ = false := (hB2.frozen (p := ⟨w.heap.size, 1, none⟩) (by simp)).trans (by simp)
                    go_wp2_with fail
                    refine bodyPost_ret (v := .tuple #[.agg #[.int .i64 0, .string ⟨#[]⟩], .int .i64 0, .int .i64 81]) (by simp [results, Tryz.results58, go_sem, q0, q1]) rfl ⟨by rw [HG.out]; rfl, ?_⟩
                    exact ((((B0).trans (hB2.mono (by simp))).setCell (by simp) _).setCell (by simp) _)
                  · have y0 : ((wd : Int) == 0) = false := beq_false_of_ne (by omega)
                    by_cases w5 : 512 < q + wd
                    · have HG : Hid (nextL s.data.toList = (none8, 0, 81)) := HS (.inr w5)
                      have y1 : (512 : Int) < (a : Int) + (wd : Int) - ((k : Int) + 1) := by omega
                      clear HA HM HR hg2 hdd hlen ha g1 g2 HS HO hwd el w0
                      go_wp2_with fail
                      refine (G _).mono ?_
                      rintro e w2 ⟨rfl, hb2⟩
                      have hB2 := hB.trans (hb2.mono hB.size)
                      have q0 : w2.cell? ⟨w.heap.size, 0, none⟩ = some (.int .i64 0) := (hB2.cell (p := ⟨w.heap.size, 0, none⟩) (by simp)).trans (by simp)
                      have q1 : w2.cell? ⟨w.heap.size, 1, none⟩ = some (.string ⟨#[]⟩) := (hB2.cell (p := ⟨w.heap.size, 1, none⟩) (by simp)).trans (by simp)
                      have z0 : w2.frozen? ⟨w.heap.size, 0, none⟩ = false := (hB2.frozen (p := ⟨w.heap.size, 0, none⟩) (by simp)).trans (by simp)
                      have z1 : w2.frozen? ⟨w.heap.size, 1, none⟩ = false := (hB2.frozen (p := ⟨w.heap.size, 1, none⟩) (by simp)).trans (by simp)
                      go_wp2_with fail
                      refine bodyPost_ret (v := .tuple #[.agg #[.int .i64 0, .string ⟨#[]⟩], .int .i64 0, .int .i64 81]) (by simp [results, Tryz.results58, go_sem, q0, q1]) rfl ⟨by rw [HG.out]; rfl, ?_⟩
                      exact ((((B0).trans (hB2.mono (by simp))).setCell (by simp) _).setCell (by simp) _)
                    · have y1 : ¬ (512 : Int) < (a : Int) + (wd : Int) - ((k : Int) + 1) := by omega
                      have HN : Hid (q + wd + runM (512 - (q + wd)) ((s.data.toList.drop (k + 1)).drop (q + wd)) = runM 512 (s.data.toList.drop (k + 1)) ∧ q + wd ≤ s.size - (k + 1)) := HO w0 w5
                      clear HM hg2 hdd hlen ha g1 g2 HS HO hwd el
                      go_wp2_with fail
                      refine (G _).mono ?_
                      rintro e w2 ⟨rfl, hb2⟩
                      have hB2 := hB.trans (hb2.mono hB.size)
                      go_wp2_with fail
                      go_roundw
                      case rel => exact ⟨a + wd, q + wd, by simp, by have := HA.out; omega, by have := HN.out.2; have := HA.out; omega, by omega, HN.out.1, hB2⟩
                      case measure => simp [RowKit.intOf]; omega
            · obtain rfl : a = s.size := by omega
              have v0 : ¬ (s.size : Int) < (s.size : Int) := by omega
              have HG : Hid (nextL s.data.toList = (none8, 0, 82)) := next_out HR.out HM.out (by rw [hlen]; omega)
              have q0 : wr.cell? ⟨w.heap.size, 0, none⟩ = some (.int .i64 0) := (hB.cell (p := ⟨w.heap.size, 0, none⟩) (by simp)).trans (by simp)
              have q1 : wr.cell? ⟨w.heap.size, 1, none⟩ = some (.string ⟨#[]⟩) := (hB.cell (p := ⟨w.heap.size, 1, none⟩) (by simp)).trans (by simp)
              have z0 : wr.frozen? ⟨w.heap.size, 0, none⟩ = false := (hB.frozen (p := ⟨w.heap.size, 0, none⟩) (by simp)).trans (by simp)
              have z1 : wr.frozen? ⟨w.heap.size, 1, none⟩ = false := (hB.frozen (p := ⟨w.heap.size, 1, none⟩) (by simp)).trans (by simp)
              clear HA HM HR hdd hlen ha
              go_wp2_with fail
              refine bodyPost_ret (v := .tuple #[.agg #[.int .i64 0, .string ⟨#[]⟩], .int .i64 0, .int .i64 82]) (by simp [results, Tryz.results58, go_sem, q0, q1]) rfl ⟨by rw [HG.out]; rfl, ?_⟩
              exact ((((B0).trans (hB.mono (by simp))).setCell (by simp) _).setCell (by simp) _)
        have u1 : ((c : Int) != 61) = true := by simp; omega
        by_cases c1 : (c : Int) < 48
        · have HG : Hid (nextL s.data.toList = (none8, 0, 80)) := by
            rw [if_neg (by omega), if_pos (by omega)] at hg
            simp only [Prod.mk.injEq] at hg
            obtain ⟨rfl, rfl, rfl⟩ := hg
            exact HBAD.out (by decide)
          clear hg HBAD HR
          go_wp2_with fail
          refine bodyPost_ret (v := .tuple #[.agg #[.int .i64 0, .string ⟨#[]⟩], .int .i64 0, .int .i64 80]) (by simp [results, Tryz.results58, go_sem]) rfl ⟨by rw [HG.out]; rfl, B0⟩
        by_cases c2 : (57 : Int) < (c : Int)
        · have HG : Hid (nextL s.data.toList = (none8, 0, 80)) := by
            rw [if_neg (by omega), if_pos (by omega)] at hg
            simp only [Prod.mk.injEq] at hg
            obtain ⟨rfl, rfl, rfl⟩ := hg
            exact HBAD.out (by decide)
          clear hg HBAD HR
          go_wp2_with fail
          refine bodyPost_ret (v := .tuple #[.agg #[.int .i64 0, .string ⟨#[]⟩], .int .i64 0, .int .i64 80]) (by simp [results, Tryz.results58, go_sem]) rfl ⟨by rw [HG.out]; rfl, B0⟩
        by_cases hov : 99999 < 10 * num + (c - 48)
        · have t5 : (99999 : Int) < 10 * (num : Int) + ((c : Int) - 48) := by omega
          have HG : Hid (nextL s.data.toList = (none8, 0, 80)) := by
            rw [if_neg (by omega), if_neg (by omega), if_pos hov] at hg
            simp only [Prod.mk.injEq] at hg
            obtain ⟨rfl, rfl, rfl⟩ := hg
            exact HBAD.out (by decide)
          clear hg HBAD HR
          go_wp2_with fail
          refine bodyPost_ret (v := .tuple #[.agg #[.int .i64 0, .string ⟨#[]⟩], .int .i64 0, .int .i64 80]) (by simp [results, Tryz.results58, go_sem]) rfl ⟨by rw [HG.out]; rfl, B0⟩
        · have t5 : ¬ (99999 : Int) < 10 * (num : Int) + ((c : Int) - 48) := by omega
          rw [if_neg (by omega), if_neg (by omega), if_neg hov] at hg
          have HG : Hid (tagR (List.drop (k + 1) s.data.toList) (k + 1) (10 * num + (c - 48)) = (N, b, e0)) := hg
          clear hg
          go_wp2_with fail
          go_roundw
          case rel => exact ⟨k + 1, 10 * num + (c - 48), trivial, by congr 1; omega, by simp, by omega, by omega, HG.out⟩
          case measure => simp [RowKit.intOf]; omega
    · obtain rfl : k = s.size := by omega
      have t0 : ¬ (s.size : Int) < (s.size : Int) := by omega
      have t1 : decide ((s.size : Int) < (s.size : Int)) = false := by simp
      have he : s.data.toList.drop s.size = [] := List.drop_eq_nil_of_le (by rw [← size_eq]; omega)
      rw [he, tagR] at hg
      have HG : Hid (nextL s.data.toList = (none8, 0, 82)) := by
        simp only [Prod.mk.injEq] at hg
        obtain ⟨rfl, rfl, rfl⟩ := hg
        exact HBAD.out (by decide)
      clear hg he HBAD HR
      go_wp2_with fail
      refine bodyPost_ret (v := .tuple #[.agg #[.int .i64 0, .string ⟨#[]⟩], .int .i64 0, .int .i64 82]) (by simp [results, Tryz.results58, go_sem]) rfl ⟨by rw [HG.out]; rfl, B0⟩
end Go.Proofs.YtdbkoflejimibaaGreatDoor
/-
  The contract of the reference's Fields: all fields of a text.
-/
namespace Go.Proofs.YtdbkoflejimibaaGreatDoor
open Go.ChangeShapes Go.WideShapes Go.ChangeAt Go.RowKit Go.Lib

theorem infoF : (Tryz.prog.info? 85).map (fun i => (i.zero, i.size, i.bytes)) = some (some (.agg #[.int .i64 0, .string ⟨#[]⟩]), 2, 24) := by kernel_rfl
set_option maxRecDepth 1000000 in
set_option maxHeartbeats 4000000 in
theorem refFields_any (s : ByteArray) (w : World) (hs : s.size ≤ 1000000) :
    Calls Tryz.prog 32 #[.string s] w fun e w' => ∃ v, e = .returned (.tuple #[v, .int .i64 ((fieldsL s.data.toList).2.1 : Int), .int .i64 ((fieldsL s.data.toList).2.2 : Int)]) ∧ Grows w 85 w' v (fieldsL s.data.toList).1 := by
  obtain ⟨L, A, E, hR⟩ : ∃ L A E, fieldsL s.data.toList = (L, A, E) := ⟨_, _, _, rfl⟩
  rw [hR]
  dsimp only
  obtain ⟨i0, hi0, hz0, hzs, hzb⟩ := info_parts infoF
  go_enter Tryz.func32, Tryz.ntmps32
  go_wp2_with fail
  go_loopw [5, 6] (fun v i wr => ∃ (k : Nat) (acc : List Fd), i = .int .i64 (k : Int) ∧ k ≤ s.size ∧ acc.length ≤ 64 ∧ fieldsA (64 - acc.length) (s.data.toList.drop k) acc k = (L, A, E) ∧ Grows w 85 wr v acc) (fun _ i _ => s.size - (RowKit.intOf i).toNat)
  case atStart => exact ⟨0, [], rfl, by omega, by simp, by rw [List.drop_zero]; exact hR, Grows.none _ _ _ (Below.refl _ _)⟩
  case round =>
    clear hR
    obtain ⟨k, acc, rfl, hk, ha, hg, Q⟩ := hrel
    obtain ⟨a0, cap0, rfl⟩ := Q.shape
    obtain ⟨n, hn⟩ : ∃ n, acc.length = n := ⟨_, rfl⟩
    have hB := Q.below
    by_cases hp : k < s.size
    · have t0 : (k : Int) < (s.size : Int) := by omega
      have hne := drop_ne (l := s.data.toList) (k := k) (by rw [← size_eq]; exact hp)
      by_cases hf : n = 64
      · rw [hn, hf, fieldsA_full hne] at hg
        simp only [Prod.mk.injEq] at hg
        obtain ⟨rfl, rfl, rfl⟩ := hg
        have HQ : Hid (Grows w 85 wr (.slice a0 acc.length cap0) acc) := Q
        have t1 : (64 : Int) ≤ (acc.length : Int) := by omega
        clear hn hf Q hB hne
        go_wp2_with fail
        go_ret3
        exact ⟨_, rfl, HQ.out⟩
      · have t1 : ¬ (64 : Int) ≤ (acc.length : Int) := by omega
        have el : (s.extract k s.size).data.toList = s.data.toList.drop k := by rw [ext_tail, mk_list]
        have F := fun w => refNext_any (s.extract k s.size) w (by rw [size_eq, el, List.length_drop, ← size_eq]; omega)
        rw [el] at F
        obtain ⟨f, m, e1, hN⟩ : ∃ f m e1, nextL (s.data.toList.drop k) = (f, m, e1) := ⟨_, _, _, rfl⟩
        rw [hN] at F
        dsimp only at F
        by_cases he : e1 = 0
        · subst he
          rw [fieldsA_ok hne _ _ (by omega) (by rw [hN]), hN] at hg
          dsimp only at hg
          have hm := next_form (l := s.data.toList.drop k) (by rw [hN])
          rw [hN] at hm
          dsimp only at hm
          rw [List.length_drop, ← size_eq] at hm
          obtain ⟨_, m1, m2⟩ := hm
          rw [List.drop_drop] at hg
          have HG : Hid (fieldsA (64 - acc.length - 1) (s.data.toList.drop (k + m)) (acc ++ [f]) (k + m) = (L, A, E)) := hg
          have hn64 : acc.length ≤ 63 := by omega
          have HQ : Hid (Grows w 85 wr (.slice a0 acc.length cap0) acc) := Q
          clear hg hN el hn hf Q hB hne
          go_wp2_with fail
          refine (F _).mono ?_
          rintro e w1 ⟨rfl, hb1⟩
          have Q1 := HQ.out.still hb1
          have Q2 := (Q1.still ((Below.refl _ _).alloc (Nat.le_refl _) (.cells #[.int .i64 f.1, .string f.2] 85))).still ((Below.refl _ _).alloc (Nat.le_refl _) (.cells #[.int .i64 f.1, .string f.2] 85))
          have hown := Q2.own
          have hz := Q1.below.size
          have hcn := cell_fd_new2 w1 (.cells #[.int .i64 f.1, .string f.2] 85) f 85
          have H2 : Hid (Grows w 85 ((w1.alloc (.cells #[.int .i64 f.1, .string f.2] 85)).alloc (.cells #[.int .i64 f.1, .string f.2] 85)) (.slice a0 acc.length cap0) acc) := Q2
          clear Q1 Q2 hb1
          go_wp2_with (at_builtin; refine wpList_append_own_at _ rfl _ _ 59 rfl w.heap.size 85 i0 (.agg #[.int .i64 0, .string ⟨#[]⟩]) 2 24 Tryz.underlying59 hi0 hz0 hzs hzb rfl (by decide) _ _ _ rfl hown ⟨w1.heap.size + 1, 0, none⟩ 1 1 (fd2 f) rfl rfl ?hnews (fd2_one _) ?h63 ?hbytes ?hbase ?_)
          case hnews => exact hcn
          case h63 => unfold maxLen; omega
          case hbytes => omega
          case hbase => first | omega | (simp; omega)
          intro v5 w5 hown5 hg5 _ _
          have Q5 := H2.out.more hg5 hown5
          clear hown5 hg5 hown hcn
          go_wp2_with fail
          go_roundw
          case rel => exact ⟨k + m, acc ++ [f], by simp, by omega, by simp; omega, by rw [List.length_append]; exact HG.out, Q5⟩
          case measure => simp [RowKit.intOf]; omega
        · rw [fieldsA_err hne _ _ (by omega) (by rw [hN]; exact he), hN] at hg
          simp only [Prod.mk.injEq] at hg
          obtain ⟨rfl, rfl, rfl⟩ := hg
          have t2 : ((e1 : Int) == 0) = false := beq_false_of_ne (by omega)
          have HQ : Hid (Grows w 85 wr (.slice a0 acc.length cap0) acc) := Q
          clear hN el hn hf Q hB hne
          go_wp2_with fail
          refine (F _).mono ?_
          rintro e w1 ⟨rfl, hb1⟩
          have Q1 := HQ.out.still hb1
          have Q2 := Q1.still ((Below.refl _ _).alloc (Nat.le_refl _) (.cells #[.int .i64 f.1, .string f.2] 85))
          go_wp2_with fail
          go_ret3
          exact ⟨_, rfl, Q2⟩
    · obtain rfl : k = s.size := by omega
      have t0 : ¬ (s.size : Int) < (s.size : Int) := by omega
      have he : s.data.toList.drop s.size = [] := List.drop_eq_nil_of_le (by rw [← size_eq]; omega)
      rw [fieldsA_end he] at hg
      simp only [Prod.mk.injEq] at hg
      obtain ⟨rfl, rfl, rfl⟩ := hg
      have HQ : Hid (Grows w 85 wr (.slice a0 acc.length cap0) acc) := Q
      clear he hn Q hB
      go_wp2_with fail
      go_ret3
      exact ⟨_, rfl, HQ.out⟩
end Go.Proofs.YtdbkoflejimibaaGreatDoor
