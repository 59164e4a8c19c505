/-
  The reference's May, width and Value: which runes may stand in a value, how many bytes the first rune has, whether a text is a value.
-/
import Derived.Test.YtcgojnofkbjinaaTagNext
namespace Go.Proofs.Ytcgojnofkbjinaa
open Go.ChangeShapes Go.WideShapes Go.ChangeAt Go.RowKit Go.Lib

theorem runesFrom_eq (s : ByteArray) : ∀ (b i : Nat) (acc : Array Value), s.size ≤ i + b → Conv.runesFrom s b i acc = acc ++ ((runesL (s.data.toList.drop i)).map fun c : Nat => Value.int .i32 (c : Int)).toArray
  | 0, i, acc, h => by
    have : s.data.toList.drop i = [] := List.drop_eq_nil_of_le (by rw [← size_eq]; omega)
    rw [this, runesL_nil]
    simp [Conv.runesFrom]
  | b + 1, i, acc, h => by
    unfold Conv.runesFrom
    by_cases hi : i < s.size
    · have hne : s.data.toList.drop i ≠ [] := by
        intro e
        have := congrArg List.length e
        rw [List.length_drop, ← size_eq, List.length_nil] at this
        omega
      have hw := Go.Lib.width_pos s i
      rw [if_pos hi, runesL_step hne, decodeL_drop]
      show Conv.runesFrom s b (i + (Utf8.decode s i).2) (acc.push (.int .i32 (Int.ofNat (Utf8.decode s i).1))) = _
      rw [runesFrom_eq s b _ _ (by omega), List.drop_drop]
      simp
    · have : s.data.toList.drop i = [] := List.drop_eq_nil_of_le (by rw [← size_eq]; omega)
      rw [if_neg hi, this, runesL_nil]
      simp
theorem runesL_le (l : List UInt8) : (runesL l).length ≤ l.length := by
  refine byRunes (C := fun l => (runesL l).length ≤ l.length) (by simp [runesL_nil]) (fun l hne ih => ?_) l
  have := drop_less hne
  rw [runesL_step hne, List.length_cons]
  omega
/-- A text's runes, as a slice of them. -/
theorem conv_any (s : ByteArray) (hs : s.size ≤ 1000000) (w : World) : ∃ (C : Nat) (A : Array Value), (runesL s.data.toList).length ≤ C ∧ C ≤ maxLen ∧ (runesL s.data.toList).length ≤ A.size ∧ (∀ k, (h : k < (runesL s.data.toList).length) → A[k]? = some (.int .i32 ((runesL s.data.toList)[k] : Int))) ∧
    (convert 9 72 (.string s)).run Try.prog w = .ok (.slice (some ⟨w.heap.size, 0, none⟩) (runesL s.data.toList).length C) (w.alloc (.cells A 21)).drew := by
  have hle := runesL_le s.data.toList
  rw [← size_eq] at hle
  obtain ⟨L, hL⟩ : ∃ L, runesL s.data.toList = L := ⟨_, rfl⟩
  have hrs : Conv.runesFrom s s.size 0 #[] = (L.map fun c : Nat => Value.int .i32 (c : Int)).toArray := by rw [runesFrom_eq s s.size 0 #[] (by omega), List.drop_zero, hL]; simp
  rw [hL] at hle ⊢
  have hconv := run_runes_of_string (P := Try.prog) w 9 72 21 s Try.underlying9 Try.underlying72 Try.underlying21 (by rw [hrs]; simp; omega)
  rw [hrs] at hconv
  simp only [List.size_toArray, List.length_map] at hconv
  have hC := grownCap_ge w L.length 0 21
  refine ⟨grownCap w L.length 0 21, _, hC, grownCap_le_maxLen w _ _ _ (by unfold maxLen; omega), ?_, ?_, hconv⟩
  · simp
  · intro k h
    simp [Array.getElem?_append, h]

set_option maxHeartbeats 1000000 in
theorem may_any (c : Nat) (w : World) :
    Calls Try.prog 44 #[.int .i32 (c : Int)] w fun e w' => e = .returned (.bool (mayB c)) ∧ w' = w := by
  by_cases h1 : (31 : Int) < (c : Int)
  · by_cases h2 : c = 127
    · subst h2
      go_enter Try.func44, Try.ntmps44
      go_wp2
      go_ret
      exact ⟨rfl, rfl⟩
    by_cases h4 : c = 65533
    · subst h4
      go_enter Try.func44, Try.ntmps44
      go_wp2
      go_ret
      exact ⟨rfl, rfl⟩
    have k2 : ((c : Int) != 127) = true := by simp; omega
    have k4 : ((c : Int) != 65533) = true := by simp; omega
    go_enter Try.func44, Try.ntmps44
    go_wp2
    go_ret
    exact ⟨by rw [mayB, decide_eq_true (by omega)]; first | rfl | simp [k2, k4], rfl⟩
  · go_enter Try.func44, Try.ntmps44
    go_wp2
    go_ret
    exact ⟨by rw [mayB, decide_eq_false (by omega)]; rfl, rfl⟩

/-- A text is one rune that is right. -/
def One (l : List UInt8) : Prop := ∃ r, runesL l = [r] ∧ r ≠ 65533
theorem one_decode {l : List UInt8} (h : One l) : (decodeL l).1 ≠ 65533 ∧ runesL l = [(decodeL l).1] ∧ (decodeL l).2 = l.length := by
  obtain ⟨r, h1, h2⟩ := h
  have hne : l ≠ [] := by rintro rfl; rw [runesL_nil] at h1; cases h1
  have h3 := runesL_step hne
  rw [h1] at h3
  injection h3 with h4 h5
  refine ⟨by rw [← h4]; exact h2, by rw [h1, h4], ?_⟩
  have hle := decodeL_le l hne
  by_cases e : l.drop (decodeL l).2 = []
  · have := congrArg List.length e
    rw [List.length_drop, List.length_nil] at this
    omega
  · rw [runesL_step e] at h5
    cases h5
theorem one_head {l : List UInt8} {j : Nat} (h : One (l.take j)) : decodeL l = decodeL (l.take j) := by
  have h1 := one_decode h
  have hne : l.take j ≠ [] := by
    intro e
    obtain ⟨r, k, _⟩ := h
    rw [e, runesL_nil] at k
    cases k
  have := decode_ext (l.take j) (l.drop j) hne h1.1
  rw [List.take_append_drop] at this
  exact this
/-- The first rune, if it is right, is what the shortest head of one rune is. -/
theorem one_less {l : List UInt8} {j : Nat} (h : One (l.take j)) : (decodeL l).1 ≠ 65533 ∧ (decodeL l).2 ≤ j := by
  have h1 := one_decode h
  rw [← one_head h] at h1
  refine ⟨h1.1, ?_⟩
  rw [h1.2.2, List.length_take]
  omega
theorem one_at {l : List UInt8} (hne : l ≠ []) (h : (decodeL l).1 ≠ 65533) : runesL (l.take (decodeL l).2) = [(decodeL l).1] := by
  have hc := decode_cut l (decodeL l).2 hne h (Nat.le_refl _)
  have hw := decodeL_width l
  have hn : l.take (decodeL l).2 ≠ [] := by
    intro e
    have h1 := congrArg List.length e
    rw [List.length_take, List.length_nil] at h1
    have h2 := List.length_pos_iff.2 hne
    omega
  rw [runesL_step hn, hc]
  have : (l.take (decodeL l).2).drop (decodeL l).2 = [] := List.drop_eq_nil_of_le (by rw [List.length_take]; omega)
  rw [this, runesL_nil]
/-- How many bytes the first rune has, if it may stand in a value. -/
def widL (l : List UInt8) : Nat := if mayB (decodeL l).1 = true then (decodeL l).2 else 0
theorem one_of_len {l : List UInt8} (h : (runesL l).length = 1) : ∃ r, runesL l = [r] := List.length_eq_one_iff.1 h
set_option maxRecDepth 1000000 in
set_option maxHeartbeats 4000000 in
theorem width_any (s : ByteArray) (w : World) (hs : s.size ≤ 1000000) (h0 : 0 < s.size) :
    Calls Try.prog 39 #[.string s] w fun e w' => e = .returned (.int .i64 (widL s.data.toList : Int)) ∧ Below w.heap.size w w' := by
  have hne : s.data.toList ≠ [] := by
    intro e
    have := congrArg List.length e
    rw [← size_eq, List.length_nil] at this
    omega
  have hle := decodeL_le s.data.toList hne
  have h4 : (decodeL s.data.toList).2 ≤ 4 := by have := width_four s 0; rw [← decodeL_drop, List.drop_zero] at this; exact this
  have hw := decodeL_width s.data.toList
  rw [← size_eq] at hle
  have HL : Hid (∀ j, One (s.data.toList.take j) → (decodeL s.data.toList).1 ≠ 65533 ∧ (decodeL s.data.toList).2 ≤ j) := fun j h => one_less h
  have HA : Hid ((decodeL s.data.toList).1 ≠ 65533 → runesL (s.data.toList.take (decodeL s.data.toList).2) = [(decodeL s.data.toList).1]) := fun h => one_at hne h
  have HH : Hid (∀ j, One (s.data.toList.take j) → decodeL s.data.toList = decodeL (s.data.toList.take j)) := fun j h => one_head h
  clear hne
  go_enter Try.func39, Try.ntmps39
  go_wp2_with fail
  go_loopw [3] (fun i wr => ∃ (k : Nat), i = .int .i64 (k : Int) ∧ 1 ≤ k ∧ k ≤ 5 ∧ k ≤ s.size + 1 ∧ (∀ j, 1 ≤ j → j < k → ¬ One (s.data.toList.take j)) ∧ Below w.heap.size w wr) (fun i _ => 5 - (RowKit.intOf i).toNat)
  case atStart => exact ⟨1, rfl, by omega, by omega, by omega, fun j h1 h2 => by omega, Below.refl _ _⟩
  case round =>
    obtain ⟨k, rfl, k1, k5, ks, hno, hB⟩ := hrel
    have HN : Hid (∀ j, 1 ≤ j → j < k → ¬ One (s.data.toList.take j)) := hno
    clear hno
    by_cases hlt : k ≤ 4 ∧ k ≤ s.size
    · have t1 : (k : Int) ≤ 4 := by omega
      have t2 : (k : Int) ≤ (s.size : Int) := by omega
      have t3 : k ≤ s.size := hlt.2
      have el : (s.extract 0 k).data.toList = s.data.toList.take k := by rw [ext_head, mk_list]
      have esz : (s.extract 0 k).size ≤ 1000000 := by rw [size_eq, el, List.length_take]; omega
      obtain ⟨C, A, hC, hcm, hAs, hcell, hconv⟩ := conv_any (s.extract 0 k) esz wr
      have hz := hB.size
      have hB2 : Below w.heap.size w (wr.alloc (.cells A 21)).drew := (hB.alloc hz _).drew
      rw [el] at hC hAs hcell hconv
      unfold maxLen at hcm
      clear esz el
      by_cases h1 : (runesL (s.data.toList.take k)).length = 1
      · obtain ⟨r, hr⟩ := one_of_len h1
        rw [hr] at hC hAs hcell hconv
        simp only [List.length_cons, List.length_nil, Nat.zero_add] at hC hAs hcell hconv
        have hc0 := hcell 0 (by omega)
        simp only [List.getElem_cons_zero] at hc0
        have hA0 : 0 < A.size := by omega
        have q0 : (wr.alloc (.cells A 21)).cell? ⟨wr.heap.size, 0, none⟩ = some (.int .i32 (r : Int)) := by
          rw [World.cell?_alloc_new, hc0]
        clear hcell hc0
        by_cases hr5 : r = 65533
        · have HN2 : Hid (∀ j, 1 ≤ j → j < k + 1 → ¬ One (s.data.toList.take j)) := fun j j1 j2 => by
            by_cases e : j = k
            · subst e
              rintro ⟨r', h', h''⟩
              rw [hr] at h'
              injection h' with h'
              exact h'' (h'.symm.trans hr5)
            · exact HN.out j j1 (by omega)
          clear HN hr h1
          subst hr5
          go_wp2_with fail
          go_roundw
          case rel => exact ⟨k + 1, by simp, by omega, by omega, by omega, HN2.out, hB2⟩
          case measure => simp [RowKit.intOf]; omega
        · have t5 : ((r : Int) == 65533) = false := beq_false_of_ne (by omega)
          have t6 : ((r : Int) != 65533) = true := by simp; omega
          have hone : One (s.data.toList.take k) := ⟨r, hr, hr5⟩
          have hd := HH.out k hone
          have ho := one_decode hone
          rw [← hd, hr] at ho
          obtain ⟨o1, o2, o3⟩ := ho
          injection o2 with o2
          rw [List.length_take, ← size_eq] at o3
          have F := may_any r
          cases hm : mayB r
          · rw [hm] at F
            have HW : Hid (widL s.data.toList = 0) := by
              show widL _ = 0
              unfold widL
              rw [← o2, hm]
              rfl
            clear HN hr h1 hd o1 o2 o3 hone HL HA HH hle h4 hw
            go_wp2_with fail
            refine (F _).mono ?_
            rintro e w1 ⟨rfl, rfl⟩
            go_wp2_with fail
            go_ret
            exact ⟨by rw [HW.out]; rfl, hB2⟩
          · rw [hm] at F
            have HW : Hid (widL s.data.toList = k) := by
              show widL _ = k
              unfold widL
              rw [← o2, hm, if_pos rfl]
              omega
            clear HN hr h1 hd o1 o2 o3 hone HL HA HH hle h4 hw
            go_wp2_with fail
            refine (F _).mono ?_
            rintro e w1 ⟨rfl, rfl⟩
            go_wp2_with fail
            go_ret
            exact ⟨by rw [HW.out]; rfl, hB2⟩
      · have HN2 : Hid (∀ j, 1 ≤ j → j < k + 1 → ¬ One (s.data.toList.take j)) := fun j j1 j2 => by
          by_cases e : j = k
          · subst e
            rintro ⟨r', h', h''⟩
            exact h1 (by rw [h']; rfl)
          · exact HN.out j j1 (by omega)
        have t5 : (((runesL (s.data.toList.take k)).length : Int) == 1) = false := beq_false_of_ne (by omega)
        generalize runesL (s.data.toList.take k) = Lr at *
        clear HN hcell
        go_wp2_with fail
        go_roundw
        case rel => exact ⟨k + 1, by simp, by omega, by omega, by omega, HN2.out, hB2⟩
        case measure => simp [RowKit.intOf]; omega
    · have HW : Hid (widL s.data.toList = 0) := by
        show widL _ = 0
        unfold widL
        cases hm : mayB (decodeL s.data.toList).1
        · rfl
        · exfalso
          have h5 := HA.out (may_right hm)
          exact HN.out _ hw (by omega) ⟨_, h5, may_right hm⟩
      clear HL HA HH HN hle h4 hw
      by_cases t1 : (k : Int) ≤ 4
      · have t2 : ¬ (k : Int) ≤ (s.size : Int) := by omega
        clear hlt
        go_wp2_with fail
        go_ret
        exact ⟨by rw [HW.out]; rfl, hB⟩
      · clear hlt
        go_wp2_with fail
        go_ret
        exact ⟨by rw [HW.out]; rfl, hB⟩
end Go.Proofs.Ytcgojnofkbjinaa
