/-
  Contracts of roster's barred and Valid, and of the reference's Valid: whether a text is a name hangs on its runes alone.
-/
import Derived.WalkSpells
import Derived.WalkLawsBesides
import Derived.ProofKit
import Derived.OpenShut
import Derived.Outline
import Derived.BigQuiet
import Derived.Deep.QuietTactic
import Derived.Laws.RangeAny
import Derived.Test.YtdacfnodihannaaGreatOrder
namespace Go.Proofs.YtdacfnodihannaaGreat
open Go.ChangeShapes Go.WideShapes Go.ChangeAt Go.RowKit

/-- The runes of a text from byte i on, at most b of them. -/
def runesOf (s : ByteArray) : (b i : Nat) → List Nat
  | 0, _ => []
  | b + 1, i => if i < s.size then (Utf8.decode s i).1 :: runesOf s b (i + (Utf8.decode s i).2) else []
def runes (s : ByteArray) : List Nat := runesOf s s.size 0
def barB (c : Nat) : Bool := decide (c < 33 ∨ c = 127 ∨ c = 61 ∨ c = 65533)
/-- k runes that may be lie ahead of l: together they are a name. -/
def runB (k : Nat) (l : List Nat) : Bool := decide (1 ≤ k + l.length ∧ k + l.length ≤ 20) && l.all (fun c => !barB c)
/-- A text is a name. -/
def vldB (s : ByteArray) : Bool := runB 0 (runes s)
theorem runesOf_at (s : ByteArray) (b i : Nat) (h : i < s.size) (hb : s.size ≤ i + b) : ∃ b', b = b' + 1 ∧ runesOf s b i = (Utf8.decode s i).1 :: runesOf s b' (i + (Utf8.decode s i).2) := by
  cases b with
  | zero => omega
  | succ b => exact ⟨b, rfl, by simp [runesOf, h]⟩
theorem runesOf_end (s : ByteArray) (b i : Nat) (h : ¬ i < s.size) : runesOf s b i = [] := by
  cases b with
  | zero => rfl
  | succ b => simp [runesOf, h]
theorem width_pos (s : ByteArray) (pos : Nat) (h : pos < s.size) : 1 ≤ (Utf8.decode s pos).2 := by
  by_cases ha : (s[pos]'h).toNat < 128
  · rw [decode_ascii s pos h ha]
    exact Nat.le_refl _
  · exact (decode_high s pos h (by omega)).2
theorem runB_long {k : Nat} {c : Nat} {l : List Nat} (h : 20 ≤ k) : runB k (c :: l) = false := by
  unfold runB
  rw [decide_eq_false (by simp; omega)]
  rfl
theorem runB_bar {k : Nat} {c : Nat} {l : List Nat} (h : barB c = true) : runB k (c :: l) = false := by
  unfold runB
  simp [h]
theorem runB_next {k : Nat} {c : Nat} {l : List Nat} (h : barB c = false) : runB k (c :: l) = runB (k + 1) l := by
  unfold runB
  rw [Bool.eq_iff_iff]
  simp [h]
  omega
theorem runB_nil {k : Nat} (h : k ≤ 20) : runB k [] = decide (0 < k) := by
  unfold runB
  by_cases e : 0 < k
  · rw [decide_eq_true (by simp; omega), decide_eq_true (by omega)]; rfl
  · rw [decide_eq_false (by simp; omega), decide_eq_false (by omega)]; rfl

set_option maxHeartbeats 1000000 in
theorem rosterBarred_any (c : Nat) (w : World) :
    Calls Tryz.prog 58 #[.int .i32 (c : Int)] w fun e w' => e = .returned (.bool (barB c)) ∧ w' = w := by
  by_cases h1 : (c : Int) < 33
  · go_enter Tryz.func58, Tryz.ntmps58
    go_wp2
    go_ret
    exact ⟨by rw [barB, decide_eq_true (by omega)]; rfl, rfl⟩
  by_cases h2 : c = 127
  · subst h2
    go_enter Tryz.func58, Tryz.ntmps58
    go_wp2
    go_ret
    exact ⟨rfl, rfl⟩
  by_cases h3 : c = 61
  · subst h3
    go_enter Tryz.func58, Tryz.ntmps58
    go_wp2
    go_ret
    exact ⟨rfl, rfl⟩
  by_cases h4 : c = 65533
  · subst h4
    go_enter Tryz.func58, Tryz.ntmps58
    go_wp2
    go_ret
    exact ⟨rfl, rfl⟩
  have k2 : ((c : Int) == 127) = false := beq_false_of_ne (by omega)
  have k3 : ((c : Int) == 61) = false := beq_false_of_ne (by omega)
  have k4 : ((c : Int) == 65533) = false := beq_false_of_ne (by omega)
  go_enter Tryz.func58, Tryz.ntmps58
  go_wp2
  go_ret
  exact ⟨by rw [barB, decide_eq_false (by omega)]; rfl, rfl⟩

set_option maxRecDepth 1000000 in
set_option maxHeartbeats 2000000 in
theorem valid_any (s : ByteArray) (w : World) :
    Calls Tryz.prog 34 #[.string s] w fun e w' => e = .returned (.bool (vldB s)) ∧ Below w.heap.size w w' := by
  have B : ∀ pos, Below w.heap.size w (w.iter s pos) := fun pos => (Below.refl _ w).alloc (Nat.le_refl _) _
  go_enter Tryz.func34, Tryz.ntmps34
  go_wp2
  go_loopw [3] (fun n w' => ∃ (pos b k : Nat), w' = w.iter s pos ∧ n = .int .i64 (k : Int) ∧ k ≤ 20 ∧ s.size ≤ pos + b ∧ runB k (runesOf s b pos) = vldB s) (fun _ w' => s.size - w'.iterPos w.heap.size)
  case atStart => exact ⟨0, s.size, 0, rfl, rfl, by omega, by omega, rfl⟩
  case round =>
    obtain ⟨pos, b, k, rfl, rfl, hk, hb, hg⟩ := hrel
    by_cases hp : pos < s.size
    · have hnx : ∀ ty, (Instr.next (.pointer (some ⟨w.heap.size, 0, none⟩)) true ty).run Tryz.prog (w.iter s pos) = _ := fun ty => run_next_any w s pos ty hp
      have hwd := width_pos s pos hp
      obtain ⟨b', rfl, hr⟩ := runesOf_at s b pos hp hb
      rw [hr] at hg
      have HG : Hid (runB k ((Utf8.decode s pos).1 :: runesOf s b' (pos + (Utf8.decode s pos).2)) = vldB s) := hg
      clear hg hr
      have F := rosterBarred_any (Utf8.decode s pos).1
      generalize (Utf8.decode s pos).1 = c at *
      by_cases h20 : (20 : Int) < (k : Int) + 1
      · go_wp2_with fail
        go_ret
        exact ⟨by rw [← HG.out, runB_long (by omega)]; rfl, B _⟩
      · cases hc : barB c
        · rw [hc] at F
          go_wp2_with fail
          refine (F _).mono ?_
          rintro e w1 ⟨rfl, rfl⟩
          go_wp2_with fail
          go_roundw
          case rel => exact ⟨pos + (Utf8.decode s pos).2, b', k + 1, rfl, by simp, by omega, by omega, by rw [← HG.out, runB_next hc]⟩
          case measure => simp; omega
        · rw [hc] at F
          go_wp2_with fail
          refine (F _).mono ?_
          rintro e w1 ⟨rfl, rfl⟩
          go_wp2_with fail
          go_ret
          exact ⟨by rw [← HG.out, runB_bar hc]; rfl, B _⟩
    · have hnx : ∀ ty, (Instr.next (.pointer (some ⟨w.heap.size, 0, none⟩)) true ty).run Tryz.prog (w.iter s pos) = _ := fun ty => run_next_end w s pos ty hp
      rw [runesOf_end s b pos hp, runB_nil hk] at hg
      have HG : Hid (decide (0 < k) = vldB s) := hg
      clear hg
      go_wp2_with fail
      go_ret
      exact ⟨by rw [← HG.out]; rfl, B _⟩

theorem runesFrom_eq (s : ByteArray) : ∀ (b i : Nat) (acc : Array Value), Conv.runesFrom s b i acc = acc ++ ((runesOf s b i).map fun c : Nat => Value.int .i32 (c : Int)).toArray
  | 0, _, acc => by simp [Conv.runesFrom, runesOf]
  | b + 1, i, acc => by
    unfold Conv.runesFrom runesOf
    by_cases h : i < s.size
    · rw [if_pos h, if_pos h]
      show Conv.runesFrom s b (i + (Utf8.decode s i).2) (acc.push (.int .i32 (Int.ofNat (Utf8.decode s i).1))) = _
      rw [runesFrom_eq s b]
      simp
    · rw [if_neg h, if_neg h]
      simp
theorem runes_le (s : ByteArray) : ∀ (b i : Nat), (runesOf s b i).length ≤ b
  | 0, _ => by simp [runesOf]
  | b + 1, i => by
    unfold runesOf
    split
    · have := runes_le s b (i + (Utf8.decode s i).2)
      simp; omega
    · simp
theorem runB_drop (l : List Nat) (k : Nat) (h : k < l.length) (hb : barB l[k] = true) : runB 0 l = false := by
  unfold runB
  have : l.all (fun c => !barB c) = false := by
    rw [List.all_eq_false]
    exact ⟨l[k], List.getElem_mem h, by simp [hb]⟩
  rw [this]; simp
theorem runB_all (l : List Nat) (h1 : 1 ≤ l.length) (h2 : l.length ≤ 20) (hb : ∀ k, (h : k < l.length) → barB l[k] = false) : runB 0 l = true := by
  unfold runB
  have : l.all (fun c => !barB c) = true := by
    rw [List.all_eq_true]
    intro c hc
    obtain ⟨k, hk, rfl⟩ := List.getElem_of_mem hc
    simp [hb k hk]
  rw [this]; simp; omega
theorem bar_cases {c : Nat} (h : barB c = true) : (c : Int) < 33 ∨ (¬ (c : Int) < 33 ∧ c = 127) ∨ (¬ (c : Int) < 33 ∧ ¬ c = 127 ∧ c = 61) ∨ (¬ (c : Int) < 33 ∧ ¬ c = 127 ∧ ¬ c = 61 ∧ c = 65533) := by
  unfold barB at h
  rw [decide_eq_true_eq] at h
  omega
set_option maxRecDepth 1000000 in
set_option maxHeartbeats 4000000 in
theorem refValid_any (s : ByteArray) (w : World) (hs : s.size ≤ 300) :
    Calls Tryz.prog 43 #[.string s] w fun e w' => e = .returned (.bool (vldB s)) ∧ Below w.heap.size w w' := by
  obtain ⟨L, hL⟩ : ∃ L, runes s = L := ⟨_, rfl⟩
  have hlen : L.length ≤ 300 := by rw [← hL]; exact Nat.le_trans (runes_le s s.size 0) hs
  have hrs : Conv.runesFrom s s.size 0 #[] = (L.map fun c : Nat => Value.int .i32 (c : Int)).toArray := by rw [runesFrom_eq]; show _ = _; unfold runes at hL; rw [hL]; simp
  obtain ⟨C, hC, hCn⟩ : ∃ C, Hid (C = grownCap w L.length 0 21) ∧ L.length ≤ C := ⟨_, rfl, grownCap_ge w _ _ _⟩
  have hcm : C ≤ maxLen := by rw [hC.out]; exact grownCap_le_maxLen w _ _ _ (by unfold maxLen; omega)
  unfold maxLen at hcm
  obtain ⟨A, hA'⟩ : ∃ A : Array Value, A = (L.map fun c : Nat => Value.int .i32 (c : Int)).toArray ++ Array.replicate (C - L.length) (Value.int .i32 0) := ⟨_, rfl⟩
  have hA : Hid (A = _) := hA'
  clear hA'
  have hconv := run_runes_of_string (P := Tryz.prog) w 9 83 21 s Tryz.underlying9 Tryz.underlying83 Tryz.underlying21 (by rw [hrs]; simp; omega)
  rw [hrs] at hconv
  simp only [List.size_toArray, List.length_map] at hconv
  rw [← hC.out, ← hA.out] at hconv
  have hAl : L.length ≤ A.size := by rw [hA.out]; simp
  have hcell : ∀ k, (h : k < L.length) → A[k]? = some (.int .i32 (L[k] : Int)) := fun k h => by
    rw [hA.out]
    simp [Array.getElem?_append, h]
  have HV : Hid (vldB s = runB 0 L) := by show vldB s = _; unfold vldB; rw [hL]
  have B : Below w.heap.size w (w.alloc (.cells A 21)).drew := ((Below.refl _ w).alloc (Nat.le_refl _) _).drew
  clear hrs hL hA
  by_cases h1 : L.length < 1
  · have t1 : (L.length : Int) < 1 := by omega
    go_enter Tryz.func43, Tryz.ntmps43
    go_wp2
    go_ret
    refine ⟨?_, B⟩
    rw [HV.out, runB, decide_eq_false (by omega)]; rfl
  by_cases h2 : 20 < L.length
  · have t1 : ¬ (L.length : Int) < 1 := by omega
    have t2 : (20 : Int) < (L.length : Int) := by omega
    go_enter Tryz.func43, Tryz.ntmps43
    go_wp2
    go_ret
    refine ⟨?_, B⟩
    rw [HV.out, runB, decide_eq_false (by omega)]; rfl
  have t1 : ¬ (L.length : Int) < 1 := by omega
  have t2 : ¬ (20 : Int) < (L.length : Int) := by omega
  go_enter Tryz.func43, Tryz.ntmps43
  go_wp2
  go_loop [4] (fun i => ∃ k : Nat, i = .int .i64 (k : Int) ∧ k ≤ L.length ∧ ∀ j, (h : j < L.length) → j < k → barB L[j] = false) (fun i => L.length - (intOf i).toNat)
  case atStart => exact ⟨0, rfl, by omega, fun j _ h => absurd h (by omega)⟩
  case round =>
    obtain ⟨k, rfl, hk, hg⟩ := hrel
    by_cases hlt : k < L.length
    · have t3 : (k : Int) < (L.length : Int) := by omega
      have hc := hcell k hlt
      have HG : Hid (∀ j, (h : j < L.length) → j < k → barB L[j] = false) := hg
      have HB := runB_drop L k hlt
      clear hg hcell
      obtain ⟨c, HC'⟩ : ∃ c, L[k] = c := ⟨_, rfl⟩
      have HC : Hid (L[k] = c) := HC'
      clear HC'
      rw [HC.out] at hc HB
      cases hb : barB c
      · have hb' := hb
        unfold barB at hb'
        rw [decide_eq_false_iff_not] at hb'
        have k1 : ¬ (c : Int) < 33 := by omega
        have k2 : ((c : Int) == 127) = false := beq_false_of_ne (by omega)
        have k3 : ((c : Int) == 61) = false := beq_false_of_ne (by omega)
        have k4 : ((c : Int) == 65533) = false := beq_false_of_ne (by omega)
        clear hb'
        go_wp2
        go_round
        case rel => exact ⟨k + 1, by simp, by omega, fun j h hj => if e : j = k then by subst e; rw [HC.out]; exact hb else HG.out j h (by omega)⟩
        case measure => simp [intOf]; omega
      · have HB' : Hid (runB 0 L = false) := HB hb
        clear HB
        rcases bar_cases hb with hx | ⟨k1, rfl⟩ | ⟨k1, k2, rfl⟩ | ⟨k1, k2, k3, rfl⟩
        · go_wp2
          go_ret
          exact ⟨by rw [HV.out, HB'.out]; rfl, B⟩
        · go_wp2
          go_ret
          exact ⟨by rw [HV.out, HB'.out]; rfl, B⟩
        · go_wp2
          go_ret
          exact ⟨by rw [HV.out, HB'.out]; rfl, B⟩
        · go_wp2
          go_ret
          exact ⟨by rw [HV.out, HB'.out]; rfl, B⟩
    · obtain rfl : k = L.length := by omega
      have HG : Hid (runB 0 L = true) := runB_all L (by omega) (by omega) (fun j h => hg j h h)
      clear hg hcell
      go_wp2
      go_ret
      exact ⟨by rw [HV.out, HG.out]; rfl, B⟩
end Go.Proofs.YtdacfnodihannaaGreat
