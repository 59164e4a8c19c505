/-
  Contracts of roster's barred and Valid, and of the reference's Valid: whether a text is a name hangs on its runes alone.
-/
import Derived.Test.YtdacfnodihannaaOrder
import Derived.WalkSpells
import Derived.WalkLawsBesides
import Derived.ProofKit
import Derived.OpenShut
import Derived.Outline
import Derived.BigQuiet
import Derived.Deep.QuietTactic
import Derived.Laws.RangeAny
namespace Go.Proofs.Ytdacfnodihannaa
open Go.ChangeShapes Go.WideShapes Go.ChangeAt Go.RowKit

/-- The runes of a text from byte i on, at most b of them. -/
def runesOf (s : ByteArray) : (b i : Nat) → List Nat
  | 0, _ => []
  | b + 1, i => if i < s.size then (Utf8.decode s i).1 :: runesOf s b (i + (Utf8.decode s i).2) else []
def runes (s : ByteArray) : List Nat := runesOf s s.size 0
def barB (c : Nat) : Bool := decide (c < 33 ∨ c = 127 ∨ c = 61 ∨ c = 65533)
/-- k runes that may be lie ahead of l: together they are a name. -/
def runB (k : Nat) (l : List Nat) : Bool := decide (1 ≤ k + l.length ∧ k + l.length ≤ 20) && l.all (fun c => !barB c)
/-- A text is a name. -/
def vldB (s : ByteArray) : Bool := runB 0 (runes s)
theorem runesOf_at (s : ByteArray) (b i : Nat) (h : i < s.size) (hb : s.size ≤ i + b) : ∃ b', b = b' + 1 ∧ runesOf s b i = (Utf8.decode s i).1 :: runesOf s b' (i + (Utf8.decode s i).2) := by
  cases b with
  | zero => omega
  | succ b => exact ⟨b, rfl, by simp [runesOf, h]⟩
theorem runesOf_end (s : ByteArray) (b i : Nat) (h : ¬ i < s.size) : runesOf s b i = [] := by
  cases b with
  | zero => rfl
  | succ b => simp [runesOf, h]
theorem width_pos (s : ByteArray) (pos : Nat) (h : pos < s.size) : 1 ≤ (Utf8.decode s pos).2 := by
  by_cases ha : (s[pos]'h).toNat < 128
  · rw [decode_ascii s pos h ha]
    exact Nat.le_refl _
  · exact (decode_high s pos h (by omega)).2
theorem runB_long {k : Nat} {c : Nat} {l : List Nat} (h : 20 ≤ k) : runB k (c :: l) = false := by
  unfold runB
  rw [decide_eq_false (by simp; omega)]
  rfl
theorem runB_bar {k : Nat} {c : Nat} {l : List Nat} (h : barB c = true) : runB k (c :: l) = false := by
  unfold runB
  simp [h]
theorem runB_next {k : Nat} {c : Nat} {l : List Nat} (h : barB c = false) : runB k (c :: l) = runB (k + 1) l := by
  unfold runB
  rw [Bool.eq_iff_iff]
  simp [h]
  omega
theorem runB_nil {k : Nat} (h : k ≤ 20) : runB k [] = decide (0 < k) := by
  unfold runB
  by_cases e : 0 < k
  · rw [decide_eq_true (by simp; omega), decide_eq_true (by omega)]; rfl
  · rw [decide_eq_false (by simp; omega), decide_eq_false (by omega)]; rfl

set_option maxHeartbeats 1000000 in
theorem rosterBarred_any (c : Nat) (w : World) :
    Calls Try.prog 51 #[.int .i32 (c : Int)] w fun e w' => e = .returned (.bool (barB c)) ∧ w' = w := by
  by_cases h1 : (c : Int) < 33
  · go_enter Try.func51, Try.ntmps51
    go_wp2
    go_ret
    exact ⟨by rw [barB, decide_eq_true (by omega)]; rfl, rfl⟩
  by_cases h2 : c = 127
  · subst h2
    go_enter Try.func51, Try.ntmps51
    go_wp2
    go_ret
    exact ⟨rfl, rfl⟩
  by_cases h3 : c = 61
  · subst h3
    go_enter Try.func51, Try.ntmps51
    go_wp2
    go_ret
    exact ⟨rfl, rfl⟩
  by_cases h4 : c = 65533
  · subst h4
    go_enter Try.func51, Try.ntmps51
    go_wp2
    go_ret
    exact ⟨rfl, rfl⟩
  have k2 : ((c : Int) == 127) = false := beq_false_of_ne (by omega)
  have k3 : ((c : Int) == 61) = false := beq_false_of_ne (by omega)
  have k4 : ((c : Int) == 65533) = false := beq_false_of_ne (by omega)
  go_enter Try.func51, Try.ntmps51
  go_wp2
  go_ret
  exact ⟨by rw [barB, decide_eq_false (by omega)]; rfl, rfl⟩

set_option maxRecDepth 1000000 in
set_option maxHeartbeats 2000000 in
theorem valid_any (s : ByteArray) (w : World) :
    Calls Try.prog 31 #[.string s] w fun e w' => e = .returned (.bool (vldB s)) ∧ Below w.heap.size w w' := by
  have B : ∀ pos, Below w.heap.size w (w.iter s pos) := fun pos => (Below.refl _ w).alloc (Nat.le_refl _) _
  go_enter Try.func31, Try.ntmps31
  go_wp2
  go_loopw [3] (fun n w' => ∃ (pos b k : Nat), w' = w.iter s pos ∧ n = .int .i64 (k : Int) ∧ k ≤ 20 ∧ s.size ≤ pos + b ∧ runB k (runesOf s b pos) = vldB s) (fun _ w' => s.size - w'.iterPos w.heap.size)
  case atStart => exact ⟨0, s.size, 0, rfl, rfl, by omega, by omega, rfl⟩
  case round =>
    obtain ⟨pos, b, k, rfl, rfl, hk, hb, hg⟩ := hrel
    by_cases hp : pos < s.size
    · have hnx : ∀ ty, (Instr.next (.pointer (some ⟨w.heap.size, 0, none⟩)) true ty).run Try.prog (w.iter s pos) = _ := fun ty => run_next_any w s pos ty hp
      have hwd := width_pos s pos hp
      obtain ⟨b', rfl, hr⟩ := runesOf_at s b pos hp hb
      rw [hr] at hg
      have HG : Hid (runB k ((Utf8.decode s pos).1 :: runesOf s b' (pos + (Utf8.decode s pos).2)) = vldB s) := hg
      clear hg hr
      have F := rosterBarred_any (Utf8.decode s pos).1
      generalize (Utf8.decode s pos).1 = c at *
      by_cases h20 : (20 : Int) < (k : Int) + 1
      · go_wp2_with fail
        go_ret
        exact ⟨by rw [← HG.out, runB_long (by omega)]; rfl, B _⟩
      · cases hc : barB c
        · rw [hc] at F
          go_wp2_with fail
          refine (F _).mono ?_
          rintro e w1 ⟨rfl, rfl⟩
          go_wp2_with fail
          go_roundw
          case rel => exact ⟨pos + (Utf8.decode s pos).2, b', k + 1, rfl, by simp, by omega, by omega, by rw [← HG.out, runB_next hc]⟩
          case measure => simp; omega
        · rw [hc] at F
          go_wp2_with fail
          refine (F _).mono ?_
          rintro e w1 ⟨rfl, rfl⟩
          go_wp2_with fail
          go_ret
          exact ⟨by rw [← HG.out, runB_bar hc]; rfl, B _⟩
    · have hnx : ∀ ty, (Instr.next (.pointer (some ⟨w.heap.size, 0, none⟩)) true ty).run Try.prog (w.iter s pos) = _ := fun ty => run_next_end w s pos ty hp
      rw [runesOf_end s b pos hp, runB_nil hk] at hg
      have HG : Hid (decide (0 < k) = vldB s) := hg
      clear hg
      go_wp2_with fail
      go_ret
      exact ⟨by rw [← HG.out]; rfl, B _⟩

theorem runesFrom_eq (s : ByteArray) : ∀ (b i : Nat) (acc : Array Value), Conv.runesFrom s b i acc = acc ++ ((runesOf s b i).map fun c : Nat => Value.int .i32 (c : Int)).toArray
  | 0, _, acc => by simp [Conv.runesFrom, runesOf]
  | b + 1, i, acc => by
    unfold Conv.runesFrom runesOf
    by_cases h : i < s.size
    · rw [if_pos h, if_pos h]
      show Conv.runesFrom s b (i + (Utf8.decode s i).2) (acc.push (.int .i32 (Int.ofNat (Utf8.decode s i).1))) = _
      rw [runesFrom_eq s b]
      simp
    · rw [if_neg h, if_neg h]
      simp
theorem runes_le (s : ByteArray) : ∀ (b i : Nat), (runesOf s b i).length ≤ b
  | 0, _ => by simp [runesOf]
  | b + 1, i => by
    unfold runesOf
    split
    · have := runes_le s b (i + (Utf8.decode s i).2)
      simp; omega
    · simp
theorem runB_drop (l : List Nat) (k : Nat) (h : k < l.length) (hb : barB l[k] = true) : runB 0 l = false := by
  unfold runB
  have : l.all (fun c => !barB c) = false := by
    rw [List.all_eq_false]
    exact ⟨l[k], List.getElem_mem h, by simp [hb]⟩
  rw [this]; simp
theorem runB_all (l : List Nat) (h1 : 1 ≤ l.length) (h2 : l.length ≤ 20) (hb : ∀ k, (h : k < l.length) → barB l[k] = false) : runB 0 l = true := by
  unfold runB
  have : l.all (fun c => !barB c) = true := by
    rw [List.all_eq_true]
    intro c hc
    obtain ⟨k, hk, rfl⟩ := List.getElem_of_mem hc
    simp [hb k hk]
  rw [this]; simp; omega
theorem bar_cases {c : Nat} (h : barB c = true) : (c : Int) < 33 ∨ (¬ (c : Int) < 33 ∧ c = 127) ∨ (¬ (c : Int) < 33 ∧ ¬ c = 127 ∧ c = 61) ∨ (¬ (c : Int) < 33 ∧ ¬ c = 127 ∧ ¬ c = 61 ∧ c = 65533) := by
  unfold barB at h
  rw [decide_eq_true_eq] at h
  omega
end Go.Proofs.Ytdacfnodihannaa
