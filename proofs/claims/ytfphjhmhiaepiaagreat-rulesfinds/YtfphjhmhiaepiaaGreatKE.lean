/-
  Texts in the order of their bytes: it is a strict order in which any two texts stand.
-/
import Derived.WalkKit
import Derived.Lib.Strings
import Derived.WalkSpells
import Derived.WalkLawsBesides
import Derived.ProofKit
import Derived.OpenShut
import Derived.Outline
import Derived.BigQuiet
import Derived.Deep.QuietTactic
import Derived.Laws.RangeAny
import Derived.Deep.RegionHeld3
import Derived.Deep.RegionWith
import Derived.Deep.CutRange
import Derived.Deep.CutBlock
import Derived.Deep.DeepCutAuto
import Derived.Deep.LoopGhost
import Derived.Lib.Walk
import Derived.Shelf.Spec.SlicesInsertGrow
import Derived.Deep.RegionLaw
import Derived.Test.YtfphjhmhiaepiaaGreatRows
namespace Go.Proofs.YtfphjhmhiaepiaaGreat

theorem less_irrefl : ∀ x : List UInt8, Op.bytesLess x x = false
  | [] => rfl
  | a :: x => by simp [Op.bytesLess, less_irrefl x]
theorem less_trans : ∀ x y z : List UInt8, Op.bytesLess x y = true → Op.bytesLess y z = true → Op.bytesLess x z = true
  | [], [], _, h, _ => by simp [Op.bytesLess] at h
  | [], _ :: _, [], _, h => by simp [Op.bytesLess] at h
  | [], _ :: _, _ :: _, _, _ => rfl
  | _ :: _, [], _, h, _ => by simp [Op.bytesLess] at h
  | _ :: _, _ :: _, [], _, h => by simp [Op.bytesLess] at h
  | a :: x, b :: y, c :: z, h, k => by
    simp only [Op.bytesLess, Bool.or_eq_true, Bool.and_eq_true, decide_eq_true_eq, beq_iff_eq] at h k ⊢
    rcases h with h | ⟨rfl, h⟩
    · rcases k with k | ⟨rfl, k⟩
      · exact .inl (UInt8.lt_trans h k)
      · exact .inl h
    · rcases k with k | ⟨rfl, k⟩
      · exact .inl k
      · exact .inr ⟨rfl, less_trans x y z h k⟩
theorem less_total : ∀ x y : List UInt8, Op.bytesLess x y = false → Op.bytesLess y x = false → x = y
  | [], [], _, _ => rfl
  | [], _ :: _, h, _ => by simp [Op.bytesLess] at h
  | _ :: _, [], _, h => by simp [Op.bytesLess] at h
  | a :: x, b :: y, h, k => by
    simp only [Op.bytesLess, Bool.or_eq_false_iff, decide_eq_false_iff_not, Bool.and_eq_false_iff, beq_eq_false_iff_ne] at h k
    have e : a = b := UInt8.le_antisymm (UInt8.not_lt.1 k.1) (UInt8.not_lt.1 h.1)
    subst e
    have h2 : Op.bytesLess x y = false := by rcases h.2 with h | h <;> first | exact h | exact absurd rfl h
    have k2 : Op.bytesLess y x = false := by rcases k.2 with h | h <;> first | exact h | exact absurd rfl h
    rw [less_total x y h2 k2]

/-- One text lies ahead of another. -/
def Lt (a b : ByteArray) : Prop := Op.bytesLess a.toList b.toList = true
theorem bytes_ext {a b : ByteArray} (h : a.toList = b.toList) : a = b := by
  rw [Lib.toList_data, Lib.toList_data] at h
  obtain ⟨⟨a⟩⟩ := a
  obtain ⟨⟨b⟩⟩ := b
  simp at h
  rw [h]
theorem beq_bytes (a b : ByteArray) : (a.toList == b.toList) = decide (a = b) := by
  by_cases h : a = b
  · subst h; simp
  · rw [decide_eq_false h, beq_eq_false_iff_ne]
    exact fun e => h (bytes_ext e)
theorem Lt.irrefl (a : ByteArray) : ¬ Lt a a := by unfold Lt; rw [less_irrefl]; simp
theorem Lt.trans {a b c : ByteArray} (h : Lt a b) (k : Lt b c) : Lt a c := less_trans _ _ _ h k
theorem Lt.total (a b : ByteArray) : Lt a b ∨ a = b ∨ Lt b a := by
  unfold Lt
  cases h : Op.bytesLess a.toList b.toList
  · cases k : Op.bytesLess b.toList a.toList
    · exact .inr (.inl (bytes_ext (less_total _ _ h k)))
    · exact .inr (.inr rfl)
  · exact .inl rfl
theorem Lt.asymm {a b : ByteArray} (h : Lt a b) : ¬ Lt b a := fun k => Lt.irrefl a (h.trans k)
theorem Lt.ne {a b : ByteArray} (h : Lt a b) : a ≠ b := fun e => by subst e; exact Lt.irrefl _ h
theorem not_lt_trans {a b c : ByteArray} (h : ¬ Lt b a) (k : ¬ Lt c b) : ¬ Lt c a := by
  intro hc
  rcases Lt.total a b with h1 | h1 | h1
  · exact k (hc.trans h1)
  · subst h1; exact k hc
  · exact h h1
/-- The text without a byte. -/
abbrev none4 : ByteArray := { data := #[] }
theorem none4_list : none4.toList = [] := by rw [Lib.toList_data]
theorem empty_of_toList {a : ByteArray} (h : a.toList = []) : a = none4 := bytes_ext (by rw [h, none4_list])
theorem empty_bytes (a : ByteArray) : a.toList.isEmpty = decide (a = none4) := by
  by_cases h : a = none4
  · subst h; rw [none4_list]; simp
  · rw [decide_eq_false h]
    cases e : a.toList with
    | nil => exact absurd (empty_of_toList e) h
    | cons x l => rfl
theorem lt_none {a : ByteArray} : Lt none4 a ↔ a ≠ none4 := by
  constructor
  · intro h e; subst e; exact Lt.irrefl _ h
  · intro h
    unfold Lt
    cases e : a.toList with
    | nil => exact absurd (empty_of_toList e) h
    | cons x l => rw [none4_list]; rfl
theorem not_lt_none (a : ByteArray) : ¬ Lt a none4 := by
  unfold Lt
  rw [none4_list]
  cases a.toList <;> simp [Op.bytesLess]
end Go.Proofs.YtfphjhmhiaepiaaGreat
/-
  Contracts of roster's barred and Valid, and of the reference's Valid: whether a text is a name hangs on its runes alone.
-/
namespace Go.Proofs.YtfphjhmhiaepiaaGreat
open Go.ChangeShapes Go.WideShapes Go.ChangeAt Go.RowKit

/-- The runes of a text from byte i on, at most b of them. -/
def runesOf (s : ByteArray) : (b i : Nat) → List Nat
  | 0, _ => []
  | b + 1, i => if i < s.size then (Utf8.decode s i).1 :: runesOf s b (i + (Utf8.decode s i).2) else []
def runes (s : ByteArray) : List Nat := runesOf s s.size 0
def barB (c : Nat) : Bool := decide (c < 33 ∨ c = 127 ∨ c = 61 ∨ c = 65533)
/-- k runes that may be lie ahead of l: together they are a name. -/
def runB (k : Nat) (l : List Nat) : Bool := decide (1 ≤ k + l.length ∧ k + l.length ≤ 20) && l.all (fun c => !barB c)
/-- A text is a name. -/
def vldB (s : ByteArray) : Bool := runB 0 (runes s)
theorem runesOf_at (s : ByteArray) (b i : Nat) (h : i < s.size) (hb : s.size ≤ i + b) : ∃ b', b = b' + 1 ∧ runesOf s b i = (Utf8.decode s i).1 :: runesOf s b' (i + (Utf8.decode s i).2) := by
  cases b with
  | zero => omega
  | succ b => exact ⟨b, rfl, by simp [runesOf, h]⟩
theorem runesOf_end (s : ByteArray) (b i : Nat) (h : ¬ i < s.size) : runesOf s b i = [] := by
  cases b with
  | zero => rfl
  | succ b => simp [runesOf, h]
theorem width_pos (s : ByteArray) (pos : Nat) (h : pos < s.size) : 1 ≤ (Utf8.decode s pos).2 := by
  by_cases ha : (s[pos]'h).toNat < 128
  · rw [decode_ascii s pos h ha]
    exact Nat.le_refl _
  · exact (decode_high s pos h (by omega)).2
theorem runB_long {k : Nat} {c : Nat} {l : List Nat} (h : 20 ≤ k) : runB k (c :: l) = false := by
  unfold runB
  rw [decide_eq_false (by simp; omega)]
  rfl
theorem runB_bar {k : Nat} {c : Nat} {l : List Nat} (h : barB c = true) : runB k (c :: l) = false := by
  unfold runB
  simp [h]
theorem runB_next {k : Nat} {c : Nat} {l : List Nat} (h : barB c = false) : runB k (c :: l) = runB (k + 1) l := by
  unfold runB
  rw [Bool.eq_iff_iff]
  simp [h]
  omega
theorem runB_nil {k : Nat} (h : k ≤ 20) : runB k [] = decide (0 < k) := by
  unfold runB
  by_cases e : 0 < k
  · rw [decide_eq_true (by simp; omega), decide_eq_true (by omega)]; rfl
  · rw [decide_eq_false (by simp; omega), decide_eq_false (by omega)]; rfl

set_option maxHeartbeats 1000000 in
theorem rosterBarred_any (c : Nat) (w : World) :
    Calls Tryz.prog 95 #[.int .i32 (c : Int)] w fun e w' => e = .returned (.bool (barB c)) ∧ w' = w := by
  by_cases h1 : (c : Int) < 33
  · go_enter Tryz.func95, Tryz.ntmps95
    go_wp2
    go_ret
    exact ⟨by rw [barB, decide_eq_true (by omega)]; rfl, rfl⟩
  by_cases h2 : c = 127
  · subst h2
    go_enter Tryz.func95, Tryz.ntmps95
    go_wp2
    go_ret
    exact ⟨rfl, rfl⟩
  by_cases h3 : c = 61
  · subst h3
    go_enter Tryz.func95, Tryz.ntmps95
    go_wp2
    go_ret
    exact ⟨rfl, rfl⟩
  by_cases h4 : c = 65533
  · subst h4
    go_enter Tryz.func95, Tryz.ntmps95
    go_wp2
    go_ret
    exact ⟨rfl, rfl⟩
  have k2 : ((c : Int) == 127) = false := beq_false_of_ne (by omega)
  have k3 : ((c : Int) == 61) = false := beq_false_of_ne (by omega)
  have k4 : ((c : Int) == 65533) = false := beq_false_of_ne (by omega)
  go_enter Tryz.func95, Tryz.ntmps95
  go_wp2
  go_ret
  exact ⟨by rw [barB, decide_eq_false (by omega)]; rfl, rfl⟩

set_option maxRecDepth 1000000 in
set_option maxHeartbeats 2000000 in
theorem valid_any (s : ByteArray) (w : World) :
    Calls Tryz.prog 82 #[.string s] w fun e w' => e = .returned (.bool (vldB s)) ∧ Below w.heap.size w w' := by
  have B : ∀ pos, Below w.heap.size w (w.iter s pos) := fun pos => (Below.refl _ w).alloc (Nat.le_refl _) _
  go_enter Tryz.func82, Tryz.ntmps82
  go_wp2
  go_loopw [3] (fun n w' => ∃ (pos b k : Nat), w' = w.iter s pos ∧ n = .int .i64 (k : Int) ∧ k ≤ 20 ∧ s.size ≤ pos + b ∧ runB k (runesOf s b pos) = vldB s) (fun _ w' => s.size - w'.iterPos w.heap.size)
  case atStart => exact ⟨0, s.size, 0, rfl, rfl, by omega, by omega, rfl⟩
  case round =>
    obtain ⟨pos, b, k, rfl, rfl, hk, hb, hg⟩ := hrel
    by_cases hp : pos < s.size
    · have hnx : ∀ ty, (Instr.next (.pointer (some ⟨w.heap.size, 0, none⟩)) true ty).run Tryz.prog (w.iter s pos) = _ := fun ty => run_next_any w s pos ty hp
      have hwd := width_pos s pos hp
      obtain ⟨b', rfl, hr⟩ := runesOf_at s b pos hp hb
      rw [hr] at hg
      have HG : Hid (runB k ((Utf8.decode s pos).1 :: runesOf s b' (pos + (Utf8.decode s pos).2)) = vldB s) := hg
      clear hg hr
      have F := rosterBarred_any (Utf8.decode s pos).1
      generalize (Utf8.decode s pos).1 = c at *
      by_cases h20 : (20 : Int) < (k : Int) + 1
      · go_wp2_with fail
        go_ret
        exact ⟨by rw [← HG.out, runB_long (by omega)]; rfl, B _⟩
      · cases hc : barB c
        · rw [hc] at F
          go_wp2_with fail
          refine (F _).mono ?_
          rintro e w1 ⟨rfl, rfl⟩
          go_wp2_with fail
          go_roundw
          case rel => exact ⟨pos + (Utf8.decode s pos).2, b', k + 1, rfl, by simp, by omega, by omega, by rw [← HG.out, runB_next hc]⟩
          case measure => simp; omega
        · rw [hc] at F
          go_wp2_with fail
          refine (F _).mono ?_
          rintro e w1 ⟨rfl, rfl⟩
          go_wp2_with fail
          go_ret
          exact ⟨by rw [← HG.out, runB_bar hc]; rfl, B _⟩
    · have hnx : ∀ ty, (Instr.next (.pointer (some ⟨w.heap.size, 0, none⟩)) true ty).run Tryz.prog (w.iter s pos) = _ := fun ty => run_next_end w s pos ty hp
      rw [runesOf_end s b pos hp, runB_nil hk] at hg
      have HG : Hid (decide (0 < k) = vldB s) := hg
      clear hg
      go_wp2_with fail
      go_ret
      exact ⟨by rw [← HG.out]; rfl, B _⟩

theorem runesFrom_eq (s : ByteArray) : ∀ (b i : Nat) (acc : Array Value), Conv.runesFrom s b i acc = acc ++ ((runesOf s b i).map fun c : Nat => Value.int .i32 (c : Int)).toArray
  | 0, _, acc => by simp [Conv.runesFrom, runesOf]
  | b + 1, i, acc => by
    unfold Conv.runesFrom runesOf
    by_cases h : i < s.size
    · rw [if_pos h, if_pos h]
      show Conv.runesFrom s b (i + (Utf8.decode s i).2) (acc.push (.int .i32 (Int.ofNat (Utf8.decode s i).1))) = _
      rw [runesFrom_eq s b]
      simp
    · rw [if_neg h, if_neg h]
      simp
theorem runes_le (s : ByteArray) : ∀ (b i : Nat), (runesOf s b i).length ≤ b
  | 0, _ => by simp [runesOf]
  | b + 1, i => by
    unfold runesOf
    split
    · have := runes_le s b (i + (Utf8.decode s i).2)
      simp; omega
    · simp
theorem runB_drop (l : List Nat) (k : Nat) (h : k < l.length) (hb : barB l[k] = true) : runB 0 l = false := by
  unfold runB
  have : l.all (fun c => !barB c) = false := by
    rw [List.all_eq_false]
    exact ⟨l[k], List.getElem_mem h, by simp [hb]⟩
  rw [this]; simp
theorem runB_all (l : List Nat) (h1 : 1 ≤ l.length) (h2 : l.length ≤ 20) (hb : ∀ k, (h : k < l.length) → barB l[k] = false) : runB 0 l = true := by
  unfold runB
  have : l.all (fun c => !barB c) = true := by
    rw [List.all_eq_true]
    intro c hc
    obtain ⟨k, hk, rfl⟩ := List.getElem_of_mem hc
    simp [hb k hk]
  rw [this]; simp; omega
theorem bar_cases {c : Nat} (h : barB c = true) : (c : Int) < 33 ∨ (¬ (c : Int) < 33 ∧ c = 127) ∨ (¬ (c : Int) < 33 ∧ ¬ c = 127 ∧ c = 61) ∨ (¬ (c : Int) < 33 ∧ ¬ c = 127 ∧ ¬ c = 61 ∧ c = 65533) := by
  unfold barB at h
  rw [decide_eq_true_eq] at h
  omega
set_option maxRecDepth 1000000 in
set_option maxHeartbeats 4000000 in
theorem refValid_any (s : ByteArray) (w : World) (hs : s.size ≤ 300) :
    Calls Tryz.prog 37 #[.string s] w fun e w' => e = .returned (.bool (vldB s)) ∧ Below w.heap.size w w' := by
  obtain ⟨L, hL⟩ : ∃ L, runes s = L := ⟨_, rfl⟩
  have hlen : L.length ≤ 300 := by rw [← hL]; exact Nat.le_trans (runes_le s s.size 0) hs
  have hrs : Conv.runesFrom s s.size 0 #[] = (L.map fun c : Nat => Value.int .i32 (c : Int)).toArray := by rw [runesFrom_eq]; show _ = _; unfold runes at hL; rw [hL]; simp
  obtain ⟨C, hC, hCn⟩ : ∃ C, Hid (C = grownCap w L.length 0 21) ∧ L.length ≤ C := ⟨_, rfl, grownCap_ge w _ _ _⟩
  have hcm : C ≤ maxLen := by rw [hC.out]; exact grownCap_le_maxLen w _ _ _ (by unfold maxLen; omega)
  unfold maxLen at hcm
  obtain ⟨A, hA'⟩ : ∃ A : Array Value, A = (L.map fun c : Nat => Value.int .i32 (c : Int)).toArray ++ Array.replicate (C - L.length) (Value.int .i32 0) := ⟨_, rfl⟩
  have hA : Hid (A = _) := hA'
  clear hA'
  have hconv := run_runes_of_string (P := Tryz.prog) w 9 90 21 s Tryz.underlying9 Tryz.underlying90 Tryz.underlying21 (by rw [hrs]; simp; omega)
  rw [hrs] at hconv
  simp only [List.size_toArray, List.length_map] at hconv
  rw [← hC.out, ← hA.out] at hconv
  have hAl : L.length ≤ A.size := by rw [hA.out]; simp
  have hcell : ∀ k, (h : k < L.length) → A[k]? = some (.int .i32 (L[k] : Int)) := fun k h => by
    rw [hA.out]
    simp [Array.getElem?_append, h]
  have HV : Hid (vldB s = runB 0 L) := by show vldB s = _; unfold vldB; rw [hL]
  have B : Below w.heap.size w (w.alloc (.cells A 21)).drew := ((Below.refl _ w).alloc (Nat.le_refl _) _).drew
  clear hrs hL hA
  by_cases h1 : L.length < 1
  · have t1 : (L.length : Int) < 1 := by omega
    go_enter Tryz.func37, Tryz.ntmps37
    go_wp2
    go_ret
    refine ⟨?_, B⟩
    rw [HV.out, runB, decide_eq_false (by omega)]; rfl
  by_cases h2 : 20 < L.length
  · have t1 : ¬ (L.length : Int) < 1 := by omega
    have t2 : (20 : Int) < (L.length : Int) := by omega
    go_enter Tryz.func37, Tryz.ntmps37
    go_wp2
    go_ret
    refine ⟨?_, B⟩
    rw [HV.out, runB, decide_eq_false (by omega)]; rfl
  have t1 : ¬ (L.length : Int) < 1 := by omega
  have t2 : ¬ (20 : Int) < (L.length : Int) := by omega
  go_enter Tryz.func37, Tryz.ntmps37
  go_wp2
  go_loop [4] (fun i => ∃ k : Nat, i = .int .i64 (k : Int) ∧ k ≤ L.length ∧ ∀ j, (h : j < L.length) → j < k → barB L[j] = false) (fun i => L.length - (intOf i).toNat)
  case atStart => exact ⟨0, rfl, by omega, fun j _ h => absurd h (by omega)⟩
  case round =>
    obtain ⟨k, rfl, hk, hg⟩ := hrel
    by_cases hlt : k < L.length
    · have t3 : (k : Int) < (L.length : Int) := by omega
      have hc := hcell k hlt
      have HG : Hid (∀ j, (h : j < L.length) → j < k → barB L[j] = false) := hg
      have HB := runB_drop L k hlt
      clear hg hcell
      obtain ⟨c, HC'⟩ : ∃ c, L[k] = c := ⟨_, rfl⟩
      have HC : Hid (L[k] = c) := HC'
      clear HC'
      rw [HC.out] at hc HB
      cases hb : barB c
      · have hb' := hb
        unfold barB at hb'
        rw [decide_eq_false_iff_not] at hb'
        have k1 : ¬ (c : Int) < 33 := by omega
        have k2 : ((c : Int) == 127) = false := beq_false_of_ne (by omega)
        have k3 : ((c : Int) == 61) = false := beq_false_of_ne (by omega)
        have k4 : ((c : Int) == 65533) = false := beq_false_of_ne (by omega)
        clear hb'
        go_wp2
        go_round
        case rel => exact ⟨k + 1, by simp, by omega, fun j h hj => if e : j = k then by subst e; rw [HC.out]; exact hb else HG.out j h (by omega)⟩
        case measure => simp [intOf]; omega
      · have HB' : Hid (runB 0 L = false) := HB hb
        clear HB
        rcases bar_cases hb with hx | ⟨k1, rfl⟩ | ⟨k1, k2, rfl⟩ | ⟨k1, k2, k3, rfl⟩
        · go_wp2
          go_ret
          exact ⟨by rw [HV.out, HB'.out]; rfl, B⟩
        · go_wp2
          go_ret
          exact ⟨by rw [HV.out, HB'.out]; rfl, B⟩
        · go_wp2
          go_ret
          exact ⟨by rw [HV.out, HB'.out]; rfl, B⟩
        · go_wp2
          go_ret
          exact ⟨by rw [HV.out, HB'.out]; rfl, B⟩
    · obtain rfl : k = L.length := by omega
      have HG : Hid (runB 0 L = true) := runB_all L (by omega) (by omega) (fun j h => hg j h h)
      clear hg hcell
      go_wp2
      go_ret
      exact ⟨by rw [HV.out, HG.out]; rfl, B⟩
end Go.Proofs.YtfphjhmhiaepiaaGreat
/-
  Slices of numbers: what a slice value reads as, and the sums of its first numbers.
-/
namespace Go.Proofs.YtfphjhmhiaepiaaGreat
open Go.ChangeShapes Go.WideShapes Go.ChangeAt Go.RowKit

/-- The slice value v reads as the values that f gives, n of them. -/
def Row (w : World) (v : Value) (n : Nat) (f : Nat → Value) : Prop :=
  ∃ a cap, v = .slice a n cap ∧ n ≤ cap ∧ cap ≤ maxLen ∧ (∀ i, i < n → ∃ b off, a = some ⟨b, off, none⟩ ∧ w.cell? ⟨b, off + i, none⟩ = some (f i))
theorem Row.below {w w' : World} {v : Value} {n : Nat} {f : Nat → Value} (h : Row w v n f) (hb : Below w.heap.size w w') : Row w' v n f := by
  obtain ⟨a, cap, rfl, h1, h2, h3⟩ := h
  refine ⟨a, cap, rfl, h1, h2, fun i hi => ?_⟩
  obtain ⟨b, off, e, hc⟩ := h3 i hi
  exact ⟨b, off, e, by rw [hb.cell (World.block_lt_of_cell? _ _ hc)]; exact hc⟩
theorem Row.same {w : World} {v : Value} {n : Nat} {f g : Nat → Value} (h : Row w v n f) (e : ∀ i, i < n → f i = g i) : Row w v n g := by
  obtain ⟨a, cap, rfl, h1, h2, h3⟩ := h
  refine ⟨a, cap, rfl, h1, h2, fun i hi => ?_⟩
  obtain ⟨b, off, e', hc⟩ := h3 i hi
  exact ⟨b, off, e', by rw [← e i hi]; exact hc⟩
/-- The sum of the first k. -/
def sumTo (zs : Nat → Int) : Nat → Int
  | 0 => 0
  | k + 1 => sumTo zs k + zs k
theorem sumTo_same {f g : Nat → Int} : ∀ k, (∀ i, i < k → f i = g i) → sumTo f k = sumTo g k
  | 0, _ => rfl
  | k + 1, h => by simp only [sumTo]; rw [sumTo_same k (fun i hi => h i (by omega)), h k (by omega)]
end Go.Proofs.YtfphjhmhiaepiaaGreat
/-
  The frame 'all blocks but those of S are as they were', and its laws; plain facts on cells and draws.
-/
namespace Go.Proofs.YtfphjhmhiaepiaaGreat
open Go.ChangeShapes Go.WideShapes Go.ChangeAt Go.RowKit Go.Lib

/-- All blocks but those of S are as they were. -/
structure But (S : Nat → Prop) (w w' : World) : Prop where
  os : w'.os = w.os
  tape : w'.tape = w.tape
  output : w'.output = w.output
  size : w.heap.size ≤ w'.heap.size
  block : ∀ k, k < w.heap.size → ¬ S k → w'.heap[k]? = w.heap[k]?
theorem But.refl (S : Nat → Prop) (w : World) : But S w w := ⟨rfl, rfl, rfl, Nat.le_refl _, fun _ _ _ => rfl⟩
theorem But.trans {S T : Nat → Prop} {a b c : World} (h : But S a b) (k : But T b c) (hT : ∀ i, i < a.heap.size → T i → S i) : But S a c :=
  ⟨k.os.trans h.os, k.tape.trans h.tape, k.output.trans h.output, Nat.le_trans h.size k.size, fun i hi hS => (k.block i (Nat.lt_of_lt_of_le hi h.size) (fun t => hS (hT i hi t))).trans (h.block i hi hS)⟩
theorem But.mono {S T : Nat → Prop} {a b : World} (h : But S a b) (hT : ∀ i, i < a.heap.size → S i → T i) : But T a b := ⟨h.os, h.tape, h.output, h.size, fun i hi hS => h.block i hi (fun t => hS (hT i hi t))⟩
theorem But.of_below {S : Nat → Prop} {a b : World} (h : Below a.heap.size a b) : But S a b := ⟨h.os, h.tape, h.output, h.size, fun i hi _ => h.block i hi⟩
theorem But.below {S : Nat → Prop} {a b : World} {n : Nat} (h : But S a b) (hn : n ≤ a.heap.size) (hS : ∀ i, S i → n ≤ i) : Below n a b :=
  ⟨h.os, h.tape, h.output, h.size, fun i hi => h.block i (Nat.lt_of_lt_of_le hi hn) (fun t => absurd (hS i t) (by omega))⟩
theorem But.cell {S : Nat → Prop} {a b : World} (h : But S a b) {k o : Nat} (hk : k < a.heap.size) (hS : ¬ S k) : b.cell? ⟨k, o, none⟩ = a.cell? ⟨k, o, none⟩ := by
  have := h.block k hk hS
  simp only [World.cell?, this]
theorem But.frozen {S : Nat → Prop} {a b : World} (h : But S a b) {k o : Nat} (hk : k < a.heap.size) (hS : ¬ S k) : b.frozen? ⟨k, o, none⟩ = a.frozen? ⟨k, o, none⟩ := by
  have := h.block k hk hS
  simp only [World.frozen?, this]
theorem heap_setCells (b : Nat) : ∀ (vs : List Value) (o : Nat) (w : World) (k : Nat), k ≠ b → (w.setCells b o vs).heap[k]? = w.heap[k]?
  | [], _, _, _, _ => rfl
  | v :: r, o, w, k, h => by rw [World.setCells, heap_setCells b r _ _ k h]; exact Below.heap_setCell _ _ _ _ h
theorem size_setCells (b : Nat) : ∀ (vs : List Value) (o : Nat) (w : World), (w.setCells b o vs).heap.size = w.heap.size
  | [], _, _ => rfl
  | v :: r, o, w => by rw [World.setCells, size_setCells b r]; simp
theorem rest_setCells (b : Nat) : ∀ (vs : List Value) (o : Nat) (w : World), (w.setCells b o vs).os = w.os ∧ (w.setCells b o vs).tape = w.tape ∧ (w.setCells b o vs).output = w.output
  | [], _, _ => ⟨rfl, rfl, rfl⟩
  | v :: r, o, w => by rw [World.setCells]; exact rest_setCells b r _ _
theorem But.setCells {S : Nat → Prop} {a w : World} (h : But S a w) (b o : Nat) (vs : List Value) (hb : b < a.heap.size → S b) : But S a (w.setCells b o vs) := by
  obtain ⟨e1, e2, e3⟩ := rest_setCells b vs o w
  exact ⟨e1.trans h.os, e2.trans h.tape, e3.trans h.output, by rw [size_setCells]; exact h.size, fun k hk hS => by rw [heap_setCells b vs o w k (fun e => hS (by subst e; exact hb hk))]; exact h.block k hk hS⟩
theorem But.setCell {S : Nat → Prop} {a w : World} (h : But S a w) (b o : Nat) (v : Value) (hb : b < a.heap.size → S b) : But S a (w.setCell ⟨b, o, none⟩ v) :=
  h.setCells b o [v] hb
theorem But.drew {S : Nat → Prop} {a w : World} (h : But S a w) : But S a w.drew := ⟨h.os, h.tape, h.output, h.size, h.block⟩
theorem But.alloc {S : Nat → Prop} {a w : World} (h : But S a w) (o : Obj) : But S a (w.alloc o) :=
  h.trans (T := fun _ => False) (But.of_below ((Below.refl _ w).alloc (Nat.le_refl _) _)) (fun _ _ h => h.elim)
theorem But.drewN {S : Nat → Prop} {a w : World} (h : But S a w) (q : Nat) : But S a (w.drewN q) := ⟨h.os, h.tape, h.output, h.size, h.block⟩

theorem below_drewN (n q : Nat) (w : World) : Below n w (w.drewN q) := ⟨rfl, rfl, rfl, Nat.le_refl _, fun _ _ => rfl⟩
theorem below_more {n : Nat} {a w : World} (h : Below n a w) (q : Nat) : Below n a (w.drewN q) := ⟨h.os, h.tape, h.output, h.size, h.block⟩
/-- A sequence with another thing at place i. -/
def upd {α : Type} (g : Nat → α) (i : Nat) (a : α) : Nat → α := fun j => if j = i then a else g j
theorem upd_same {α : Type} (g : Nat → α) (i : Nat) (a : α) : upd g i a i = a := by simp [upd]
theorem upd_other {α : Type} (g : Nat → α) {i j : Nat} (a : α) (h : j ≠ i) : upd g i a j = g j := by simp [upd, h]
end Go.Proofs.YtfphjhmhiaepiaaGreat
/-
  Contracts of slices.Index at texts, of sort.Search with roster's closure, and of that closure.
-/
namespace Go.Proofs.YtfphjhmhiaepiaaGreat
open Go.ChangeShapes Go.WideShapes Go.ChangeAt Go.RowKit

set_option maxHeartbeats 1000000 in
theorem idx_any (sl : Nat → ByteArray) (x : ByteArray) (n : Nat) (v : Value) (w : World) (h : Row w v n fun i => .string (sl i)) :
    Calls Tryz.prog 84 #[v, .string x] w fun e w' => w' = w ∧
      ((e = .returned (.int .i64 (-1)) ∧ ∀ i, i < n → x ≠ sl i) ∨ (∃ k : Nat, k < n ∧ e = .returned (.int .i64 (k : Int)) ∧ x = sl k ∧ ∀ i, i < k → x ≠ sl i)) := by
  obtain ⟨a, cap, rfl, h1, h2, h3⟩ := id h
  unfold maxLen at h2
  go_enter Tryz.func84, Tryz.ntmps84
  go_wp2_with fail
  go_loopw [8] (fun c wr => ∃ k : Nat, c = .int .i64 (k : Int) ∧ k ≤ n ∧ (∀ i, i < k → x ≠ sl i) ∧ wr = w) (fun c _ => n - (intOf c).toNat)
  case atStart => exact ⟨0, rfl, Nat.zero_le _, fun i hi => absurd hi (by omega), rfl⟩
  case round =>
    obtain ⟨k, rfl, hk, hg, rfl⟩ := hrel
    by_cases hlt : k < n
    · have t : (k : Int) < (n : Int) := by omega
      obtain ⟨b, off, rfl, hc⟩ := h3 k hlt
      have HG : Hid (∀ i, i < k → x ≠ sl i) := hg
      clear h3 hg h
      obtain ⟨y, HY'⟩ : ∃ y, sl k = y := ⟨_, rfl⟩
      rw [HY'] at hc
      have HY : Hid (sl k = y) := HY'
      clear HY'
      have hb := beq_bytes x y
      by_cases e : x = y
      · rw [decide_eq_true e] at hb
        have HE : Hid (x = y) := e
        clear e
        go_wp2_with fail
        go_ret
        exact ⟨rfl, .inr ⟨k, hlt, rfl, by rw [HY.out]; exact HE.out, HG.out⟩⟩
      · rw [decide_eq_false e] at hb
        have HE : Hid (¬ x = y) := e
        clear e
        go_wp2_with fail
        go_roundw
        case rel => exact ⟨k + 1, by simp, by omega, fun i hi => if e : i = k then by subst e; rw [HY.out]; exact HE.out else HG.out i (by omega), trivial⟩
        case measure => simp [intOf]; omega
    · have hkn : k = n := by omega
      subst hkn
      have t : ¬ (k : Int) < (k : Int) := by omega
      go_wp2_with fail
      go_ret
      exact ⟨rfl, .inl ⟨rfl, hg⟩⟩

set_option maxHeartbeats 1000000 in
theorem search1_any (p s rb nb i n cap : Nat) (nm name : ByteArray) (w : World) (hi : i < n)
    (h0 : w.cell? ⟨rb, 0, none⟩ = some (.pointer (some ⟨p, 0, none⟩))) (h1 : w.cell? ⟨nb, 0, none⟩ = some (.string name)) (h2 : w.cell? ⟨p, 0, none⟩ = some (.slice (some ⟨s, 0, none⟩) n cap)) (h3 : w.cell? ⟨s, i * 2, none⟩ = some (.string nm)) :
    Calls Tryz.prog 97 #[.int .i64 (i : Int), .pointer (some ⟨rb, 0, none⟩), .pointer (some ⟨nb, 0, none⟩)] w fun e w' => e = .returned (.bool (!Op.bytesLess nm.toList name.toList)) ∧ ∃ q, w' = w.drewN q := by
  have t : (i : Int) < (n : Int) := by omega
  go_enter Tryz.func97, Tryz.ntmps97
  go_wp2_with fail
  go_quiet (fail)
  go_wp2_with fail
  go_ret
  exact ⟨rfl, _, rfl⟩

/-- k is the place of a name among n: all ahead of it lie below, none from it on. -/
structure Place (nm : Nat → ByteArray) (n : Nat) (name : ByteArray) (k : Nat) : Prop where
  le : k ≤ n
  low : ∀ j, j < k → Lt (nm j) name
  high : ∀ j, k ≤ j → j < n → ¬ Lt (nm j) name
theorem Place.one {nm : Nat → ByteArray} {n : Nat} {name : ByteArray} {k m : Nat} (h : Place nm n name k) (g : Place nm n name m) : k = m := by
  rcases Nat.lt_trichotomy k m with e | e | e
  · exact absurd (g.low k e) (h.high k (Nat.le_refl _) (Nat.lt_of_lt_of_le e g.le))
  · exact e
  · exact absurd (h.low m e) (g.high m (Nat.le_refl _) (Nat.lt_of_lt_of_le e h.le))

set_option maxRecDepth 1000000 in
set_option maxHeartbeats 2000000 in
theorem sortSearch_any (p rb nb n cap K : Nat) (S : Option Addr) (nm : Nat → ByteArray) (name : ByteArray) (w : World) (hn : n ≤ 1000000) (hK : Place nm n name K)
    (hs : ∀ a b, a < b → b < n → Lt (nm a) (nm b))
    (h0 : w.cell? ⟨rb, 0, none⟩ = some (.pointer (some ⟨p, 0, none⟩))) (h1 : w.cell? ⟨nb, 0, none⟩ = some (.string name)) (h2 : w.cell? ⟨p, 0, none⟩ = some (.slice S n cap)) (h3 : ∀ i, i < n → ∃ s, S = some ⟨s, 0, none⟩ ∧ w.cell? ⟨s, i * 2, none⟩ = some (.string (nm i))) :
    Calls Tryz.prog 96 #[.int .i64 (n : Int), .func (.func 97) #[] #[.pointer (some ⟨rb, 0, none⟩), .pointer (some ⟨nb, 0, none⟩)]] w fun e w' => e = .returned (.int .i64 (K : Int)) ∧ ∃ q, w' = w.drewN q := by
  have HS : Hid (∀ a b, a < b → b < n → Lt (nm a) (nm b)) := hs
  have HK : Hid (Place nm n name K) := hK
  clear hs hK
  go_enter Tryz.func96, Tryz.ntmps96
  go_wp2_with fail
  go_loopg [5, 6] n (fun g a b wr => ∃ lo hi q : Nat, a = .int .i64 (lo : Int) ∧ b = .int .i64 (hi : Int) ∧ lo ≤ hi ∧ hi ≤ n ∧ hi - lo ≤ g ∧ wr = w.drewN q ∧ (∀ j, j < lo → Lt (nm j) name) ∧ (∀ j, hi ≤ j → j < n → ¬ Lt (nm j) name))
  case atStart => exact ⟨0, n, 0, rfl, rfl, Nat.zero_le _, Nat.le_refl _, by omega, rfl, fun j hj => absurd hj (by omega), fun j hj hj' => absurd hj' (by omega)⟩
  case round =>
    obtain ⟨lo, hi, q, rfl, rfl, hlh, hin, hg, rfl, hl, hh⟩ := hrel
    have HL : Hid (∀ j, j < lo → Lt (nm j) name) := hl
    have HH : Hid (∀ j, hi ≤ j → j < n → ¬ Lt (nm j) name) := hh
    clear hl hh
    by_cases hlt : lo < hi
    · obtain ⟨s, rfl, hc⟩ := h3 ((lo + hi) / 2) (by omega)
      have F := search1_any p s rb nb ((lo + hi) / 2) n cap (nm ((lo + hi) / 2)) name (w.drewN q) (by omega) h0 h1 h2 hc
      rw [show (((lo + hi) / 2 : Nat) : Int) = ((lo : Int) + (hi : Int)) / 2 by omega] at F
      obtain ⟨y, HY'⟩ : ∃ y, nm ((lo + hi) / 2) = y := ⟨_, rfl⟩
      rw [HY'] at F
      have HY : Hid (nm ((lo + hi) / 2) = y) := HY'
      clear HY' hc h3 h0 h1 h2
      cases hyx : Op.bytesLess y.toList name.toList
      · rw [hyx] at F
        go_wp2_with fail
        refine F.mono ?_
        rintro e w1 ⟨rfl, q', rfl⟩
        go_wp2_with fail
        go_roundg ((lo + hi) / 2 - lo)
        case measure => omega
        case rel => exact ⟨lo, (lo + hi) / 2, q + q', rfl, by rw [show ((lo : Int) + (hi : Int)) / 2 = (((lo + hi) / 2 : Nat) : Int) by omega], by omega, by omega, Nat.le_refl _, by simp, HL.out, fun j hj hj' k => by
          by_cases e : (lo + hi) / 2 = j
          · subst e; rw [HY.out] at k; unfold Lt at k; rw [hyx] at k; cases k
          · have := (HS.out ((lo + hi) / 2) j (by omega) hj').trans k
            rw [HY.out] at this; unfold Lt at this; rw [hyx] at this; cases this⟩
      · rw [hyx] at F
        go_wp2_with fail
        refine F.mono ?_
        rintro e w1 ⟨rfl, q', rfl⟩
        go_wp2_with fail
        go_roundg (hi - ((lo + hi) / 2 + 1))
        case measure => omega
        case rel => exact ⟨(lo + hi) / 2 + 1, hi, q + q', by rw [show ((lo : Int) + (hi : Int)) / 2 + 1 = (((lo + hi) / 2 + 1 : Nat) : Int) by omega], rfl, by omega, hin, Nat.le_refl _, by simp, fun j hj => by
          by_cases e : (lo + hi) / 2 = j
          · subst e; rw [HY.out]; exact hyx
          · refine (HS.out j ((lo + hi) / 2) (by omega) (by omega)).trans ?_
            rw [HY.out]; exact hyx, HH.out⟩
    · obtain rfl : lo = hi := by omega
      obtain rfl : K = lo := HK.out.one ⟨hin, HL.out, HH.out⟩
      go_wp2_with fail
      go_ret
      exact ⟨rfl, _, rfl⟩


set_option maxRecDepth 1000000 in
set_option maxHeartbeats 2000000 in
theorem search_at (p n cap K : Nat) (S : Option Addr) (nm : Nat → ByteArray) (name : ByteArray) (w : World) (hn : n ≤ 1000000) (hK : Place nm n name K)
    (hs : ∀ a b, a < b → b < n → Lt (nm a) (nm b)) (h2 : w.cell? ⟨p, 0, none⟩ = some (.slice S n cap)) (h3 : ∀ i, i < n → ∃ s, S = some ⟨s, 0, none⟩ ∧ w.cell? ⟨s, i * 2, none⟩ = some (.string (nm i))) :
    Calls Tryz.prog 83 #[.pointer (some ⟨p, 0, none⟩), .string name] w fun e w' => e = .returned (.tuple #[.int .i64 (K : Int), .bool (decide (K < n ∧ nm K = name))]) ∧ Below w.heap.size w w' := by
  obtain ⟨W, hW⟩ : ∃ W, W = (w.alloc (.cells #[.pointer (some ⟨p, 0, none⟩)] 114)).alloc (.cells #[.string name] 9) := ⟨_, rfl⟩
  have B : Below w.heap.size w W := by rw [hW]; exact ((Below.refl _ w).alloc (Nat.le_refl _) _).alloc (by simp) _
  have k0 : W.cell? ⟨w.heap.size, 0, none⟩ = some (.pointer (some ⟨p, 0, none⟩)) := by rw [hW]; simp
  have k1 : W.cell? ⟨w.heap.size + 1, 0, none⟩ = some (.string name) := by rw [hW]; simp
  have up : ∀ b o v, w.cell? ⟨b, o, none⟩ = some v → W.cell? ⟨b, o, none⟩ = some v := fun b o v h => (B.cell (p := ⟨b, o, none⟩) (World.block_lt_of_cell? _ _ h)).trans h
  have k2 := up _ _ _ h2
  have k3 : ∀ i, i < n → ∃ s, S = some ⟨s, 0, none⟩ ∧ W.cell? ⟨s, i * 2, none⟩ = some (.string (nm i)) := fun i hi => by
    obtain ⟨s, e, h⟩ := h3 i hi
    exact ⟨s, e, up _ _ _ h⟩
  have F := sortSearch_any p w.heap.size (w.heap.size + 1) n cap K S nm name W hn hK hs k0 k1 k2 k3
  have HK : Hid (Place nm n name K) := hK
  have ku := k2
  rw [hW] at ku
  have HW : Hid (W = _) := hW
  clear hs hK h3 up hW
  by_cases hlt : K < n
  · obtain ⟨s, rfl, hc⟩ := k3 K hlt
    have t : (K : Int) < (n : Int) := by omega
    have hb := beq_bytes (nm K) name
    obtain ⟨y, HY'⟩ : ∃ y, nm K = y := ⟨_, rfl⟩
    rw [HY'] at hc hb ⊢
    have HY : Hid (nm K = y) := HY'
    have d : decide (K < n ∧ y = name) = decide (y = name) := by simp [hlt]
    rw [d]
    clear HY' k3 d
    cases hd : decide (y = name)
    all_goals
      rw [hd] at hb
      go_enter Tryz.func83, Tryz.ntmps83
      go_wp2_with fail
      rw [← HW.out]
      refine F.mono ?_
      rintro e w1 ⟨rfl, q, rfl⟩
      go_wp2_with fail
      go_quiet (fail)
      go_wp2_with fail
      go_ret2
      exact ⟨rfl, below_more (below_more B _) _⟩
  · have t : ¬ (K : Int) < (n : Int) := by omega
    have t' : decide ((K : Int) < (n : Int)) = false := by simpa using hlt
    have d : decide (K < n ∧ nm K = name) = false := by simp [hlt]
    rw [d]
    clear d k3
    go_enter Tryz.func83, Tryz.ntmps83
    go_wp2_with fail
    rw [← HW.out]
    refine F.mono ?_
    rintro e w1 ⟨rfl, q, rfl⟩
    go_wp2_with fail
    go_quiet (fail)
    go_wp2_with fail
    go_ret2
    exact ⟨rfl, below_more (below_more B _) _⟩

theorem made_none (w : World) : Calls Tryz.prog 81 #[.pointer none] w fun e w' => e = .returned (.bool false) ∧ w' = w := by
  go_enter Tryz.func81, Tryz.ntmps81
  go_wp2
  go_ret
  exact ⟨rfl, rfl⟩
theorem made_plain (p cap : Nat) (S : Option Addr) (w : World) (h : w.cell? ⟨p, 1, none⟩ = some (.slice S 0 cap)) : Calls Tryz.prog 81 #[.pointer (some ⟨p, 0, none⟩)] w fun e w' => e = .returned (.bool false) ∧ w' = w := by
  go_enter Tryz.func81, Tryz.ntmps81
  go_wp2
  go_ret
  exact ⟨by simp, rfl⟩
theorem made_yes (p n cap : Nat) (S : Option Addr) (w : World) (hn : 0 < n) (h : w.cell? ⟨p, 1, none⟩ = some (.slice S n cap)) : Calls Tryz.prog 81 #[.pointer (some ⟨p, 0, none⟩)] w fun e w' => e = .returned (.bool true) ∧ w' = w := by
  have t : (0 : Int) < (n : Int) := by omega
  go_enter Tryz.func81, Tryz.ntmps81
  go_wp2
  go_ret
  exact ⟨by simp, rfl⟩
end Go.Proofs.YtfphjhmhiaepiaaGreat
/-
  Contracts of slices.Insert at seats (a text and a number: two cells each), one more seat at any place.
-/
namespace Go.Proofs.YtfphjhmhiaepiaaGreat
open Go.ChangeShapes Go.WideShapes Go.ChangeAt Go.RowKit Go.Lib

/-- A seat's two cells. -/
def seatCells (x : ByteArray × Nat) : List Value := [.string x.1, .int .i64 (x.2 : Int)]
def flat (L : List (ByteArray × Nat)) : List Value := L.flatMap seatCells
theorem flat_nil : flat [] = [] := rfl
theorem flat_cons (x : ByteArray × Nat) (L : List (ByteArray × Nat)) : flat (x :: L) = .string x.1 :: .int .i64 (x.2 : Int) :: flat L := rfl
theorem flat_append (L M : List (ByteArray × Nat)) : flat (L ++ M) = flat L ++ flat M := by simp [flat]
theorem flat_length : ∀ L : List (ByteArray × Nat), (flat L).length = L.length * 2
  | [] => rfl
  | x :: L => by rw [flat_cons]; simp [flat_length L]; omega
theorem flat_take : ∀ (L : List (ByteArray × Nat)) (i : Nat), (flat L).take (i * 2) = flat (L.take i)
  | _, 0 => by simp [flat_nil]
  | [], i + 1 => by simp [flat_nil]
  | x :: L, i + 1 => by rw [flat_cons, show (i + 1) * 2 = i * 2 + 1 + 1 by omega, List.take_succ_cons, List.take_succ_cons, flat_take L i]; rfl
theorem flat_drop : ∀ (L : List (ByteArray × Nat)) (i : Nat), (flat L).drop (i * 2) = flat (L.drop i)
  | _, 0 => by simp
  | [], i + 1 => by simp [flat_nil]
  | x :: L, i + 1 => by rw [flat_cons, show (i + 1) * 2 = i * 2 + 1 + 1 by omega, List.drop_succ_cons, List.drop_succ_cons, flat_drop L i]; rfl
theorem flat_at : ∀ (L : List (ByteArray × Nat)) (i : Nat) (h : i < L.length), (flat L)[i * 2]? = some (.string L[i].1) ∧ (flat L)[i * 2 + 1]? = some (.int .i64 (L[i].2 : Int))
  | [], _, h => by simp at h
  | x :: L, 0, _ => ⟨rfl, rfl⟩
  | x :: L, i + 1, h => by
    have := flat_at L i (by simpa using h)
    rw [flat_cons, show (i + 1) * 2 = i * 2 + 1 + 1 by omega]
    simpa using this
theorem flat_one : ∀ (L : List (ByteArray × Nat)), ∀ v ∈ flat L, v.oneCell' = true
  | [], _, h => by simp [flat_nil] at h
  | x :: L, v, h => by
    rw [flat_cons] at h
    simp only [List.mem_cons] at h
    rcases h with rfl | rfl | h
    · rfl
    · rfl
    · exact flat_one L v h
theorem seat_one (x : ByteArray × Nat) : ∀ v ∈ seatCells x, v.oneCell' = true := by
  intro v h
  simp only [seatCells, List.mem_cons, List.not_mem_nil, or_false] at h
  rcases h with rfl | rfl <;> rfl
theorem seat_length (x : ByteArray × Nat) : (seatCells x).length = 2 := rfl

theorem infoSeat : (Tryz.prog.info? 127).map (fun i => (i.zero, i.size, i.bytes)) = some (some (.agg #[.string { data := #[] }, .int .i64 0]), 2, 24) := by kernel_rfl
theorem sizeSeat (w : World) : (sizeOf 127).run Tryz.prog w = .ok 2 w := by
  obtain ⟨i0, hi0, hz0, hzs, hzb⟩ := info_parts infoSeat
  simp [sizeOf, typeInfo, hi0, hzs]

/-- copy, elements of two cells: all is read ahead of what is written. -/
theorem run_copy2 {P : Program} (w : World) (dT sT ty elem : TypeId) (b o dLen dCap : Nat) (a : Addr) (sLen sCap m : Nat) (cs : List Value)
    (hu : P.underlying dT = some (.slice elem)) (hs : (P.info? elem).map (·.size) = some 2) (hm : m = Nat.min sLen dLen) (hn : cs.length = m * 2)
    (hsrc : ∀ j v, cs[j]? = some v → w.cell? (a.add j) = some v) (hc : ∀ j, j < cs.length → (w.cell? ⟨b, o + j, none⟩).isSome = true) (hf : ∀ j, j < cs.length → w.frozen? ⟨b, o + j, none⟩ = false) (h1 : ∀ v ∈ cs, v.oneCell' = true) :
    (Builtin.copy_ #[dT, sT] ty #[.slice (some ⟨b, o, none⟩) dLen dCap, .slice (some a) sLen sCap]).run P w = .ok (goInt m) (w.setCells b o cs) := by
  have hl := run_loadCells_list (P := P) w a cs hsrc
  have hst := run_storeCells_cells (P := P) b o cs 0 w (by simpa using hc) (by simpa using hf) h1
  rw [hn] at hl
  cases hq : P.info? elem with
  | none => simp [hq] at hs
  | some i =>
    have hi : i.size = 2 := by simpa [hq] using hs
    simp [Builtin.copy_, run_underlying hu, Builtin.lenOf, Builtin.firstCells, sizeOf, typeInfo, hq, hi, ← hm, hl, hst]

set_option maxHeartbeats 4000000 in
set_option maxRecDepth 100000 in
theorem insert_shift (b n c i vb : Nat) (L : List (ByteArray × Nat)) (x : ByteArray × Nat) (w : World) (hi : i < n) (hn : n ≤ 1000000) (hroom : n + 1 ≤ c) (_hc63 : c ≤ 9223372036854775807) (hvb : vb ≠ b) (hcl : L.length = n)
    (hcs : ∀ j v, (flat L)[j]? = some v → w.cell? ⟨b, j, none⟩ = some v) (hsp : ∀ j, j < c * 2 → (w.cell? ⟨b, j, none⟩).isSome = true) (hfz : ∀ j, j < c * 2 → w.frozen? ⟨b, j, none⟩ = false)
    (hvs : ∀ j v, (seatCells x)[j]? = some v → w.cell? ⟨vb, j, none⟩ = some v)
    (tA tB : TypeId) (kA kB : Nat) (hsa : w.shape? vb = some (tA, kA)) (hsb : w.shape? b = some (tB, kB)) (hkB : kB ≠ 0) (hfa : w.frozen? ⟨vb, 0, none⟩ = false) (hfe : w.frozen? ⟨vb, kA, none⟩ = false) :
    Calls Tryz.prog 85 #[.slice (some ⟨b, 0, none⟩) n c, .int .i64 (i : Int), .slice (some ⟨vb, 0, none⟩) 1 1] w fun e w' =>
      e = .returned (.slice (some ⟨b, 0, none⟩) (n + 1) c) ∧ w' = (w.drew.setCells b ((i + 1) * 2) (flat (L.drop i))).setCells b (i * 2) (seatCells x) := by
  have hz2 : ((i : Int) == (n : Int)) = false := beq_false_of_ne (by omega)
  have hin' : ¬ ((i : Int) = (n : Int)) := by omega
  have hsz : (Tryz.prog.info? 127).map (·.size) = some 2 := by
    obtain ⟨i0, hi0, h0, h1, h2⟩ := info_parts infoSeat
    rw [hi0]; simp [h1]
  have hov : ∀ lb cb, (callFunc 98 #[.slice (some ⟨vb, 0, none⟩) 1 1, .slice (some ⟨b, (i + 1) * 2, none⟩) lb cb]).run Tryz.prog w = .ok (.value (.bool false)) w := fun lb cb => by
    rw [run_callFunc_extern Tryz.func98 (by kernel_rfl) (by kernel_rfl) (by kernel_rfl) (e := Extern.SlicesOverlaps.overlaps #[122, 122] #[4]) (by kernel_rfl),
      Lib.run_overlaps_apart w 122 4 127 Tryz.underlying122 2 sizeSeat ⟨vb, 0, none⟩ ⟨b, (i + 1) * 2, none⟩ 1 1 lb cb hvb tA tB kA kB hsa hsb hkB hfa hfe]
    rfl
  have hdl : (flat (L.drop i)).length = (n - i) * 2 := by rw [flat_length, List.length_drop, hcl]
  have hfd : ∀ j v, (flat (L.drop i))[j]? = some v → w.cell? ⟨b, i * 2 + j, none⟩ = some v := fun j v h => by
    rw [← flat_drop, List.getElem?_drop] at h
    exact hcs _ _ h
  have hcp1 : ∀ ty dc sc, (Builtin.copy_ #[122, 122] ty #[.slice (some ⟨b, (i + 1) * 2, none⟩) (n + 1 - (i + 1)) dc, .slice (some ⟨b, i * 2, none⟩) (n + 1 - i) sc]).run Tryz.prog w.drew = .ok (goInt ((n - i : Nat) : Int)) (w.drew.setCells b ((i + 1) * 2) (flat (L.drop i))) := fun ty dc sc =>
    run_copy2 w.drew _ _ ty 127 b ((i + 1) * 2) (n + 1 - (i + 1)) dc ⟨b, i * 2, none⟩ (n + 1 - i) sc (n - i) (flat (L.drop i)) Tryz.underlying122 hsz (by simp only [Nat.min_def]; split <;> omega) hdl
      (fun j v hj => by rw [Addr.add_lit]; exact hfd j v hj)
      (fun j hj => hsp _ (by omega)) (fun j hj => hfz _ (by omega)) (flat_one _)
  obtain ⟨W1, hW1⟩ : ∃ W1, W1 = w.drew.setCells b ((i + 1) * 2) (flat (L.drop i)) := ⟨_, rfl⟩
  have hsp1 : ∀ k, k < c * 2 → (W1.cell? ⟨b, k, none⟩).isSome = true := fun k hk => by
    rw [hW1]
    exact isSome_setCells b (flat (L.drop i)) ((i + 1) * 2) w.drew (fun j hj => hsp _ (by omega)) _ (hsp k hk)
  have hcp2 : ∀ (W : World), (∀ x, W.cell? x = W1.cell? x) → (∀ x, W.frozen? x = W1.frozen? x) → ∀ ty dc, (Builtin.copy_ #[122, 122] ty #[.slice (some ⟨b, i * 2, none⟩) (n + 1 - i) dc, .slice (some ⟨vb, 0, none⟩) 1 1]).run Tryz.prog W = .ok (goInt ((1 : Nat) : Int)) (W.setCells b (i * 2) (seatCells x)) := fun W hWc hWf ty dc =>
    run_copy2 W _ _ ty 127 b (i * 2) (n + 1 - i) dc ⟨vb, 0, none⟩ 1 1 1 (seatCells x) Tryz.underlying122 hsz (by simp only [Nat.min_def]; split <;> omega) rfl
      (fun j v hj => by
        rw [Addr.add_lit, hWc, hW1, World.cell?_setCells_out b _ _ _ _ (fun h _ => absurd h hvb), Nat.zero_add]
        exact hvs j v hj)
      (fun j hj => by rw [hWc]; rw [seat_length] at hj; exact hsp1 _ (by omega)) (fun j hj => by rw [hWf, hW1, World.frozen?_setCells]; rw [seat_length] at hj; exact hfz _ (by omega)) (seat_one x)
  rw [← hW1] at hcp1
  have HW1 : Hid (W1 = w.drew.setCells b ((i + 1) * 2) (flat (L.drop i))) := hW1
  have hb2 : ¬ (c = i + 1) := by omega
  have hb3 : (i : Int) ≤ (n : Int) + 1 := by omega
  have hb4 : ¬ (c = i) := by omega
  have htn : ((i : Int) + 1).toNat = i + 1 := by omega
  have hw1 : IntKind.i64.wrap ((i : Int) + 1) = (i : Int) + 1 := by rw [IntKind.wrap_i64]; omega
  have hb1 : (0 : Int) ≤ (i : Int) + 1 := by omega
  have hb5 : i ≤ n := by omega
  have htn' : ((n : Int) + 1).toNat = n + 1 := by omega
  clear hW1 hsp1 hsp hfz hcs hvs hfd hdl
  go_enter Tryz.func85, Tryz.ntmps85
  go_wp2_with (simp only [hov])
  go_region_law (refine step_copy_runI rfl _ _ 122 122 rfl (.slice (some ⟨b, (i + 1) * 2, none⟩) (n + 1 - (i + 1)) (c - (i + 1))) (.slice (some ⟨b, i * 2, none⟩) (n + 1 - i) (c - i)) (by simp [Act.eval, Act.put]) (by simp [Act.eval, Act.put]) (hcp1 3 (c - (i + 1)) (c - i)) ?_)
  go_wp2_with (at_builtin; refine wpList_copy_runI _ rfl _ _ 122 122 rfl _ _ rfl rfl (hcp2 _ (fun _ => rfl) (fun _ => rfl) _ _) ?_)
  go_ret
  exact ⟨rfl, by rw [HW1.out]⟩

set_option maxHeartbeats 4000000 in
set_option maxRecDepth 100000 in
theorem insert_end_room (b n c vb : Nat) (x : ByteArray × Nat) (w : World) (hn : n ≤ 1000000) (hroom : n + 1 ≤ c) (hc63 : c ≤ 9223372036854775807)
    (hsp : ∀ j, j < c * 2 → (w.cell? ⟨b, j, none⟩).isSome = true) (hfz : ∀ j, j < c * 2 → w.frozen? ⟨b, j, none⟩ = false)
    (hvs : ∀ j v, (seatCells x)[j]? = some v → w.cell? ⟨vb, j, none⟩ = some v) :
    Calls Tryz.prog 85 #[.slice (some ⟨b, 0, none⟩) n c, .int .i64 (n : Int), .slice (some ⟨vb, 0, none⟩) 1 1] w fun e w' =>
      e = .returned (.slice (some ⟨b, 0, none⟩) (n + 1) c) ∧ w' = w.setCells b (n * 2) (seatCells x) := by
  obtain ⟨i0, hi0, hz0, hzs, hzb⟩ := info_parts infoSeat
  have hsrc : Src Tryz.prog i0.size 122 (.slice (some ⟨vb, 0, none⟩) 1 1) 1 (seatCells x) w := by
    rw [hzs]
    exact Src.ofSlice w Tryz.underlying122 ⟨vb, 0, none⟩ 1 1 (seatCells x) rfl (fun j u hj => by rw [Addr.add_lit, Nat.zero_add]; exact hvs j u hj) (seat_one x)
  have hrun : ∀ ty, (Builtin.append_ #[122, 122] ty #[.slice (some ⟨b, 0, none⟩) n c, .slice (some ⟨vb, 0, none⟩) 1 1]).run Tryz.prog w = .ok (.slice (some ⟨b, 0, none⟩) (n + 1) c) (w.setCells b (n * 2) (seatCells x)) := fun ty => by
    have h := run_append_room_src w 122 122 ty 127 i0 Tryz.underlying122 hi0 b 0 n c _ 1 (seatCells x) hsrc hroom
      (fun j hj => by rw [seat_length] at hj; rw [hzs]; exact hsp _ (by omega)) (fun j hj => by rw [seat_length] at hj; rw [hzs]; exact hfz _ (by omega))
    rw [hzs, Nat.zero_add] at h
    exact h
  clear hsp hfz hvs hsrc
  go_enter Tryz.func85, Tryz.ntmps85
  go_wp2_with (at_builtin; refine Lib.wpList_append_run _ rfl _ _ _ _ rfl _ _ rfl rfl _ _ (hrun _) ?_)
  go_ret
  exact ⟨rfl, rfl⟩

set_option maxHeartbeats 4000000 in
set_option maxRecDepth 100000 in
theorem insert_end_grow (base : Option Addr) (n c vb : Nat) (L : List (ByteArray × Nat)) (x : ByteArray × Nat) (w : World) (hn : n ≤ 1000000) (hnc : n ≤ c) (hroom : c < n + 1) (hcl : L.length = n)
    (hb : (base = none ∧ n = 0) ∨ ∃ b, base = some ⟨b, 0, none⟩ ∧ ∀ j v, (flat L)[j]? = some v → w.cell? ⟨b, j, none⟩ = some v)
    (hvs : ∀ j v, (seatCells x)[j]? = some v → w.cell? ⟨vb, j, none⟩ = some v) :
    Calls Tryz.prog 85 #[.slice base n c, .int .i64 (n : Int), .slice (some ⟨vb, 0, none⟩) 1 1] w fun e w' =>
      e = .returned (.slice (some ⟨w.heap.size, 0, none⟩) (n + 1) (grownCap w (n + 1) c 127)) ∧
      w' = w.drew.alloc (.cells ((flat L ++ seatCells x).toArray ++ Builtin.zeroCells #[.string { data := #[] }, .int .i64 0] (grownCap w (n + 1) c 127 - (n + 1))) 127) := by
  obtain ⟨i0, hi0, hz0, hzs, hzb⟩ := info_parts infoSeat
  have hsrc : Src Tryz.prog i0.size 122 (.slice (some ⟨vb, 0, none⟩) 1 1) 1 (seatCells x) w := by
    rw [hzs]
    exact Src.ofSlice w Tryz.underlying122 ⟨vb, 0, none⟩ 1 1 (seatCells x) rfl (fun j u hj => by rw [Addr.add_lit, Nat.zero_add]; exact hvs j u hj) (seat_one x)
  have hold : (Builtin.firstCells i0.size n (.slice base n c)).run Tryz.prog w.drew = .ok (flat L).toArray w.drew := by
    rw [hzs]
    rcases hb with ⟨rfl, rfl⟩ | ⟨b, rfl, hc⟩
    · rw [List.length_eq_zero_iff.1 hcl]
      exact run_firstCells_none w.drew 2 0 0 c
    · exact run_firstCells_some w.drew 2 n _ n c (flat L) (by rw [flat_length, hcl]) (fun j v hj => by rw [Addr.add_lit, Nat.zero_add]; exact hc j v hj)
  have hrun : ∀ ty, (Builtin.append_ #[122, 122] ty #[.slice base n c, .slice (some ⟨vb, 0, none⟩) 1 1]).run Tryz.prog w = _ := fun ty =>
    run_append_grow_src w 122 122 ty 127 i0 _ Tryz.underlying122 hi0 hz0 base n c (flat L) hold _ 1 (seatCells x) hsrc hroom (by omega) (by rw [hzb]; exact growslice_fits hroom (by omega))
  have hE : (Value.agg #[.string { data := #[] }, .int .i64 0]).cells = #[.string { data := #[] }, .int .i64 0] := rfl
  simp only [hE] at hrun
  clear hvs hsrc hold
  rcases hb with ⟨rfl, rfl⟩ | ⟨b, rfl, hc⟩
  · go_enter Tryz.func85, Tryz.ntmps85
    go_wp2_with (at_builtin; refine Lib.wpList_append_run _ rfl _ _ _ _ rfl _ _ rfl rfl _ _ (hrun _) ?_)
    go_ret
    exact ⟨rfl, rfl⟩
  · clear hc
    go_enter Tryz.func85, Tryz.ntmps85
    go_wp2_with (at_builtin; refine Lib.wpList_append_run _ rfl _ _ _ _ rfl _ _ rfl rfl _ _ (hrun _) ?_)
    all_goals (go_ret; exact ⟨rfl, rfl⟩)

theorem zeroSeat_size (k : Nat) : (Builtin.zeroCells #[.string { data := #[] }, .int .i64 0] k).size = k * 2 := by
  simp [Builtin.zeroCells]

set_option maxHeartbeats 4000000 in
set_option maxRecDepth 100000 in
theorem insert_grow (b n i vb : Nat) (L : List (ByteArray × Nat)) (x : ByteArray × Nat) (w : World) (hi : i < n) (hn : n ≤ 1000000) (hcl : L.length = n)
    (hcs : ∀ j v, (flat L)[j]? = some v → w.cell? ⟨b, j, none⟩ = some v)
    (hvs : ∀ j v, (seatCells x)[j]? = some v → w.cell? ⟨vb, j, none⟩ = some v) :
    Calls Tryz.prog 85 #[.slice (some ⟨b, 0, none⟩) n n, .int .i64 (i : Int), .slice (some ⟨vb, 0, none⟩) 1 1] w fun e w' =>
      e = .returned (.slice (some ⟨w.heap.size, 0, none⟩) (n + 1) (grownCap w (n + 1) n 127)) ∧
      w' = (((w.alloc (.cells ((flat (L.take i)).toArray ++ Builtin.zeroCells #[.string { data := #[] }, .int .i64 0] (n + 1 - i) ++ Builtin.zeroCells #[.string { data := #[] }, .int .i64 0] (grownCap w (n + 1) n 127 - (n + 1))) 127)).drew.setCells w.heap.size (i * 2) (seatCells x)).drew).setCells w.heap.size ((i + 1) * 2) (flat (L.drop i)) := by
  obtain ⟨i0, hi0, hz0, hzs, hzb⟩ := info_parts infoSeat
  have hz2 : ((i : Int) == (n : Int)) = false := beq_false_of_ne (by omega)
  have hz3 : (n : Int) < (n : Int) + 1 := by omega
  have hsz : (Tryz.prog.info? 127).map (·.size) = some 2 := by rw [hi0]; simp [hzs]
  have hbw : b < w.heap.size := World.block_lt_of_cell? _ _ (hcs 0 _ (List.getElem?_eq_getElem (by rw [flat_length]; omega)))
  have hvw : vb < w.heap.size := World.block_lt_of_cell? _ _ (hvs 0 _ rfl)
  have hkk : (n : Int) + 1 - (i : Int) = ((n + 1 - i : Nat) : Int) := by omega
  have hik : i + (n + 1 - i) = n + 1 := by omega
  have hold : (Builtin.firstCells i0.size i (.slice (some ⟨b, 0, none⟩) i n)).run Tryz.prog w.drew = .ok (flat (L.take i)).toArray w.drew := by
    rw [hzs]
    exact run_firstCells_some w.drew 2 i ⟨b, 0, none⟩ i n (flat (L.take i)) (by rw [flat_length, List.length_take]; omega) (fun j v hj => by
      rw [Addr.add_lit, Nat.zero_add]
      rw [← flat_take, List.getElem?_take] at hj
      split at hj
      · exact hcs j v hj
      · cases hj)
  have hrz : ∀ ty, (Builtin.append_ #[122, 3] ty #[.slice (some ⟨b, 0, none⟩) i n, .int .i64 ((n : Int) + 1 - (i : Int))]).run Tryz.prog w =
      .ok (.slice (some ⟨w.heap.size, 0, none⟩) (n + 1) (grownCap w (n + 1) n 127)) (w.drew.alloc (.cells ((flat (L.take i)).toArray ++ Builtin.zeroCells #[.string { data := #[] }, .int .i64 0] (n + 1 - i) ++ Builtin.zeroCells #[.string { data := #[] }, .int .i64 0] (grownCap w (n + 1) n 127 - (n + 1))) 127)) := fun ty => by
    have h := Lib.run_append_grow_zeros w 122 3 ty 127 i0 _ .i64 .i64 Tryz.underlying122 Tryz.underlying3 hi0 hz0 (some ⟨b, 0, none⟩) i n (flat (L.take i)) hold (n + 1 - i) (by omega) (by omega) (by omega) (by omega) (by rw [hzb]; omega) (by rw [hzb, hik]; exact growslice_fits (by omega) (by omega))
    rw [hik] at h
    rw [hkk]
    exact h
  obtain ⟨G, hG⟩ : ∃ G, G = grownCap w (n + 1) n 127 := ⟨_, rfl⟩
  obtain ⟨ROW, hROW⟩ : ∃ ROW : Array Value, ROW = (flat (L.take i)).toArray ++ Builtin.zeroCells #[.string { data := #[] }, .int .i64 0] (n + 1 - i) ++ Builtin.zeroCells #[.string { data := #[] }, .int .i64 0] (G - (n + 1)) := ⟨_, rfl⟩
  rw [← hG] at hrz ⊢
  rw [← hROW] at hrz ⊢
  have hRl : (n + 1) * 2 ≤ ROW.size := by
    rw [hROW, Array.size_append, Array.size_append, zeroSeat_size, zeroSeat_size]
    simp [flat_length]
    omega
  obtain ⟨W1, hW1⟩ : ∃ W1, W1 = w.drew.alloc (.cells ROW 127) := ⟨_, rfl⟩
  rw [← hW1] at hrz
  have hN : ∀ j, j < (n + 1) * 2 → (W1.cell? ⟨w.heap.size, j, none⟩).isSome = true := fun j hj => by
    rw [hW1, World.cell?_alloc_at (w := w.drew) ROW _ w.heap.size j rfl, Array.getElem?_eq_getElem (by omega)]; rfl
  have hNf : ∀ j, W1.frozen? ⟨w.heap.size, j, none⟩ = false := fun j => by rw [hW1]; exact World.frozen?_alloc_at (w := w.drew) ROW _ w.heap.size j rfl
  have hOb : ∀ j v, w.cell? ⟨b, j, none⟩ = some v → W1.cell? ⟨b, j, none⟩ = some v := fun j v h => by rw [hW1, World.cell?_alloc_past (w := w.drew) _ b j hbw]; exact h
  have hOv : ∀ j v, w.cell? ⟨vb, j, none⟩ = some v → W1.cell? ⟨vb, j, none⟩ = some v := fun j v h => by rw [hW1, World.cell?_alloc_past (w := w.drew) _ vb j hvw]; exact h
  have hcpA : ∀ (W : World), (∀ x, W.cell? x = W1.cell? x) → (∀ x, W.frozen? x = W1.frozen? x) → ∀ ty dc, (Builtin.copy_ #[122, 122] ty #[.slice (some ⟨w.heap.size, i * 2, none⟩) (n + 1 - i) dc, .slice (some ⟨vb, 0, none⟩) 1 1]).run Tryz.prog W = .ok (goInt ((1 : Nat) : Int)) (W.setCells w.heap.size (i * 2) (seatCells x)) := fun W hWc hWf ty dc =>
    run_copy2 W _ _ ty 127 w.heap.size (i * 2) (n + 1 - i) dc ⟨vb, 0, none⟩ 1 1 1 (seatCells x) Tryz.underlying122 hsz (by simp only [Nat.min_def]; split <;> omega) rfl
      (fun j v hj => by rw [Addr.add_lit, Nat.zero_add, hWc]; exact hOv _ v (hvs j v hj))
      (fun j hj => by rw [hWc]; rw [seat_length] at hj; exact hN _ (by omega)) (fun j hj => by rw [hWf]; exact hNf _) (seat_one x)
  have hGn : n + 1 ≤ G := by rw [hG]; exact grownCap_ge w _ _ _
  have hG63 : G ≤ 9223372036854775807 := by
    have := grownCap_le_maxLen w (n + 1) n 127 (by unfold maxLen; omega)
    rw [← hG] at this
    unfold maxLen at this
    omega
  have hGi : ¬ (G = i) := by omega
  have hGim : ¬ (G = i + 1) := by omega
  have hci : ¬ (n = i) := by omega
  have hbN : b ≠ w.heap.size := by omega
  have hdl : (flat (L.drop i)).length = (n - i) * 2 := by rw [flat_length, List.length_drop, hcl]
  have hcpB : ∀ (W : World), (∀ y, W.cell? y = (W1.setCells w.heap.size (i * 2) (seatCells x)).cell? y) → (∀ y, W.frozen? y = (W1.setCells w.heap.size (i * 2) (seatCells x)).frozen? y) → ∀ ty dc sc, (Builtin.copy_ #[122, 122] ty #[.slice (some ⟨w.heap.size, (i + 1) * 2, none⟩) (n + 1 - (i + 1)) dc, .slice (some ⟨b, i * 2, none⟩) (n - i) sc]).run Tryz.prog W = .ok (goInt ((n - i : Nat) : Int)) (W.setCells w.heap.size ((i + 1) * 2) (flat (L.drop i))) := fun W hWc hWf ty dc sc =>
    run_copy2 W _ _ ty 127 w.heap.size ((i + 1) * 2) (n + 1 - (i + 1)) dc ⟨b, i * 2, none⟩ (n - i) sc (n - i) (flat (L.drop i)) Tryz.underlying122 hsz (by simp only [Nat.min_def]; split <;> omega) hdl
      (fun j v hj => by
        rw [Addr.add_lit, hWc, World.cell?_setCells_out _ _ _ _ _ (fun h _ => absurd h hbN)]
        rw [← flat_drop, List.getElem?_drop] at hj
        exact hOb _ v (hcs _ v hj))
      (fun j hj => by rw [hWc]; exact isSome_setCells _ (seatCells x) (i * 2) _ (fun t ht => by rw [seat_length] at ht; exact hN _ (by omega)) _ (hN _ (by omega)))
      (fun j hj => by rw [hWf, World.frozen?_setCells]; exact hNf _) (flat_one _)
  subst hW1
  have hE1 : ∀ x, ((w.alloc (.cells ROW 127)).drew).cell? x = (w.drew.alloc (.cells ROW 127)).cell? x := fun x => rfl
  have hE2 : ∀ x, ((w.alloc (.cells ROW 127)).drew).frozen? x = (w.drew.alloc (.cells ROW 127)).frozen? x := fun x => rfl
  have hF1 : ∀ y, (((w.alloc (.cells ROW 127)).drew.setCells w.heap.size (i * 2) (seatCells x)).drew).cell? y = ((w.drew.alloc (.cells ROW 127)).setCells w.heap.size (i * 2) (seatCells x)).cell? y := fun y => rfl
  have hF2 : ∀ y, (((w.alloc (.cells ROW 127)).drew.setCells w.heap.size (i * 2) (seatCells x)).drew).frozen? y = ((w.drew.alloc (.cells ROW 127)).setCells w.heap.size (i * 2) (seatCells x)).frozen? y := fun y => rfl
  have hw1 : IntKind.i64.wrap ((i : Int) + 1) = (i : Int) + 1 := by rw [IntKind.wrap_i64]; omega
  have hb1 : (0 : Int) ≤ (i : Int) + 1 := by omega
  have hin : i ≤ n := by omega
  have htn : ((i : Int) + 1).toNat = i + 1 := by omega
  have hb3 : (i : Int) ≤ (n : Int) := by omega
  clear hkk hik hold hROW hG hRl hN hNf hOb hOv hcs hvs hdl
  go_enter Tryz.func85, Tryz.ntmps85
  go_wp2_with (first
    | (at_builtin; refine Lib.wpList_append_run _ rfl _ _ _ _ rfl _ _ rfl rfl _ _ (hrz _) ?_)
    | (at_builtin; refine wpList_copy_runI _ rfl _ _ 122 122 rfl _ _ rfl rfl (hcpA _ hE1 hE2 _ _) ?_))
  go_region_law (refine step_copy_runI rfl _ _ 122 122 rfl (.slice (some ⟨w.heap.size, (i + 1) * 2, none⟩) (n + 1 - (i + 1)) (G - (i + 1))) (.slice (some ⟨b, i * 2, none⟩) (n - i) (n - i)) (by simp [Act.eval, Act.put]) (by simp [Act.eval, Act.put]) (hcpB _ hF1 hF2 3 (G - (i + 1)) (n - i)) ?_)
  go_wp2
  go_ret
  exact ⟨rfl, rfl⟩
end Go.Proofs.YtfphjhmhiaepiaaGreat
