/-
  Plain mathematics of setups: what of lists of named things, of numbers and of bands holds, as truth values.
-/
import Derived.Test.YtfphjhmhiaepiaaGreatKB
import Derived.Test.YtfphjhmhiaepiaaGreatKE
import Derived.Test.YtfphjhmhiaepiaaGreatKF
namespace Go.Proofs.YtfphjhmhiaepiaaGreat.RU
open Go.ChangeShapes Go.WideShapes Go.ChangeAt Go.RowKit Go.Lib

/-- A thing of a list: its name, its numbers by their places, its mark. -/
abbrev It := ByteArray × (Nat → Int) × Bool
/-- All of the first n. -/
def allB (n : Nat) (f : Nat → Bool) : Bool := (List.range n).all f
theorem allB_true {n : Nat} {f : Nat → Bool} (h : ∀ i, i < n → f i = true) : allB n f = true := by
  unfold allB
  rw [List.all_eq_true]
  intro i hi
  exact h i (List.mem_range.1 hi)
theorem allB_false {n : Nat} {f : Nat → Bool} {i : Nat} (hi : i < n) (h : f i = false) : allB n f = false := by
  unfold allB
  rw [List.all_eq_false]
  exact ⟨i, List.mem_range.2 hi, by rw [h]; simp⟩
theorem allB_get {n : Nat} {f : Nat → Bool} (h : allB n f = true) {i : Nat} (hi : i < n) : f i = true := by
  unfold allB at h
  rw [List.all_eq_true] at h
  exact h i (List.mem_range.2 hi)
theorem allB_same {n : Nat} {f g : Nat → Bool} (h : ∀ i, i < n → f i = g i) : allB n f = allB n g := by
  cases hg : allB n g
  · unfold allB at hg
    rw [List.all_eq_false] at hg
    obtain ⟨i, hi, hf⟩ := hg
    exact allB_false (List.mem_range.1 hi) (by rw [h i (List.mem_range.1 hi)]; simpa using hf)
  · exact allB_true (fun i hi => by rw [h i hi]; exact allB_get hg hi)
/-- A number between two ends. -/
def withB (n l h : Int) : Bool := decide (l ≤ n ∧ n ≤ h)
theorem withB_true {n l h : Int} (h1 : l ≤ n) (h2 : n ≤ h) : withB n l h = true := decide_eq_true ⟨h1, h2⟩
theorem withB_get {n l h : Int} (k : withB n l h = true) : l ≤ n ∧ n ≤ h := of_decide_eq_true k
theorem withB_not {n l h : Int} (k : withB n l h = false) : ¬ (l ≤ n ∧ n ≤ h) := of_decide_eq_false k
/-- The name at place i is one, and no other ahead of it is the same. -/
def freshB (N : Nat → ByteArray) (i : Nat) : Bool := vldB (N i) && allB i fun k => decide (N k ≠ N i)
/-- From 1 to most, each with a name of its own. -/
def namesB (N : Nat → ByteArray) (n most : Nat) : Bool := withB n 1 most && allB n (freshB N)
theorem fresh_valid {N : Nat → ByteArray} {i : Nat} (h : freshB N i = true) : vldB (N i) = true := by
  unfold freshB at h; simp at h; exact h.1
theorem fresh_other {N : Nat → ByteArray} {i : Nat} (h : freshB N i = true) {k : Nat} (hk : k < i) : N k ≠ N i := by
  unfold freshB at h
  rw [Bool.and_eq_true] at h
  exact of_decide_eq_true (allB_get h.2 hk)
theorem fresh_cases (N : Nat → ByteArray) (i : Nat) : (freshB N i = false ∧ vldB (N i) = false) ∨ (freshB N i = false ∧ vldB (N i) = true ∧ ∃ k, k < i ∧ N k = N i) ∨ (freshB N i = true ∧ vldB (N i) = true ∧ ∀ k, k < i → N k ≠ N i) := by
  cases hv : vldB (N i)
  · exact .inl ⟨by unfold freshB; rw [hv]; rfl, rfl⟩
  · cases hf : freshB N i
    · refine .inr (.inl ⟨rfl, rfl, ?_⟩)
      unfold freshB at hf
      rw [hv, Bool.true_and] at hf
      unfold allB at hf
      rw [List.all_eq_false] at hf
      obtain ⟨k, hk, e⟩ := hf
      exact ⟨k, List.mem_range.1 hk, by simpa using e⟩
    · exact .inr (.inr ⟨rfl, rfl, fun k hk => fresh_other hf hk⟩)
theorem names_count {N : Nat → ByteArray} {n most : Nat} (h : withB n 1 most = false) : namesB N n most = false := by unfold namesB; rw [h]; rfl
theorem names_bad {N : Nat → ByteArray} {n most i : Nat} (hi : i < n) (h : freshB N i = false) : namesB N n most = false := by unfold namesB; rw [allB_false hi h]; simp
theorem names_good {N : Nat → ByteArray} {n most : Nat} (h : withB n 1 most = true) (k : ∀ i, i < n → freshB N i = true) : namesB N n most = true := by unfold namesB; rw [h, allB_true k]; rfl
theorem names_get {N : Nat → ByteArray} {n most : Nat} (h : namesB N n most = true) : (1 ≤ n ∧ n ≤ most) ∧ ∀ i, i < n → freshB N i = true := by
  unfold namesB at h
  rw [Bool.and_eq_true] at h
  have := withB_get h.1
  exact ⟨by omega, fun i hi => allB_get h.2 hi⟩
/-- A symbol has a band, and its lower end is at least 1. -/
def bandB (z : Nat → Int) : Bool := decide (baE (z 3) (z 4) (z 2) = 0) && decide (1 ≤ baL (z 3) (z 4) (z 2))
def accB (z : Nat → Int) : Bool := withB (z 1) 0 4611686018427387904
def symB (z : Nat → Int) : Bool := withB (z 1) 1 1099511627776 && (withB (z 5) 1 1099511627776 && (withB (z 2) 1 1099511627776 && (withB (z 3) 1 1099511627776 && (withB (z 4) 0 10000 && (withB (z 6) 1 4611686018427387904 && bandB z)))))
def venB (z : Nat → Int) : Bool := withB (z 1) 1 1099511627776 && (withB (z 2) 0 10000 && withB (z 3) 0 1099511627776)
def roomB (p : Nat → Int) : Bool := withB (p 3) 1 64 && (withB (p 4) 1 256 && (withB (p 5) 1 4096 && (withB (p 6) 1 1073741824 && (withB (p 7) 1 1024 && withB (p 8) 2 1024))))
/-- A setup: three lists of things, and numbers by their places. -/
structure Stp where
  nA : Nat
  nS : Nat
  nV : Nat
  A : Nat → It
  S : Nat → It
  V : Nat → It
  P : Nat → Int
def nmsB (s : Stp) : Bool := namesB (fun i => (s.A i).1) s.nA 16 && (namesB (fun i => (s.S i).1) s.nS 16 && namesB (fun i => (s.V i).1) s.nV 8)
def accsB (s : Stp) : Bool := allB s.nA fun i => accB (s.A i).2.1
def symsB (s : Stp) : Bool := allB s.nS fun i => symB (s.S i).2.1
def vensB (s : Stp) : Bool := allB s.nV fun i => venB (s.V i).2.1
/-- A setup is right. -/
def rightB (s : Stp) : Bool := nmsB s && (accsB s && (symsB s && (vensB s && roomB s.P)))
end Go.Proofs.YtfphjhmhiaepiaaGreat.RU
/-
  A slice of accounts in memory: how it reads.
-/
namespace Go.Proofs.YtfphjhmhiaepiaaGreat.RU
open Go.ChangeShapes Go.WideShapes Go.ChangeAt Go.RowKit Go.Lib

/-- The slice value v reads as n accounts. -/
def RowA (w : World) (v : Value) (n : Nat) (g : Nat → It) : Prop :=
  ∃ a cap, v = .slice a n cap ∧ n ≤ cap ∧ cap ≤ maxLen ∧ ∀ i, i < n → ∃ b off, a = some ⟨b, off, none⟩ ∧ w.cell? ⟨b, off + i * 2, none⟩ = some (.string (g i).1) ∧ w.cell? ⟨b, off + i * 2 + 1, none⟩ = some (.int .i64 ((g i).2.1 1))
theorem RowA.below {w w' : World} {v : Value} {n : Nat} {g : Nat → It} {B : Nat} (h : RowA w v n g) (hb : Below B w w') (hB : w.heap.size ≤ B) : RowA w' v n g := by
  obtain ⟨a, cap, rfl, h1, h2, h3⟩ := h
  refine ⟨a, cap, rfl, h1, h2, fun i hi => ?_⟩
  obtain ⟨b, off, e, c0, c1⟩ := h3 i hi
  have lt : b < B := Nat.lt_of_lt_of_le (World.block_lt_of_cell? _ _ c0) hB
  exact ⟨b, off, e, by rw [hb.cell (p := ⟨b, off + i * 2, none⟩) lt]; exact c0, by rw [hb.cell (p := ⟨b, off + i * 2 + 1, none⟩) lt]; exact c1⟩
theorem RowA.len {w : World} {v : Value} {n : Nat} {g : Nat → It} (h : RowA w v n g) : ∃ a cap, v = .slice a n cap := by
  obtain ⟨a, cap, rfl, _⟩ := h
  exact ⟨a, cap, rfl⟩
theorem RowA.same {w : World} {v : Value} {n : Nat} {g g' : Nat → It} (h : RowA w v n g) (e : ∀ i, i < n → g i = g' i) : RowA w v n g' := by
  obtain ⟨a, cap, rfl, h1, h2, h3⟩ := h
  refine ⟨a, cap, rfl, h1, h2, fun i hi => ?_⟩
  rw [← e i hi]
  exact h3 i hi
theorem RowA.none (w : World) (g : Nat → It) : RowA w (.slice none 0 0) 0 g := ⟨Option.none, 0, rfl, Nat.le_refl _, by unfold maxLen; omega, fun i hi => absurd hi (by omega)⟩
theorem accountName_any (x : It) (w : World) :
    Calls Tryz.prog 26 #[.agg #[.string x.1, .int .i64 (x.2.1 1)]] w fun e w' => e = .returned (.string x.1) ∧ w' = w.alloc (.cells #[.string x.1, .int .i64 (x.2.1 1)] 55) := by
  obtain ⟨s, z, m⟩ := x
  go_enter Tryz.func26, Tryz.ntmps26
  go_wp2
  go_ret
  exact ⟨rfl, rfl⟩
end Go.Proofs.YtfphjhmhiaepiaaGreat.RU
/-
  A slice of symbols in memory: how it reads.
-/
namespace Go.Proofs.YtfphjhmhiaepiaaGreat.RU
open Go.ChangeShapes Go.WideShapes Go.ChangeAt Go.RowKit Go.Lib

/-- The slice value v reads as n symbols. -/
def RowS (w : World) (v : Value) (n : Nat) (g : Nat → It) : Prop :=
  ∃ a cap, v = .slice a n cap ∧ n ≤ cap ∧ cap ≤ maxLen ∧ ∀ i, i < n → ∃ b off, a = some ⟨b, off, none⟩ ∧ w.cell? ⟨b, off + i * 7, none⟩ = some (.string (g i).1) ∧ w.cell? ⟨b, off + i * 7 + 1, none⟩ = some (.int .i64 ((g i).2.1 1)) ∧ w.cell? ⟨b, off + i * 7 + 1 + 1, none⟩ = some (.int .i64 ((g i).2.1 2)) ∧ w.cell? ⟨b, off + i * 7 + 1 + 1 + 1, none⟩ = some (.int .i64 ((g i).2.1 3)) ∧ w.cell? ⟨b, off + i * 7 + 1 + 1 + 1 + 1, none⟩ = some (.int .i64 ((g i).2.1 4)) ∧ w.cell? ⟨b, off + i * 7 + 1 + 1 + 1 + 1 + 1, none⟩ = some (.int .i64 ((g i).2.1 5)) ∧ w.cell? ⟨b, off + i * 7 + 1 + 1 + 1 + 1 + 1 + 1, none⟩ = some (.int .i64 ((g i).2.1 6))
theorem RowS.below {w w' : World} {v : Value} {n : Nat} {g : Nat → It} {B : Nat} (h : RowS w v n g) (hb : Below B w w') (hB : w.heap.size ≤ B) : RowS w' v n g := by
  obtain ⟨a, cap, rfl, h1, h2, h3⟩ := h
  refine ⟨a, cap, rfl, h1, h2, fun i hi => ?_⟩
  obtain ⟨b, off, e, c0, c1, c2, c3, c4, c5, c6⟩ := h3 i hi
  have lt : b < B := Nat.lt_of_lt_of_le (World.block_lt_of_cell? _ _ c0) hB
  exact ⟨b, off, e, by rw [hb.cell (p := ⟨b, off + i * 7, none⟩) lt]; exact c0, by rw [hb.cell (p := ⟨b, off + i * 7 + 1, none⟩) lt]; exact c1, by rw [hb.cell (p := ⟨b, off + i * 7 + 1 + 1, none⟩) lt]; exact c2, by rw [hb.cell (p := ⟨b, off + i * 7 + 1 + 1 + 1, none⟩) lt]; exact c3, by rw [hb.cell (p := ⟨b, off + i * 7 + 1 + 1 + 1 + 1, none⟩) lt]; exact c4, by rw [hb.cell (p := ⟨b, off + i * 7 + 1 + 1 + 1 + 1 + 1, none⟩) lt]; exact c5, by rw [hb.cell (p := ⟨b, off + i * 7 + 1 + 1 + 1 + 1 + 1 + 1, none⟩) lt]; exact c6⟩
theorem RowS.len {w : World} {v : Value} {n : Nat} {g : Nat → It} (h : RowS w v n g) : ∃ a cap, v = .slice a n cap := by
  obtain ⟨a, cap, rfl, _⟩ := h
  exact ⟨a, cap, rfl⟩
theorem RowS.same {w : World} {v : Value} {n : Nat} {g g' : Nat → It} (h : RowS w v n g) (e : ∀ i, i < n → g i = g' i) : RowS w v n g' := by
  obtain ⟨a, cap, rfl, h1, h2, h3⟩ := h
  refine ⟨a, cap, rfl, h1, h2, fun i hi => ?_⟩
  rw [← e i hi]
  exact h3 i hi
theorem RowS.none (w : World) (g : Nat → It) : RowS w (.slice none 0 0) 0 g := ⟨Option.none, 0, rfl, Nat.le_refl _, by unfold maxLen; omega, fun i hi => absurd hi (by omega)⟩
theorem symbolName_any (x : It) (w : World) :
    Calls Tryz.prog 28 #[.agg #[.string x.1, .int .i64 (x.2.1 1), .int .i64 (x.2.1 2), .int .i64 (x.2.1 3), .int .i64 (x.2.1 4), .int .i64 (x.2.1 5), .int .i64 (x.2.1 6)]] w fun e w' => e = .returned (.string x.1) ∧ w' = w.alloc (.cells #[.string x.1, .int .i64 (x.2.1 1), .int .i64 (x.2.1 2), .int .i64 (x.2.1 3), .int .i64 (x.2.1 4), .int .i64 (x.2.1 5), .int .i64 (x.2.1 6)] 40) := by
  obtain ⟨s, z, m⟩ := x
  go_enter Tryz.func28, Tryz.ntmps28
  go_wp2
  go_ret
  exact ⟨rfl, rfl⟩
end Go.Proofs.YtfphjhmhiaepiaaGreat.RU
/-
  A slice of venues in memory: how it reads.
-/
namespace Go.Proofs.YtfphjhmhiaepiaaGreat.RU
open Go.ChangeShapes Go.WideShapes Go.ChangeAt Go.RowKit Go.Lib

/-- The slice value v reads as n venues. -/
def RowV (w : World) (v : Value) (n : Nat) (g : Nat → It) : Prop :=
  ∃ a cap, v = .slice a n cap ∧ n ≤ cap ∧ cap ≤ maxLen ∧ ∀ i, i < n → ∃ b off, a = some ⟨b, off, none⟩ ∧ w.cell? ⟨b, off + i * 5, none⟩ = some (.string (g i).1) ∧ w.cell? ⟨b, off + i * 5 + 1, none⟩ = some (.int .i64 ((g i).2.1 1)) ∧ w.cell? ⟨b, off + i * 5 + 1 + 1, none⟩ = some (.int .i64 ((g i).2.1 2)) ∧ w.cell? ⟨b, off + i * 5 + 1 + 1 + 1, none⟩ = some (.int .i64 ((g i).2.1 3)) ∧ w.cell? ⟨b, off + i * 5 + 1 + 1 + 1 + 1, none⟩ = some (.bool (g i).2.2)
theorem RowV.below {w w' : World} {v : Value} {n : Nat} {g : Nat → It} {B : Nat} (h : RowV w v n g) (hb : Below B w w') (hB : w.heap.size ≤ B) : RowV w' v n g := by
  obtain ⟨a, cap, rfl, h1, h2, h3⟩ := h
  refine ⟨a, cap, rfl, h1, h2, fun i hi => ?_⟩
  obtain ⟨b, off, e, c0, c1, c2, c3, c4⟩ := h3 i hi
  have lt : b < B := Nat.lt_of_lt_of_le (World.block_lt_of_cell? _ _ c0) hB
  exact ⟨b, off, e, by rw [hb.cell (p := ⟨b, off + i * 5, none⟩) lt]; exact c0, by rw [hb.cell (p := ⟨b, off + i * 5 + 1, none⟩) lt]; exact c1, by rw [hb.cell (p := ⟨b, off + i * 5 + 1 + 1, none⟩) lt]; exact c2, by rw [hb.cell (p := ⟨b, off + i * 5 + 1 + 1 + 1, none⟩) lt]; exact c3, by rw [hb.cell (p := ⟨b, off + i * 5 + 1 + 1 + 1 + 1, none⟩) lt]; exact c4⟩
theorem RowV.len {w : World} {v : Value} {n : Nat} {g : Nat → It} (h : RowV w v n g) : ∃ a cap, v = .slice a n cap := by
  obtain ⟨a, cap, rfl, _⟩ := h
  exact ⟨a, cap, rfl⟩
theorem RowV.same {w : World} {v : Value} {n : Nat} {g g' : Nat → It} (h : RowV w v n g) (e : ∀ i, i < n → g i = g' i) : RowV w v n g' := by
  obtain ⟨a, cap, rfl, h1, h2, h3⟩ := h
  refine ⟨a, cap, rfl, h1, h2, fun i hi => ?_⟩
  rw [← e i hi]
  exact h3 i hi
theorem RowV.none (w : World) (g : Nat → It) : RowV w (.slice none 0 0) 0 g := ⟨Option.none, 0, rfl, Nat.le_refl _, by unfold maxLen; omega, fun i hi => absurd hi (by omega)⟩
theorem venueName_any (x : It) (w : World) :
    Calls Tryz.prog 30 #[.agg #[.string x.1, .int .i64 (x.2.1 1), .int .i64 (x.2.1 2), .int .i64 (x.2.1 3), .bool x.2.2]] w fun e w' => e = .returned (.string x.1) ∧ w' = w.alloc (.cells #[.string x.1, .int .i64 (x.2.1 1), .int .i64 (x.2.1 2), .int .i64 (x.2.1 3), .bool x.2.2] 57) := by
  obtain ⟨s, z, m⟩ := x
  go_enter Tryz.func30, Tryz.ntmps30
  go_wp2
  go_ret
  exact ⟨rfl, rfl⟩
end Go.Proofs.YtfphjhmhiaepiaaGreat.RU
/-
  Contract of rules' within; a roster that takes the names of a list one by one.
-/
namespace Go.Proofs.YtfphjhmhiaepiaaGreat.RU
open Go.ChangeShapes Go.WideShapes Go.ChangeAt Go.RowKit Go.Lib

theorem within_any (n l h : Int) (w : World) :
    Calls Tryz.prog 62 #[.int .i64 n, .int .i64 l, .int .i64 h] w fun e w' => e = .returned (.bool (withB n l h)) ∧ w' = w := by
  unfold withB
  by_cases k : l ≤ n
  · have e : decide (l ≤ n ∧ n ≤ h) = decide (n ≤ h) := decide_eq_decide.2 (by omega)
    rw [e]
    clear e
    go_enter Tryz.func62, Tryz.ntmps62
    go_wp2
    go_ret
    exact ⟨rfl, rfl⟩
  · have e : decide (l ≤ n ∧ n ≤ h) = false := decide_eq_false (by omega)
    rw [e]
    clear e
    go_enter Tryz.func62, Tryz.ntmps62
    go_wp2
    go_ret
    exact ⟨rfl, rfl⟩
theorem within_is (n l h : Int) (w : World) (b : Bool) (hb : withB n l h = b) :
    Calls Tryz.prog 62 #[.int .i64 n, .int .i64 l, .int .i64 h] w fun e w' => e = .returned (.bool b) ∧ w' = w := by
  rw [← hb]; exact within_any n l h w

/-- A roster in memory newer than w0, for M names, that holds the first k of N in their order. -/
def NmAt (w0 w : World) (N : Nat → ByteArray) (k M : Nat) : Prop := ∃ S c L, Ros w (w0.heap.size + 1) w0.heap.size S c M (fun i => if i < k then N i else none4) L ∧ Below w0.heap.size w0 w ∧ ∀ b, own (w0.heap.size + 1) w0.heap.size S b → w0.heap.size ≤ b
theorem NmAt.still {w0 w w' : World} {N : Nat → ByteArray} {k M : Nat} (h : NmAt w0 w N k M) (hb : Below w.heap.size w w') : NmAt w0 w' N k M := by
  obtain ⟨S, c, L, h1, h2, h3⟩ := h
  exact ⟨S, c, L, h1.below hb, h2.trans (hb.mono h2.size), h3⟩
theorem NmAt.below {w0 w : World} {N : Nat → ByteArray} {k M : Nat} (h : NmAt w0 w N k M) : Below w0.heap.size w0 w := by
  obtain ⟨S, c, L, h1, h2, h3⟩ := h
  exact h2
theorem nm_new (N : Nat → ByteArray) (M : Nat) (w : World) (h1 : 0 < M) (h2 : M ≤ 1024) : Calls Tryz.prog 74 #[.int .i64 (M : Int)] w fun e w' =>
    e = .returned (.tuple #[.pointer (some ⟨w.heap.size + 1, 0, none⟩), .int .i64 0]) ∧ NmAt w w' N 0 M := by
  refine (new_yes M w h1 h2).mono ?_
  rintro e w' ⟨rfl, hR, hB, _⟩
  refine ⟨rfl, none, 0, [], ?_, hB, ?_⟩
  · simpa using hR
  · rintro b (rfl | rfl | e)
    · omega
    · omega
    · cases e
theorem nm_name {w0 w : World} {N : Nat → ByteArray} {k M : Nat} (h : NmAt w0 w N k M) (hv : vldB (N k) = false) :
    Calls Tryz.prog 75 #[.pointer (some ⟨w0.heap.size + 1, 0, none⟩), .string (N k)] w fun e w' => e = .returned (.tuple #[.int .i64 0, .int .i64 43]) ∧ Below w0.heap.size w0 w' := by
  obtain ⟨S, c, L, h1, h2, h3⟩ := h
  exact (put_name h1 (N k) hv).mono fun e w' ⟨a, b⟩ => ⟨a, h2.trans (b.mono h2.size)⟩
theorem nm_twice {w0 w : World} {N : Nat → ByteArray} {k M : Nat} (h : NmAt w0 w N k M) (hk : k < M) (hv : vldB (N k) = true) (he : ∃ j, j < k ∧ N j = N k) :
    Calls Tryz.prog 75 #[.pointer (some ⟨w0.heap.size + 1, 0, none⟩), .string (N k)] w fun e w' => e = .returned (.tuple #[.int .i64 0, .int .i64 41]) ∧ Below w0.heap.size w0 w' := by
  obtain ⟨S, c, L, h1, h2, h3⟩ := h
  obtain ⟨j, hj, e⟩ := he
  exact (put_twice h1 (N k) hv j (by omega) (by simp [hj, e])).mono fun e w' ⟨a, b⟩ => ⟨a, h2.trans (b.mono h2.size)⟩
theorem nm_ok {w0 w : World} {N : Nat → ByteArray} {k M : Nat} (h : NmAt w0 w N k M) (hk : k < M) (hv : vldB (N k) = true) (hf : ∀ i, i < k → freshB N i = true) (hn : ∀ j, j < k → N j ≠ N k) :
    Calls Tryz.prog 75 #[.pointer (some ⟨w0.heap.size + 1, 0, none⟩), .string (N k)] w fun e w' => e = .returned (.tuple #[.int .i64 (k : Int), .int .i64 0]) ∧ NmAt w0 w' N (k + 1) M := by
  obtain ⟨S, c, L, h1, h2, h3⟩ := h
  refine (put_ok h1 (N k) hv ?_ k hk (by simp) ?_).mono ?_
  · intro i hi
    by_cases e : i < k
    · simp only [e, if_true]; exact hn i e
    · simp only [e, if_false]; exact fun e' => vld_ne hv e'.symm
  · intro j hj
    simp only [hj, if_true]
    exact vld_ne (fresh_valid (hf j hj))
  · rintro e w' ⟨rfl, S', c', L', hR, hB, hO⟩
    have hs : (upd (fun i => if i < k then N i else none4) k (N k)) = (fun i => if i < k + 1 then N i else none4) := by
      funext j
      by_cases e : j = k
      · subst e; rw [upd_same]; simp
      · rw [upd_other _ _ e]
        by_cases e2 : j < k
        · simp [e2, show j < k + 1 by omega]
        · simp [e2, show ¬ j < k + 1 by omega]
    rw [hs] at hR
    refine ⟨rfl, S', c', L', hR, h2.trans (hB.below h2.size h3), fun b hb => ?_⟩
    rcases hO b hb with h | h
    · exact h3 b h
    · exact Nat.le_trans h2.size h
end Go.Proofs.YtfphjhmhiaepiaaGreat.RU
/-
  Contract of rules' named at accounts.
-/
namespace Go.Proofs.YtfphjhmhiaepiaaGreat.RU
open Go.ChangeShapes Go.WideShapes Go.ChangeAt Go.RowKit Go.Lib

set_option maxHeartbeats 4000000 in
theorem namedA_any {w : World} {v : Value} {n : Nat} {g : Nat → It} (h : RowA w v n g) :
    Calls Tryz.prog 57 #[v, .int .i64 16, .func (.func 26) #[] #[]] w fun e w' => e = .returned (.bool (namesB (fun i => (g i).1) n 16)) ∧ Below w.heap.size w w' := by
  obtain ⟨a, cap, rfl, h1, h2, h3⟩ := id h
  unfold maxLen at h2
  have F := within_any (n : Int) 1 16 w
  obtain ⟨Z, hZ⟩ : ∃ Z, Hid (namesB (fun i => (g i).1) n 16 = Z) := ⟨_, rfl⟩
  rw [show namesB (fun i => (g i).1) n 16 = Z from hZ.out]
  cases hc : withB n 1 16
  · have hz : Hid (Z = false) := hZ.out.symm.trans (names_count hc)
    rw [hc] at F
    clear h h3
    go_enter Tryz.func57, Tryz.ntmps57
    go_wp2_with fail
    refine F.mono ?_
    rintro e w1 ⟨rfl, rfl⟩
    go_wp2_with fail
    go_ret
    exact ⟨by rw [hz.out]; rfl, Below.refl _ _⟩
  · rw [hc] at F
    have hn := withB_get hc
    have HC : Hid (withB n 1 16 = true) := hc
    have F2 : Calls Tryz.prog 74 #[.int .i64 16] w fun e w' => e = .returned (.tuple #[.pointer (some ⟨w.heap.size + 1, 0, none⟩), .int .i64 0]) ∧ NmAt w w' (fun i => (g i).1) 0 16 := nm_new (fun i => (g i).1) 16 w (by decide) (by decide)
    clear h hc
    go_enter Tryz.func57, Tryz.ntmps57
    go_wp2_with fail
    refine F.mono ?_
    rintro e w1 ⟨rfl, rfl⟩
    go_wp2_with fail
    refine F2.mono ?_
    rintro e w2 ⟨rfl, hN⟩
    clear F F2
    go_wp2_with fail
    go_loopw [25] (fun c wr => ∃ k : Nat, c = .int .i64 (k : Int) ∧ k ≤ n ∧ Hid (∀ i, i < k → freshB (fun i => (g i).1) i = true) ∧ Hid (NmAt w1 wr (fun i => (g i).1) k 16)) (fun c _ => n - (RowKit.intOf c).toNat)
    case atStart => exact ⟨0, rfl, Nat.zero_le _, fun i hi => absurd hi (by omega), hN⟩
    case round =>
      obtain ⟨k, rfl, hk, hf, hR⟩ := hrel
      by_cases hlt : k < n
      · have t : (k : Int) < (n : Int) := by omega
        obtain ⟨b, off, rfl, c0, c1⟩ := h3 k hlt
        have hB := hR.out.below
        have d0 := (hB.cell (World.block_lt_of_cell? _ _ c0)).trans c0
        have d1 := (hB.cell (World.block_lt_of_cell? _ _ c1)).trans c1
        have hkm : k < 16 := by omega
        have G1 : ∀ W, Calls Tryz.prog 26 #[.agg #[.string (g k).1, .int .i64 ((g k).2.1 1)]] W fun e w' => e = .returned (.string (g k).1) ∧ w' = W.alloc (.cells #[.string (g k).1, .int .i64 ((g k).2.1 1)] 55) := fun W => accountName_any (g k) W
        have hge := hB.size
        rcases fresh_cases (fun i => (g i).1) k with ⟨e1, e2⟩ | ⟨e1, e2, e3⟩ | ⟨e1, e2, e3⟩
        · have hz : Hid (Z = false) := hZ.out.symm.trans (names_bad hlt e1)
          have G2 : ∀ W, Below wr.heap.size wr W → Calls Tryz.prog 75 #[.pointer (some ⟨w1.heap.size + 1, 0, none⟩), .string (g k).1] W fun e w' => e = .returned (.tuple #[.int .i64 0, .int .i64 43]) ∧ Below w1.heap.size w1 w' := fun W hW => nm_name (N := fun i => (g i).1) (k := k) (hR.out.still hW) e2
          clear h3 c0 c1 hf hB e1 e2
          generalize g k = x at *
          go_wp2_with fail
          refine (G1 _).mono ?_
          rintro e w3 ⟨rfl, rfl⟩
          go_wp2_with fail
          refine (G2 _ (((Below.refl _ _).alloc (Nat.le_refl _) _).alloc (by simp) _)).mono ?_
          rintro e w4 ⟨rfl, hB4⟩
          go_wp2_with fail
          go_ret
          exact ⟨by rw [hz.out]; rfl, hB4⟩
        · have hz : Hid (Z = false) := hZ.out.symm.trans (names_bad hlt e1)
          have G2 : ∀ W, Below wr.heap.size wr W → Calls Tryz.prog 75 #[.pointer (some ⟨w1.heap.size + 1, 0, none⟩), .string (g k).1] W fun e w' => e = .returned (.tuple #[.int .i64 0, .int .i64 41]) ∧ Below w1.heap.size w1 w' := fun W hW => nm_twice (N := fun i => (g i).1) (k := k) (hR.out.still hW) hkm e2 e3
          clear h3 c0 c1 hf hB e1 e2 e3
          generalize g k = x at *
          go_wp2_with fail
          refine (G1 _).mono ?_
          rintro e w3 ⟨rfl, rfl⟩
          go_wp2_with fail
          refine (G2 _ (((Below.refl _ _).alloc (Nat.le_refl _) _).alloc (by simp) _)).mono ?_
          rintro e w4 ⟨rfl, hB4⟩
          go_wp2_with fail
          go_ret
          exact ⟨by rw [hz.out]; rfl, hB4⟩
        · have HF : Hid (∀ i, i < k + 1 → freshB (fun i => (g i).1) i = true) := fun i hi => if e : i = k then by subst e; exact e1 else hf.out i (by omega)
          have G2 : ∀ W, Below wr.heap.size wr W → Calls Tryz.prog 75 #[.pointer (some ⟨w1.heap.size + 1, 0, none⟩), .string (g k).1] W fun e w' => e = .returned (.tuple #[.int .i64 (k : Int), .int .i64 0]) ∧ NmAt w1 w' (fun i => (g i).1) (k + 1) 16 := fun W hW => nm_ok (hR.out.still hW) hkm e2 hf.out e3
          clear h3 c0 c1 hf hB e1 e2 e3 hN
          generalize g k = x at *
          go_wp2_with fail
          refine (G1 _).mono ?_
          rintro e w3 ⟨rfl, rfl⟩
          go_wp2_with fail
          refine (G2 _ (((Below.refl _ _).alloc (Nat.le_refl _) _).alloc (by simp) _)).mono ?_
          rintro e w4 ⟨rfl, hB4⟩
          have H4 : Hid (NmAt w1 w4 (fun i => (g i).1) (k + 1) 16) := hB4
          clear hB4
          go_wp2_with fail
          go_roundw
          case rel => exact ⟨k + 1, by simp, by omega, HF, H4⟩
          case measure => simp [RowKit.intOf]; omega
      · have hkn : k = n := by omega
        subst hkn
        have hz : Hid (Z = true) := hZ.out.symm.trans (names_good HC.out hf.out)
        have hB := hR.out.below
        have t : ¬ (k : Int) < (k : Int) := by omega
        clear h3 hR hf
        go_wp2_with fail
        go_ret
        exact ⟨by rw [hz.out]; rfl, hB⟩
end Go.Proofs.YtfphjhmhiaepiaaGreat.RU
/-
  Contract of rules' named at symbols.
-/
namespace Go.Proofs.YtfphjhmhiaepiaaGreat.RU
open Go.ChangeShapes Go.WideShapes Go.ChangeAt Go.RowKit Go.Lib

set_option maxHeartbeats 4000000 in
theorem namedS_any {w : World} {v : Value} {n : Nat} {g : Nat → It} (h : RowS w v n g) :
    Calls Tryz.prog 58 #[v, .int .i64 16, .func (.func 28) #[] #[]] w fun e w' => e = .returned (.bool (namesB (fun i => (g i).1) n 16)) ∧ Below w.heap.size w w' := by
  obtain ⟨a, cap, rfl, h1, h2, h3⟩ := id h
  unfold maxLen at h2
  have F := within_any (n : Int) 1 16 w
  obtain ⟨Z, hZ⟩ : ∃ Z, Hid (namesB (fun i => (g i).1) n 16 = Z) := ⟨_, rfl⟩
  rw [show namesB (fun i => (g i).1) n 16 = Z from hZ.out]
  cases hc : withB n 1 16
  · have hz : Hid (Z = false) := hZ.out.symm.trans (names_count hc)
    rw [hc] at F
    clear h h3
    go_enter Tryz.func58, Tryz.ntmps58
    go_wp2_with fail
    refine F.mono ?_
    rintro e w1 ⟨rfl, rfl⟩
    go_wp2_with fail
    go_ret
    exact ⟨by rw [hz.out]; rfl, Below.refl _ _⟩
  · rw [hc] at F
    have hn := withB_get hc
    have HC : Hid (withB n 1 16 = true) := hc
    have F2 : Calls Tryz.prog 74 #[.int .i64 16] w fun e w' => e = .returned (.tuple #[.pointer (some ⟨w.heap.size + 1, 0, none⟩), .int .i64 0]) ∧ NmAt w w' (fun i => (g i).1) 0 16 := nm_new (fun i => (g i).1) 16 w (by decide) (by decide)
    clear h hc
    go_enter Tryz.func58, Tryz.ntmps58
    go_wp2_with fail
    refine F.mono ?_
    rintro e w1 ⟨rfl, rfl⟩
    go_wp2_with fail
    refine F2.mono ?_
    rintro e w2 ⟨rfl, hN⟩
    clear F F2
    go_wp2_with fail
    go_loopw [25] (fun c wr => ∃ k : Nat, c = .int .i64 (k : Int) ∧ k ≤ n ∧ Hid (∀ i, i < k → freshB (fun i => (g i).1) i = true) ∧ Hid (NmAt w1 wr (fun i => (g i).1) k 16)) (fun c _ => n - (RowKit.intOf c).toNat)
    case atStart => exact ⟨0, rfl, Nat.zero_le _, fun i hi => absurd hi (by omega), hN⟩
    case round =>
      obtain ⟨k, rfl, hk, hf, hR⟩ := hrel
      by_cases hlt : k < n
      · have t : (k : Int) < (n : Int) := by omega
        obtain ⟨b, off, rfl, c0, c1, c2, c3, c4, c5, c6⟩ := h3 k hlt
        have hB := hR.out.below
        have d0 := (hB.cell (World.block_lt_of_cell? _ _ c0)).trans c0
        have d1 := (hB.cell (World.block_lt_of_cell? _ _ c1)).trans c1
        have d2 := (hB.cell (World.block_lt_of_cell? _ _ c2)).trans c2
        have d3 := (hB.cell (World.block_lt_of_cell? _ _ c3)).trans c3
        have d4 := (hB.cell (World.block_lt_of_cell? _ _ c4)).trans c4
        have d5 := (hB.cell (World.block_lt_of_cell? _ _ c5)).trans c5
        have d6 := (hB.cell (World.block_lt_of_cell? _ _ c6)).trans c6
        have hkm : k < 16 := by omega
        have G1 : ∀ W, Calls Tryz.prog 28 #[.agg #[.string (g k).1, .int .i64 ((g k).2.1 1), .int .i64 ((g k).2.1 2), .int .i64 ((g k).2.1 3), .int .i64 ((g k).2.1 4), .int .i64 ((g k).2.1 5), .int .i64 ((g k).2.1 6)]] W fun e w' => e = .returned (.string (g k).1) ∧ w' = W.alloc (.cells #[.string (g k).1, .int .i64 ((g k).2.1 1), .int .i64 ((g k).2.1 2), .int .i64 ((g k).2.1 3), .int .i64 ((g k).2.1 4), .int .i64 ((g k).2.1 5), .int .i64 ((g k).2.1 6)] 40) := fun W => symbolName_any (g k) W
        have hge := hB.size
        rcases fresh_cases (fun i => (g i).1) k with ⟨e1, e2⟩ | ⟨e1, e2, e3⟩ | ⟨e1, e2, e3⟩
        · have hz : Hid (Z = false) := hZ.out.symm.trans (names_bad hlt e1)
          have G2 : ∀ W, Below wr.heap.size wr W → Calls Tryz.prog 75 #[.pointer (some ⟨w1.heap.size + 1, 0, none⟩), .string (g k).1] W fun e w' => e = .returned (.tuple #[.int .i64 0, .int .i64 43]) ∧ Below w1.heap.size w1 w' := fun W hW => nm_name (N := fun i => (g i).1) (k := k) (hR.out.still hW) e2
          clear h3 c0 c1 c2 c3 c4 c5 c6 hf hB e1 e2
          generalize g k = x at *
          go_wp2_with fail
          refine (G1 _).mono ?_
          rintro e w3 ⟨rfl, rfl⟩
          go_wp2_with fail
          refine (G2 _ (((Below.refl _ _).alloc (Nat.le_refl _) _).alloc (by simp) _)).mono ?_
          rintro e w4 ⟨rfl, hB4⟩
          go_wp2_with fail
          go_ret
          exact ⟨by rw [hz.out]; rfl, hB4⟩
        · have hz : Hid (Z = false) := hZ.out.symm.trans (names_bad hlt e1)
          have G2 : ∀ W, Below wr.heap.size wr W → Calls Tryz.prog 75 #[.pointer (some ⟨w1.heap.size + 1, 0, none⟩), .string (g k).1] W fun e w' => e = .returned (.tuple #[.int .i64 0, .int .i64 41]) ∧ Below w1.heap.size w1 w' := fun W hW => nm_twice (N := fun i => (g i).1) (k := k) (hR.out.still hW) hkm e2 e3
          clear h3 c0 c1 c2 c3 c4 c5 c6 hf hB e1 e2 e3
          generalize g k = x at *
          go_wp2_with fail
          refine (G1 _).mono ?_
          rintro e w3 ⟨rfl, rfl⟩
          go_wp2_with fail
          refine (G2 _ (((Below.refl _ _).alloc (Nat.le_refl _) _).alloc (by simp) _)).mono ?_
          rintro e w4 ⟨rfl, hB4⟩
          go_wp2_with fail
          go_ret
          exact ⟨by rw [hz.out]; rfl, hB4⟩
        · have HF : Hid (∀ i, i < k + 1 → freshB (fun i => (g i).1) i = true) := fun i hi => if e : i = k then by subst e; exact e1 else hf.out i (by omega)
          have G2 : ∀ W, Below wr.heap.size wr W → Calls Tryz.prog 75 #[.pointer (some ⟨w1.heap.size + 1, 0, none⟩), .string (g k).1] W fun e w' => e = .returned (.tuple #[.int .i64 (k : Int), .int .i64 0]) ∧ NmAt w1 w' (fun i => (g i).1) (k + 1) 16 := fun W hW => nm_ok (hR.out.still hW) hkm e2 hf.out e3
          clear h3 c0 c1 c2 c3 c4 c5 c6 hf hB e1 e2 e3 hN
          generalize g k = x at *
          go_wp2_with fail
          refine (G1 _).mono ?_
          rintro e w3 ⟨rfl, rfl⟩
          go_wp2_with fail
          refine (G2 _ (((Below.refl _ _).alloc (Nat.le_refl _) _).alloc (by simp) _)).mono ?_
          rintro e w4 ⟨rfl, hB4⟩
          have H4 : Hid (NmAt w1 w4 (fun i => (g i).1) (k + 1) 16) := hB4
          clear hB4
          go_wp2_with fail
          go_roundw
          case rel => exact ⟨k + 1, by simp, by omega, HF, H4⟩
          case measure => simp [RowKit.intOf]; omega
      · have hkn : k = n := by omega
        subst hkn
        have hz : Hid (Z = true) := hZ.out.symm.trans (names_good HC.out hf.out)
        have hB := hR.out.below
        have t : ¬ (k : Int) < (k : Int) := by omega
        clear h3 hR hf
        go_wp2_with fail
        go_ret
        exact ⟨by rw [hz.out]; rfl, hB⟩
end Go.Proofs.YtfphjhmhiaepiaaGreat.RU
/-
  Contract of rules' named at venues.
-/
namespace Go.Proofs.YtfphjhmhiaepiaaGreat.RU
open Go.ChangeShapes Go.WideShapes Go.ChangeAt Go.RowKit Go.Lib

set_option maxHeartbeats 4000000 in
theorem namedV_any {w : World} {v : Value} {n : Nat} {g : Nat → It} (h : RowV w v n g) :
    Calls Tryz.prog 59 #[v, .int .i64 8, .func (.func 30) #[] #[]] w fun e w' => e = .returned (.bool (namesB (fun i => (g i).1) n 8)) ∧ Below w.heap.size w w' := by
  obtain ⟨a, cap, rfl, h1, h2, h3⟩ := id h
  unfold maxLen at h2
  have F := within_any (n : Int) 1 8 w
  obtain ⟨Z, hZ⟩ : ∃ Z, Hid (namesB (fun i => (g i).1) n 8 = Z) := ⟨_, rfl⟩
  rw [show namesB (fun i => (g i).1) n 8 = Z from hZ.out]
  cases hc : withB n 1 8
  · have hz : Hid (Z = false) := hZ.out.symm.trans (names_count hc)
    rw [hc] at F
    clear h h3
    go_enter Tryz.func59, Tryz.ntmps59
    go_wp2_with fail
    refine F.mono ?_
    rintro e w1 ⟨rfl, rfl⟩
    go_wp2_with fail
    go_ret
    exact ⟨by rw [hz.out]; rfl, Below.refl _ _⟩
  · rw [hc] at F
    have hn := withB_get hc
    have HC : Hid (withB n 1 8 = true) := hc
    have F2 : Calls Tryz.prog 74 #[.int .i64 8] w fun e w' => e = .returned (.tuple #[.pointer (some ⟨w.heap.size + 1, 0, none⟩), .int .i64 0]) ∧ NmAt w w' (fun i => (g i).1) 0 8 := nm_new (fun i => (g i).1) 8 w (by decide) (by decide)
    clear h hc
    go_enter Tryz.func59, Tryz.ntmps59
    go_wp2_with fail
    refine F.mono ?_
    rintro e w1 ⟨rfl, rfl⟩
    go_wp2_with fail
    refine F2.mono ?_
    rintro e w2 ⟨rfl, hN⟩
    clear F F2
    go_wp2_with fail
    go_loopw [25] (fun c wr => ∃ k : Nat, c = .int .i64 (k : Int) ∧ k ≤ n ∧ Hid (∀ i, i < k → freshB (fun i => (g i).1) i = true) ∧ Hid (NmAt w1 wr (fun i => (g i).1) k 8)) (fun c _ => n - (RowKit.intOf c).toNat)
    case atStart => exact ⟨0, rfl, Nat.zero_le _, fun i hi => absurd hi (by omega), hN⟩
    case round =>
      obtain ⟨k, rfl, hk, hf, hR⟩ := hrel
      by_cases hlt : k < n
      · have t : (k : Int) < (n : Int) := by omega
        obtain ⟨b, off, rfl, c0, c1, c2, c3, c4⟩ := h3 k hlt
        have hB := hR.out.below
        have d0 := (hB.cell (World.block_lt_of_cell? _ _ c0)).trans c0
        have d1 := (hB.cell (World.block_lt_of_cell? _ _ c1)).trans c1
        have d2 := (hB.cell (World.block_lt_of_cell? _ _ c2)).trans c2
        have d3 := (hB.cell (World.block_lt_of_cell? _ _ c3)).trans c3
        have d4 := (hB.cell (World.block_lt_of_cell? _ _ c4)).trans c4
        have hkm : k < 8 := by omega
        have G1 : ∀ W, Calls Tryz.prog 30 #[.agg #[.string (g k).1, .int .i64 ((g k).2.1 1), .int .i64 ((g k).2.1 2), .int .i64 ((g k).2.1 3), .bool (g k).2.2]] W fun e w' => e = .returned (.string (g k).1) ∧ w' = W.alloc (.cells #[.string (g k).1, .int .i64 ((g k).2.1 1), .int .i64 ((g k).2.1 2), .int .i64 ((g k).2.1 3), .bool (g k).2.2] 57) := fun W => venueName_any (g k) W
        have hge := hB.size
        rcases fresh_cases (fun i => (g i).1) k with ⟨e1, e2⟩ | ⟨e1, e2, e3⟩ | ⟨e1, e2, e3⟩
        · have hz : Hid (Z = false) := hZ.out.symm.trans (names_bad hlt e1)
          have G2 : ∀ W, Below wr.heap.size wr W → Calls Tryz.prog 75 #[.pointer (some ⟨w1.heap.size + 1, 0, none⟩), .string (g k).1] W fun e w' => e = .returned (.tuple #[.int .i64 0, .int .i64 43]) ∧ Below w1.heap.size w1 w' := fun W hW => nm_name (N := fun i => (g i).1) (k := k) (hR.out.still hW) e2
          clear h3 c0 c1 c2 c3 c4 hf hB e1 e2
          generalize g k = x at *
          go_wp2_with fail
          refine (G1 _).mono ?_
          rintro e w3 ⟨rfl, rfl⟩
          go_wp2_with fail
          refine (G2 _ (((Below.refl _ _).alloc (Nat.le_refl _) _).alloc (by simp) _)).mono ?_
          rintro e w4 ⟨rfl, hB4⟩
          go_wp2_with fail
          go_ret
          exact ⟨by rw [hz.out]; rfl, hB4⟩
        · have hz : Hid (Z = false) := hZ.out.symm.trans (names_bad hlt e1)
          have G2 : ∀ W, Below wr.heap.size wr W → Calls Tryz.prog 75 #[.pointer (some ⟨w1.heap.size + 1, 0, none⟩), .string (g k).1] W fun e w' => e = .returned (.tuple #[.int .i64 0, .int .i64 41]) ∧ Below w1.heap.size w1 w' := fun W hW => nm_twice (N := fun i => (g i).1) (k := k) (hR.out.still hW) hkm e2 e3
          clear h3 c0 c1 c2 c3 c4 hf hB e1 e2 e3
          generalize g k = x at *
          go_wp2_with fail
          refine (G1 _).mono ?_
          rintro e w3 ⟨rfl, rfl⟩
          go_wp2_with fail
          refine (G2 _ (((Below.refl _ _).alloc (Nat.le_refl _) _).alloc (by simp) _)).mono ?_
          rintro e w4 ⟨rfl, hB4⟩
          go_wp2_with fail
          go_ret
          exact ⟨by rw [hz.out]; rfl, hB4⟩
        · have HF : Hid (∀ i, i < k + 1 → freshB (fun i => (g i).1) i = true) := fun i hi => if e : i = k then by subst e; exact e1 else hf.out i (by omega)
          have G2 : ∀ W, Below wr.heap.size wr W → Calls Tryz.prog 75 #[.pointer (some ⟨w1.heap.size + 1, 0, none⟩), .string (g k).1] W fun e w' => e = .returned (.tuple #[.int .i64 (k : Int), .int .i64 0]) ∧ NmAt w1 w' (fun i => (g i).1) (k + 1) 8 := fun W hW => nm_ok (hR.out.still hW) hkm e2 hf.out e3
          clear h3 c0 c1 c2 c3 c4 hf hB e1 e2 e3 hN
          generalize g k = x at *
          go_wp2_with fail
          refine (G1 _).mono ?_
          rintro e w3 ⟨rfl, rfl⟩
          go_wp2_with fail
          refine (G2 _ (((Below.refl _ _).alloc (Nat.le_refl _) _).alloc (by simp) _)).mono ?_
          rintro e w4 ⟨rfl, hB4⟩
          have H4 : Hid (NmAt w1 w4 (fun i => (g i).1) (k + 1) 8) := hB4
          clear hB4
          go_wp2_with fail
          go_roundw
          case rel => exact ⟨k + 1, by simp, by omega, HF, H4⟩
          case measure => simp [RowKit.intOf]; omega
      · have hkn : k = n := by omega
        subst hkn
        have hz : Hid (Z = true) := hZ.out.symm.trans (names_good HC.out hf.out)
        have hB := hR.out.below
        have t : ¬ (k : Int) < (k : Int) := by omega
        clear h3 hR hf
        go_wp2_with fail
        go_ret
        exact ⟨by rw [hz.out]; rfl, hB⟩
end Go.Proofs.YtfphjhmhiaepiaaGreat.RU
