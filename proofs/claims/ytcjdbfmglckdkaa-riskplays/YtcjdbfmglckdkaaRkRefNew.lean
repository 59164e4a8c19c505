/-
  Contracts of the reference's Right and New.
-/
import Derived.Test.YtcjdbfmglckdkaaRkRef
import Derived.Deep.OwnRows
namespace Go.Proofs.Ytcjdbfmglckdkaa.RK
open Go.ChangeShapes Go.WideShapes Go.ChangeAt Go.RowKit Go.Lib

def szB (n : Nat) (s : Int) : Bool := (decide (1 ≤ (n : Int)) && decide ((n : Int) ≤ 16)) && (decide (1 ≤ s) && decide (s ≤ 64))
set_option maxRecDepth 100000 in
set_option maxHeartbeats 4000000 in
theorem rRight_any {w : World} {v : Value} {n : Nat} {L : Nat → Int} (h : Row w v n fun i => .int .i64 (L i)) (hn : n ≤ 1000) (s : Int) (Z : Bool) (hb : (∃ i, i < n ∧ inL (L i) = false) → Z = false) (hg : (∀ i, i < n → inL (L i) = true) → Z = szB n s) :
    Calls Try.prog 9 #[v, .int .i64 s] w fun e w' => e = .returned (.bool Z) ∧ w' = w := by
  obtain ⟨a, cap, rfl, q1, q2, h3⟩ := h
  unfold maxLen at q2
  have HB : Hid ((∃ i, i < n ∧ inL (L i) = false) → Z = false) := hb
  have HG : Hid ((∀ i, i < n → inL (L i) = true) → Z = szB n s) := hg
  clear hb hg
  go_enter Try.func9, Try.ntmps9
  go_wp2_with fail
  go_loopw [5] (fun c wr => ∃ k : Nat, c = .int .i64 (k : Int) ∧ k ≤ n ∧ Hid (∀ i, i < k → inL (L i) = true) ∧ wr = w) (fun c _ => n - (RowKit.intOf c).toNat)
  case atStart => exact ⟨0, rfl, Nat.zero_le _, fun i hi => absurd hi (by omega), rfl⟩
  case round =>
    obtain ⟨k, rfl, hk, hI, rfl⟩ := hrel
    by_cases hlt : k < n
    · obtain ⟨b, off, rfl, c0⟩ := h3 k hlt
      have c0 : wr.cell? ⟨b, off + k, none⟩ = some (.int .i64 (L k)) := c0
      have F := rInL (L k) wr
      have t5 : (k : Int) < (n : Int) := by omega
      cases hl : inL (L k)
      · rw [hl] at F
        have hz : Hid (Z = false) := HB.out ⟨k, hlt, hl⟩
        clear h3 hl
        generalize L k = y at *
        go_wp2_with fail
        refine F.mono ?_
        rintro e w1 ⟨rfl, rfl⟩
        go_wp2_with fail
        go_ret
        exact ⟨by rw [hz.out]; rfl, rfl⟩
      · rw [hl] at F
        have HI : Hid (∀ i, i < k + 1 → inL (L i) = true) := fun i hi => if e : i = k then by subst e; exact hl else hI.out i (by omega)
        clear h3 hl hI
        generalize L k = y at *
        go_wp2_with fail
        refine F.mono ?_
        rintro e w1 ⟨rfl, rfl⟩
        go_wp2_with fail
        go_roundw
        case rel => exact ⟨k + 1, by simp, by omega, HI.out, trivial⟩
        case measure => simp [RowKit.intOf]; omega
    · obtain rfl : k = n := by omega
      have t5 : ¬ (k : Int) < (k : Int) := by omega
      have F1 := refIn_any (k : Int) 1 16 wr
      have F2 := refIn_any s 1 64 wr
      have hz : Hid (Z = szB k s) := HG.out hI.out
      clear h3
      cases e1 : (decide (1 ≤ (k : Int)) && decide ((k : Int) ≤ 16))
      · rw [e1] at F1
        have hz : Hid (Z = false) := by have := hz.out; unfold szB at this; rw [e1, Bool.false_and] at this; exact this
        go_wp2_with fail
        refine F1.mono ?_
        rintro e w1 ⟨rfl, rfl⟩
        go_wp2_with fail
        go_ret
        exact ⟨by rw [hz.out]; rfl, rfl⟩
      · rw [e1] at F1
        have hz2 : Hid (Z = (decide (1 ≤ s) && decide (s ≤ 64))) := by have := hz.out; unfold szB at this; rw [e1, Bool.true_and] at this; exact this
        clear hz
        generalize (decide (1 ≤ s) && decide (s ≤ 64)) = y at *
        go_wp2_with fail
        refine F1.mono ?_
        rintro e w1 ⟨rfl, rfl⟩
        go_wp2_with fail
        refine F2.mono ?_
        rintro e w2 ⟨rfl, rfl⟩
        go_wp2_with fail
        go_ret
        exact ⟨by rw [hz2.out]; rfl, rfl⟩
theorem info_holdR : (Try.prog.info? 56).map (fun i => (i.zero, i.size, i.bytes)) = some (some (.agg #[.int .i64 0, .int .i64 0]), 2, 16) := by kernel_rfl
theorem info_int : (Try.prog.info? 3).map (fun i => (i.zero, i.size, i.bytes)) = some (some (.int .i64 0), 1, 8) := by kernel_rfl
/-- The cells of k slots that hold nothing. -/
def minus : Nat → List Value
  | 0 => []
  | k + 1 => minus k ++ [.int .i64 (-1), .int .i64 0]
theorem minus_length : ∀ k, (minus k).length = k * 2
  | 0 => rfl
  | k + 1 => by simp only [minus, List.length_append, minus_length k, List.length_cons, List.length_nil]; omega
theorem minus_at (j : Nat) (hj : j < 2) : ∀ k i, i < k → (minus k)[i * 2 + j]? = [Value.int .i64 (-1), Value.int .i64 0][j]?
  | 0, _, h => absurd h (by omega)
  | k + 1, i, h => by
    have hl := minus_length k
    by_cases e : i = k
    · subst e
      rw [minus, List.getElem?_append_right (by omega), hl, Nat.add_sub_cancel_left]
    · rw [minus, List.getElem?_append_left (by omega)]
      exact minus_at j hj k i (by omega)
theorem own_thaw {w : World} {base : Nat} {e : TypeId} {size : Nat} {n : Nat} {xs : List Value} {g cap : Nat} (h : w.ownsRow base e size (.slice (some ⟨g, 0, none⟩) n cap) n xs) (j : Nat) : w.frozen? ⟨g, j, none⟩ = false := by
  rcases h.2 with ⟨e, _⟩ | ⟨g', cap', cur, e, _, hg, _⟩
  · cases e
  · injection e with e1 e2 e3
    injection e1 with e1
    injection e1 with e1
    subst e1
    simp [World.frozen?, hg]
/-- The reference's New while its slots are laid: k of them. -/
structure RNew (w wr : World) (n : Nat) (v vh : Value) (k : Nat) : Prop where
  bel : Below w.heap.size w wr
  cL : wr.cell? ⟨w.heap.size + 1, 0, none⟩ = some v
  cD : wr.cell? ⟨w.heap.size + 1, 1, none⟩ = some (.slice (some ⟨w.heap.size, 0, none⟩) n n)
  cH : wr.cell? ⟨w.heap.size + 1, 2, none⟩ = some vh
  thq : ∀ j, wr.frozen? ⟨w.heap.size + 1, j, none⟩ = false
  don : ∀ i, i < n → wr.cell? ⟨w.heap.size, i, none⟩ = some (.int .i64 0)
  thd : ∀ j, wr.frozen? ⟨w.heap.size, j, none⟩ = false
  row : wr.ownsRow (w.heap.size + 2) 56 2 vh k (minus k)
  sz : w.heap.size + 2 ≤ wr.heap.size
theorem RNew.next {w wr w5 : World} {n k : Nat} {v vh v5 : Value} (h : RNew w wr n v vh k) (hg : wr.grownBy w5 vh.ownBlock) (ho : w5.ownsRow (w.heap.size + 2) 56 2 v5 (k + 1) (minus (k + 1))) :
    RNew w (w5.setCell ⟨w.heap.size + 1, 2, none⟩ v5) n v v5 (k + 1) := by
  have B := But.of_grown hg
  have hz := h.sz
  have hS : ∀ i, i < w.heap.size + 2 → ¬ (vh.ownBlock = some i) := fun i hi e => by have := (h.row.lt i e).1; omega
  have q1 := fun o => B.cell (k := w.heap.size + 1) (o := o) (by omega) (hS _ (by omega))
  have q2 := fun o => B.cell (k := w.heap.size) (o := o) (by omega) (hS _ (by omega))
  have f1 := fun o => B.frozen (k := w.heap.size + 1) (o := o) (by omega) (hS _ (by omega))
  have f2 := fun o => B.frozen (k := w.heap.size) (o := o) (by omega) (hS _ (by omega))
  have kk : But (fun i => i = w.heap.size + 1) w5 (w5.setCell ⟨w.heap.size + 1, 2, none⟩ v5) := But.setCell (But.refl _ _) _ _ _ (fun _ => rfl)
  refine ⟨(h.bel.trans (B.below h.bel.size (fun i e => by have := (h.row.lt i e).1; omega))).setCell (by show w.heap.size ≤ w.heap.size + 1; omega) _, ?_, ?_, ?_, fun j => by rw [World.frozen?_setCell, f1]; exact h.thq j, fun i hi => ?_, fun j => by rw [World.frozen?_setCell, f2]; exact h.thd j, own_kept ho kk (fun g hg e => by have := (ho.lt g hg).1; omega), ?_⟩
  · rw [World.cell?_setCell_other _ _ _ _ (by simp), q1]; exact h.cL
  · rw [World.cell?_setCell_other _ _ _ _ (by simp), q1]; exact h.cD
  · exact World.cell?_setCell_same' _ _ _ (by rw [q1, h.cH]; rfl)
  · rw [World.cell?_setCell_other _ _ _ _ (by intro e; injection e with e1; omega), q2]; exact h.don i hi
  · have := B.size
    simp
    omega
theorem RNew.still {w wr wr' : World} {n k : Nat} {v vh : Value} (h : RNew w wr n v vh k) (b : Below wr.heap.size wr wr') : RNew w wr' n v vh k := by
  have B := But.of_below (S := fun _ => False) b
  have hz := h.sz
  have q1 := fun o => B.cell (k := w.heap.size + 1) (o := o) (by omega) id
  have q2 := fun o => B.cell (k := w.heap.size) (o := o) (by omega) id
  have f1 := fun o => B.frozen (k := w.heap.size + 1) (o := o) (by omega) id
  have f2 := fun o => B.frozen (k := w.heap.size) (o := o) (by omega) id
  have := B.size
  exact ⟨h.bel.trans (b.mono h.bel.size), by rw [q1]; exact h.cL, by rw [q1]; exact h.cD, by rw [q1]; exact h.cH, fun j => by rw [f1]; exact h.thq j, fun i hi => by rw [q2]; exact h.don i hi, fun j => by rw [f2]; exact h.thd j, own_below h.row b, by omega⟩
/-- When all are laid it is the reference's book. -/
theorem RNew.whole {w wr : World} {n m : Nat} {v vh : Value} {L : Nat → Int} (h : RNew w wr n v vh m) (F : Fit n L m) (B : Nat) (hB : B ≤ w.heap.size)
    (hv : ∃ lb lo lc, v = .slice (some ⟨lb, lo, none⟩) n lc ∧ n ≤ lc ∧ lc ≤ maxLen ∧ lb < B ∧ ∀ a, a < n → w.cell? ⟨lb, lo + a, none⟩ = some (.int .i64 (L a))) : ∃ r, w.heap.size ≤ r ∧ RefAt wr B (w.heap.size + 1) w.heap.size r v (newB n L m) := by
  have ho := h.row
  rcases h.row.2 with ⟨_, e⟩ | ⟨g, cap, cur, rfl, hb, _, h1, h2, _⟩
  · have := F.s1; omega
  · have hcs := fun j x (e : (minus m)[j]? = some x) => h.row.cells (g := g) rfl j x e
    obtain ⟨lb, lo, lc, e1, e2, e3, e4, e5⟩ := hv
    refine ⟨g, by omega, ⟨⟨h.cL, h.cD, ⟨cap, h.cH, h1, h2⟩, ⟨lb, lo, lc, e1, e2, e3, e4, fun a ha => ?_⟩, h.don, fun i hi => ?_, fun i hi => ?_, h.thd, own_thaw ho, by omega, by omega, by omega, by omega, by omega, by omega⟩, new_good F⟩⟩
    · rw [h.bel.cell (p := ⟨lb, lo + a, none⟩) (by show lb < w.heap.size; omega)]; exact e5 a ha
    · have := hcs (i * 2 + 0) (.int .i64 (-1)) (by rw [minus_at 0 (by omega) m i hi]; rfl)
      rw [Addr.add_lit, Nat.zero_add] at this
      exact this
    · have := hcs (i * 2 + 1) (.int .i64 0) (by rw [minus_at 1 (by omega) m i hi]; rfl)
      rw [Addr.add_lit, Nat.zero_add] at this
      exact this
theorem two_new (w : World) (j : Nat) (u : Value) (h : [Value.int .i64 (-1), Value.int .i64 0][j]? = some u) : (w.alloc (.cells #[.int .i64 (-1), .int .i64 0] 56)).cell? ((⟨w.heap.size, 0, none⟩ : Addr).add j) = some u := by
  rw [Addr.add_lit]
  match j, h with
  | 0, h => simp at h; subst h; simp
  | 1, h => simp at h; subst h; simp
  | j + 2, h => simp at h
set_option maxRecDepth 100000 in
set_option maxHeartbeats 4000000 in
theorem rNew_any {w : World} {v : Value} {n m : Nat} {L : Nat → Int} (F : Fit n L m) (B : Nat) (hB : B ≤ w.heap.size)
    (hv : ∃ lb lo lc, v = .slice (some ⟨lb, lo, none⟩) n lc ∧ n ≤ lc ∧ lc ≤ maxLen ∧ lb < B ∧ ∀ a, a < n → w.cell? ⟨lb, lo + a, none⟩ = some (.int .i64 (L a))) :
    Calls Try.prog 10 #[v, .int .i64 (m : Int)] w fun e w' => e = .returned (.pointer (some ⟨w.heap.size + 1, 0, none⟩)) ∧ (∃ r, w.heap.size ≤ r ∧ RefAt w' B (w.heap.size + 1) w.heap.size r v (newB n L m)) ∧ Below w.heap.size w w' := by
  have a2 := F.a2
  have s2 := F.s2
  have hmk := run_make_row' (P := Try.prog) 22 3 (.int .i64 0) 8 Try.underlying22 info_int rfl .i64 .i64 n (by omega) (by omega)
  have hmc : ∀ i, i < n → (madeCells #[.int .i64 0] n)[i]? = some (.int .i64 0) := fun i hi => by simp [madeCells, hi, Nat.mod_one]
  obtain ⟨A, HA⟩ : ∃ A, madeCells #[.int .i64 0] n = A := ⟨_, rfl⟩
  rw [HA] at hmk hmc
  have HW : Hid (∀ wr vh, RNew w wr n v vh m → ∃ r, w.heap.size ≤ r ∧ RefAt wr B (w.heap.size + 1) w.heap.size r v (newB n L m)) := fun wr vh h => h.whole F B hB hv
  have ST : Hid (RNew w ((w.alloc (.cells A 3)).alloc (.cells #[v, .slice (some ⟨w.heap.size, 0, none⟩) n n, .slice none 0 0] 54)) n v (.slice none 0 0) 0) := by
    have b1 := (Below.refl w.heap.size w).alloc (Nat.le_refl _) (.cells A 3)
    have z1 : (w.alloc (.cells A 3)).heap.size = w.heap.size + 1 := by simp
    have cm : ∀ j x, A[j]? = some x → (w.alloc (.cells A 3)).cell? ⟨w.heap.size, j, none⟩ = some x := fun j x h => by simp [h]
    have fm : ∀ j, (w.alloc (.cells A 3)).frozen? ⟨w.heap.size, j, none⟩ = false := fun j => by simp
    generalize w.alloc (.cells A 3) = w1 at *
    have b2 := (Below.refl w1.heap.size w1).alloc (Nat.le_refl _) (.cells #[v, .slice (some ⟨w.heap.size, 0, none⟩) n n, .slice none 0 0] 54)
    have z2 : (w1.alloc (.cells #[v, .slice (some ⟨w.heap.size, 0, none⟩) n n, .slice none 0 0] 54)).heap.size = w.heap.size + 2 := by simp [z1]
    have cp : ∀ j x, #[v, .slice (some ⟨w.heap.size, 0, none⟩) n n, .slice none 0 0][j]? = some x → (w1.alloc (.cells #[v, .slice (some ⟨w.heap.size, 0, none⟩) n n, .slice none 0 0] 54)).cell? ⟨w1.heap.size, j, none⟩ = some x := fun j x h => by simp [h]
    have fp : ∀ j, (w1.alloc (.cells #[v, .slice (some ⟨w.heap.size, 0, none⟩) n n, .slice none 0 0] 54)).frozen? ⟨w1.heap.size, j, none⟩ = false := fun j => by simp
    generalize w1.alloc (.cells #[v, .slice (some ⟨w.heap.size, 0, none⟩) n n, .slice none 0 0] 54) = w2 at *
    have B2 := But.of_below (S := fun _ => False) b2
    rw [z1] at cp fp
    exact ⟨b1.trans (b2.mono (by omega)), cp 0 _ rfl, cp 1 _ rfl, cp 2 _ rfl, fp, fun i hi => by rw [B2.cell (by omega) id]; exact cm i _ (hmc i hi), fun j => by rw [B2.frozen (by omega) id]; exact fm j, World.ownsRow_nil _ _ _ _, by omega⟩
  obtain ⟨lb, lo, lc, rfl, l2, l3, _, _⟩ := hv
  unfold maxLen at l3
  obtain ⟨i0, hi0, hz0, hzs, hzb⟩ := info_parts info_holdR
  clear F HA hmc hB
  go_enter Try.func10, Try.ntmps10
  go_wp2_with fail
  go_loopw [6] (fun c wr => ∃ k : Nat, c = .int .i64 (k : Int) ∧ k ≤ m ∧ ∃ vh, Hid (RNew w wr n (.slice (some ⟨lb, lo, none⟩) n lc) vh k)) (fun c _ => m - (RowKit.intOf c).toNat)
  case atStart => exact ⟨0, rfl, Nat.zero_le _, _, ST.out⟩
  case round =>
    clear ST hmk
    obtain ⟨k, rfl, hk, vh, hR⟩ := hrel
    by_cases hlt : k < m
    · have t5 : (k : Int) < (m : Int) := by omega
      obtain ⟨ah, ch, rfl⟩ := own_shape hR.out.row
      have R1 : Hid (RNew w (wr.alloc (.cells #[.int .i64 (-1), .int .i64 0] 56)) n (.slice (some ⟨lb, lo, none⟩) n lc) (.slice ah k ch) k) := hR.out.still ((Below.refl _ _).alloc (Nat.le_refl _) _)
      have c2 := hR.out.cH
      have hown := R1.out.row
      have hz := hR.out.sz
      go_wp2_with (at_builtin; refine wpList_append_own_at _ rfl _ _ 52 rfl (w.heap.size + 2) 56 i0 (.agg #[.int .i64 0, .int .i64 0]) 2 16 Try.underlying52 hi0 hz0 hzs hzb rfl (by decide) _ _ _ rfl hown ⟨wr.heap.size, 0, none⟩ 1 1 [.int .i64 (-1), .int .i64 0] rfl rfl ?hnews ?hone ?h63 ?hbytes ?hbase ?_)
      case hnews => exact two_new wr
      case hone => intro u hu; simp at hu; rcases hu with rfl | rfl <;> rfl
      case h63 => unfold maxLen; omega
      case hbytes => omega
      case hbase => first | omega | (simp; omega)
      intro v5 w5 hown5 hg5 _ _
      obtain ⟨a5, cap5, rfl⟩ := own_shape hown5
      have R5 : Hid _ := R1.out.next hg5 hown5
      have z5 : w5.frozen? ⟨w.heap.size + 1, 2, none⟩ = false := by
        have := R5.out.thq 2
        rw [World.frozen?_setCell] at this
        exact this
      have c5 : w5.cell? ⟨w.heap.size + 1, 2, none⟩ = some (.slice ah k ch) := by
        have hz1 := R1.out.sz
        rw [(But.of_grown hg5).cell (by omega) (fun e => by have := (R1.out.row.lt _ e).1; omega)]
        exact R1.out.cH
      clear hown hown5 hg5 R1 hR c2
      go_wp2_with fail
      go_roundw
      case rel => exact ⟨k + 1, by simp, by omega, _, R5.out⟩
      case measure => simp [RowKit.intOf]; omega
    · obtain rfl : k = m := by omega
      have t5 : ¬ (k : Int) < (k : Int) := by omega
      go_wp2_with fail
      go_ret
      exact ⟨rfl, HW.out _ _ hR.out, hR.out.bel⟩
end Go.Proofs.Ytcjdbfmglckdkaa.RK
