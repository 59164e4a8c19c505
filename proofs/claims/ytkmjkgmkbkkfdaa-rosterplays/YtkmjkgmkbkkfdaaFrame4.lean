/-
  How a list of steps (two numbers and a text each) that comes in reads; the contract of few.
-/
import Derived.Test.YtkmjkgmkbkkfdaaRosterAwake
import Derived.ChangeOld
import Derived.ShutString
import Derived.ChangeMaps5
import Derived.Deep.Strs
import Derived.Lib.SmallJoins
namespace Go.Proofs.Ytkmjkgmkbkkfdaa
open Go.ChangeShapes Go.WideShapes Go.ChangeAt Go.RowKit Go.Lib

/-- The slice value v reads as n steps. -/
def Ops (w : World) (v : Value) (n : Nat) (K T : Nat → Int) (N : Nat → ByteArray) : Prop :=
  ∃ a cap, v = .slice a n cap ∧ n ≤ cap ∧ cap ≤ maxLen ∧ ∀ i, i < n → (∃ b off, a = some ⟨b, off, none⟩ ∧ w.cell? ⟨b, off + i * 3, none⟩ = some (.int .i64 (K i)) ∧ w.cell? ⟨b, off + i * 3 + 1, none⟩ = some (.int .i64 (T i)) ∧ w.cell? ⟨b, off + i * 3 + 1 + 1, none⟩ = some (.string (N i))) ∧
    (-9223372036854775808 ≤ K i ∧ K i ≤ 9223372036854775807) ∧ (-9223372036854775808 ≤ T i ∧ T i ≤ 9223372036854775807) ∧ (N i).size ≤ maxLen
theorem Ops.below {w w' : World} {v : Value} {n : Nat} {K T : Nat → Int} {N : Nat → ByteArray} {B : Nat} (h : Ops w v n K T N) (hB : w.heap.size ≤ B) (hb : Below B w w') : Ops w' v n K T N := by
  obtain ⟨a, cap, rfl, h1, h2, h3⟩ := h
  refine ⟨a, cap, rfl, h1, h2, fun i hi => ?_⟩
  obtain ⟨⟨b, off, e, c0, c1, c2⟩, h4⟩ := h3 i hi
  have lt := World.block_lt_of_cell? _ _ c0
  have lt' : b < w.heap.size := lt
  exact ⟨⟨b, off, e, by rw [hb.cell (p := ⟨b, off + i * 3, none⟩) (Nat.lt_of_lt_of_le lt' hB)]; exact c0, by rw [hb.cell (p := ⟨b, off + i * 3 + 1, none⟩) (Nat.lt_of_lt_of_le lt' hB)]; exact c1, by rw [hb.cell (p := ⟨b, off + i * 3 + 1 + 1, none⟩) (Nat.lt_of_lt_of_le lt' hB)]; exact c2⟩, h4⟩
theorem add3 {b off : Nat} {i j : Nat} : ((⟨b, off, none⟩ : Addr).add i).add j = ⟨b, off + i + j, none⟩ := by
  rw [Addr.add_lit, Addr.add_lit]
theorem three_list {cs : List Value} (h : cs.length = 3) : ∃ x y z, cs = [x, y, z] := by
  match cs, h with
  | [x, y, z], _ => exact ⟨x, y, z, rfl⟩
theorem one_of {x : Value} {y : Value} (h : [x] = [y]) : x = y := by simpa using h
theorem open_ops {H : Type} {enc : TypeId × Value → H} {w : World} {base : Nat} {spare : Nat → Bool} {held : Bool} {fuel : Nat} {a : Option Addr} {n cap : Nat} {x : DataW H × List MemPlace}
    (h : DataW.trod enc Try.prog w base spare held fuel 24 [.slice a n cap] = some x) : ∃ K T N, Ops w (.slice a n cap) n K T N := by
  rcases Deep.open_slice Try.underlying24 h with ⟨e, _⟩ | ⟨ad, len, cap', m, fu, D, Pl, e, hb, hl, hm, hmm, _, hx⟩
  · simp only [List.cons.injEq, Value.slice.injEq, and_true] at e
    obtain ⟨rfl, rfl, rfl⟩ := e
    exact ⟨fun _ => 0, fun _ => 0, fun _ => none4, none, 0, rfl, Nat.le_refl _, by unfold maxLen; omega, fun i hi => absurd hi (by omega)⟩
  · simp only [List.cons.injEq, Value.slice.injEq, and_true] at e
    obtain ⟨rfl, rfl, rfl⟩ := e
    have hlm : n ≤ m := by rw [hmm]; split <;> omega
    have ce : Try.prog.cellsOf 35 = 3 := by kernel_rfl
    have ci : Try.prog.cellsOf 3 = 1 := by kernel_rfl
    have cstr : Try.prog.cellsOf 9 = 1 := by kernel_rfl
    rw [ce] at hx
    have each : ∀ i, i < n → ∃ r : Int × Int × ByteArray, (∃ b off, some ad = some ⟨b, off, none⟩ ∧ w.cell? ⟨b, off + i * 3, none⟩ = some (.int .i64 r.1) ∧ w.cell? ⟨b, off + i * 3 + 1, none⟩ = some (.int .i64 r.2.1) ∧ w.cell? ⟨b, off + i * 3 + 1 + 1, none⟩ = some (.string r.2.2)) ∧
        (-9223372036854775808 ≤ r.1 ∧ r.1 ≤ 9223372036854775807) ∧ (-9223372036854775808 ≤ r.2.1 ∧ r.2.1 ≤ 9223372036854775807) ∧ r.2.2.size ≤ maxLen := by
      intro i hi
      obtain ⟨cs', h1, h2⟩ := hx i (by omega)
      obtain ⟨_, hlen, hcell⟩ := World.cells?_some h1
      obtain ⟨v0, v1, v2, rfl⟩ := three_list hlen
      obtain ⟨y0, y1, y2, f2, _, _, g0, g1, g2⟩ := Deep.trod_struct3 Try.underlying35 h2
      rw [ci] at g0 g1
      rw [cstr] at g2
      obtain ⟨z0, e0, _, w0⟩ := DataW.trod_int Try.underlying3 g0
      obtain ⟨z1, e1, _, w1⟩ := DataW.trod_int Try.underlying3 g1
      obtain ⟨s2, e2, _, w2⟩ := DataW.trod_string Try.underlying9 g2
      have q0 : v0 = .int .i64 z0 := one_of e0
      have q1 : v1 = .int .i64 z1 := one_of e1
      have q2 : v2 = .string s2 := one_of e2
      subst q0 q1 q2
      have k0 := hcell 0 (by omega)
      have k1 := hcell 1 (by omega)
      have k2 := hcell 2 (by omega)
      obtain ⟨cs0, h10, _⟩ := hx 0 (by omega)
      obtain ⟨_, hl0, hc0⟩ := World.cells?_some h10
      obtain ⟨u0, u1, u2, rfl⟩ := three_list hl0
      obtain ⟨b, off, spot⟩ := ad
      have hspot : spot = none := by
        have := World.cell?_spot (hc0 0 (by omega))
        simpa [Addr.add] using this
      subst hspot
      rw [add3] at k0 k1 k2
      exact ⟨(z0, z1, s2), ⟨b, off, rfl, k0, k1, k2⟩, bounds_i64 w0, bounds_i64 w1, w2⟩
    obtain ⟨r, hr⟩ := Deep.choose_lt each
    exact ⟨fun i => (r i).1, fun i => (r i).2.1, fun i => (r i).2.2, some ad, cap, rfl, hl, hm, hr⟩

set_option maxHeartbeats 1000000 in
theorem few_yes {w : World} {v : Value} {n : Nat} {K T : Nat → Int} {N : Nat → ByteArray} (h : Ops w v n K T N) (hn : n ≤ 100) (hs : ∀ i, i < n → (N i).size ≤ 200) :
    Calls Try.prog 11 #[v] w fun e w' => e = .returned (.bool true) ∧ Below w.heap.size w w' := by
  obtain ⟨a, cap, rfl, h1, h2, h3⟩ := id h
  have t0 : (n : Int) ≤ 100 := by omega
  go_enter Try.func11, Try.ntmps11
  go_wp2_with fail
  go_loopw [7] (fun c wr => ∃ k : Nat, c = .int .i64 (k : Int) ∧ k ≤ n ∧ Below w.heap.size w wr) (fun c _ => n - (RowKit.intOf c).toNat)
  case atStart => exact ⟨0, rfl, Nat.zero_le _, Below.refl _ _⟩
  case round =>
    obtain ⟨k, rfl, hk, hB⟩ := hrel
    by_cases hlt : k < n
    · have t : (k : Int) < (n : Int) := by omega
      obtain ⟨⟨b, off, rfl, c0, c1, c2⟩, _⟩ := h3 k hlt
      have d0 := (hB.cell (World.block_lt_of_cell? _ _ c0)).trans c0
      have d1 := (hB.cell (World.block_lt_of_cell? _ _ c1)).trans c1
      have d2 := (hB.cell (World.block_lt_of_cell? _ _ c2)).trans c2
      have hsz := hs k hlt
      have t2 : ¬ (200 : Int) < ((N k).size : Int) := by omega
      have hge := hB.size
      clear h3 c0 c1 c2 hs h
      generalize N k = y at *
      generalize K k = x at *
      generalize T k = z at *
      go_wp2_with fail
      go_roundw
      case rel => exact ⟨k + 1, by simp, by omega, hB.alloc hge _⟩
      case measure => simp [RowKit.intOf]; omega
    · have hkn : k = n := by omega
      subst hkn
      have t : ¬ (k : Int) < (k : Int) := by omega
      clear h3 hs h
      go_wp2_with fail
      go_ret
      exact ⟨by simp, hB⟩
set_option maxHeartbeats 1000000 in
theorem few_no {w : World} {v : Value} {n : Nat} {K T : Nat → Int} {N : Nat → ByteArray} (h : Ops w v n K T N) (hbad : ¬ (n ≤ 100 ∧ ∀ i, i < n → (N i).size ≤ 200)) :
    Calls Try.prog 11 #[v] w fun e w' => e = .returned (.bool false) ∧ Below w.heap.size w w' := by
  obtain ⟨a, cap, rfl, h1, h2, h3⟩ := id h
  unfold maxLen at h2
  go_enter Try.func11, Try.ntmps11
  go_wp2_with fail
  go_loopw [7] (fun c wr => ∃ k : Nat, c = .int .i64 (k : Int) ∧ k ≤ n ∧ Hid (∀ i, i < k → (N i).size ≤ 200) ∧ Below w.heap.size w wr) (fun c _ => n - (RowKit.intOf c).toNat)
  case atStart => exact ⟨0, rfl, Nat.zero_le _, fun i hi => absurd hi (by omega), Below.refl _ _⟩
  case round =>
    obtain ⟨k, rfl, hk, hg, hB⟩ := hrel
    by_cases hlt : k < n
    · have t : (k : Int) < (n : Int) := by omega
      obtain ⟨⟨b, off, rfl, c0, c1, c2⟩, _⟩ := h3 k hlt
      have d0 := (hB.cell (World.block_lt_of_cell? _ _ c0)).trans c0
      have d1 := (hB.cell (World.block_lt_of_cell? _ _ c1)).trans c1
      have d2 := (hB.cell (World.block_lt_of_cell? _ _ c2)).trans c2
      have hge := hB.size
      by_cases hsz : (N k).size ≤ 200
      · have t2 : ¬ (200 : Int) < ((N k).size : Int) := by omega
        have HG : Hid (∀ i, i < k + 1 → (N i).size ≤ 200) := fun i hi => if e : i = k then by subst e; exact hsz else hg.out i (by omega)
        clear h3 c0 c1 c2 h hbad hg
        generalize N k = y at *
        generalize K k = x at *
        generalize T k = z at *
        go_wp2_with fail
        go_roundw
        case rel => exact ⟨k + 1, by simp, by omega, HG, hB.alloc hge _⟩
        case measure => simp [RowKit.intOf]; omega
      · have t2 : (200 : Int) < ((N k).size : Int) := by omega
        clear h3 c0 c1 c2 h hbad hg hsz
        generalize N k = y at *
        generalize K k = x at *
        generalize T k = z at *
        go_wp2_with fail
        go_ret
        exact ⟨rfl, hB.alloc hge _⟩
    · have hkn : k = n := by omega
      subst hkn
      have t : ¬ (k : Int) < (k : Int) := by omega
      have t3 : ¬ k ≤ 100 := fun h => hbad ⟨h, hg.out⟩
      have t4 : ¬ (k : Int) ≤ 100 := by omega
      clear h3 h hbad hg
      go_wp2_with fail
      go_ret
      exact ⟨by simp, hB⟩

theorem least_ex (P : Nat → Prop) (n : Nat) : (∀ i, i < n → ¬ P i) ∨ ∃ i, i < n ∧ P i ∧ ∀ j, j < i → ¬ P j := by
  induction n with
  | zero => exact .inl (fun i h => absurd h (by omega))
  | succ n ih =>
    rcases ih with h | ⟨i, h1, h2, h3⟩
    · by_cases hp : P n
      · exact .inr ⟨n, by omega, hp, h⟩
      · exact .inl (fun i hi => if e : i = n then by subst e; exact hp else h i (by omega))
    · exact .inr ⟨i, by omega, h2, h3⟩
/-- What Put does: it is refused, or the name has the least free slot. -/
theorem put_cases (room : Nat) (sl : Nat → ByteArray) (name : ByteArray) : vldB name = false ∨ (vldB name = true ∧ ∃ i, i < room ∧ sl i = name) ∨ (vldB name = true ∧ (∀ i, i < room → sl i ≠ name) ∧ ∀ i, i < room → sl i ≠ none4) ∨
    (vldB name = true ∧ (∀ i, i < room → sl i ≠ name) ∧ ∃ i, i < room ∧ sl i = none4 ∧ ∀ j, j < i → sl j ≠ none4) := by
  cases hv : vldB name
  · exact .inl rfl
  · rcases least_ex (fun i => sl i = name) room with h | ⟨i, hi, e, _⟩
    · rcases least_ex (fun i => sl i = none4) room with g | ⟨i, hi, e, hl⟩
      · exact .inr (.inr (.inl ⟨rfl, h, g⟩))
      · exact .inr (.inr (.inr ⟨rfl, h, i, hi, e, hl⟩))
    · exact .inr (.inl ⟨rfl, i, hi, e⟩)
theorem Seated.room_left {room : Nat} {sl : Nat → ByteArray} {L : List (ByteArray × Nat)} (h : Seated room sl L) {name : ByteArray} {i : Nat} (hne : name ≠ none4) (hno : ∀ j, j < room → sl j ≠ name) (hi : i < room) (hf : sl i = none4) : L.length < room := by
  obtain ⟨K, hK⟩ := h.place name
  have := (h.put hK hne hno hi hf).le
  rw [putAt_length _ _ _ hK.le] at this
  omega


/-- Steps that a play goes through with. -/
def Few (n : Nat) (N : Nat → ByteArray) : Prop := n ≤ 100 ∧ ∀ i, i < n → (N i).size ≤ 200
end Go.Proofs.Ytkmjkgmkbkkfdaa
