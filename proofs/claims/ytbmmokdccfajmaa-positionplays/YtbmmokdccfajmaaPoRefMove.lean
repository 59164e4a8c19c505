/-
  Contract of the eighteenth reference's Move.
-/
import Derived.Test.YtbmmokdccfajmaaPoMay
namespace Go.Proofs.Ytbmmokdccfajmaa.PO
open Go.ChangeShapes Go.WideShapes Go.ChangeAt Go.RowKit Go.Lib RU

theorem cell_news (w : World) (A : Array Value) (t : TypeId) : ∀ j u, A.toList[j]? = some u → (w.alloc (.cells A t)).cell? ((⟨w.heap.size, 0, none⟩ : Addr).add j) = some u := by
  intro j u h
  rw [Addr.add_lit, Nat.zero_add]
  have h' : A[j]? = some u := by simpa using h
  simp [h']
/-- What Move comes to: the list with one entry more (c), or the list as it was. -/
def MvPost (w w' : World) (v : Value) (n : Nat) (X : Nat → Ex) (c : Bool) (e : Ending) : Prop :=
  Below w.heap.size w w' ∧ (if c = true then ∃ v', e = .returned (.tuple #[v', .int .i64 0]) ∧ OwnE w' w.heap.size v' (n + 1) X else e = .returned (.tuple #[v, .int .i64 10]))
theorem Nw.toNm {w : World} {g : Nat} {r : Bool} {u : Value} {z : Int} {m B : Nat} {w0 : World} (h : Nw w g r u z m B w0) : Nm 0 w g r u z m := ⟨h.c0, h.c1, h.f0, h.f1, num_mono h.num (Nat.zero_le _)⟩
set_option maxRecDepth 100000 in
set_option maxHeartbeats 32000000 in
theorem refMove_good {w : World} {base : Nat} {al : Option Addr} {n lc : Nat} {X : Nat → Ex} (h : OwnE w base (.slice al n lc) n X) (h0 : n = 0 → Value.slice al n lc = .slice none 0 0) (hn : n ≤ 40) (hX : ∀ i, i < n → Fin (X i)) {nA nS : Int} (xa xs xd xq xp : Int) (xk : Bool) (hx : (0 ≤ xa ∧ xa < nA ∧ 0 ≤ xs ∧ xs < nS) ∧ (1 ≤ xd ∧ xd ≤ 2) ∧ (1 ≤ xq ∧ xq ≤ 1099511627776) ∧ 1 ≤ xp ∧ xp ≤ 1099511627776) :
    Calls Try.prog 8 #[.slice al n lc, .int .i64 nA, .int .i64 nS, .agg #[.int .i64 xa, .int .i64 xs, .int .i64 xd, .int .i64 xq, .int .i64 xp, .bool xk]] w fun e w' => MvPost w w' (.slice al n lc) n (upd X n ⟨xa, xs, xd, xq, xp, xk⟩) (mayB (SQ (upd X n ⟨xa, xs, xd, xq, xp, xk⟩) xa xs xd (n + 1)) && mayB (SW (upd X n ⟨xa, xs, xd, xq, xp, xk⟩) xa xs xd (n + 1)) && mayB (xq * xp)) e := by
  obtain ⟨i0, hi, hz0, hz1, hz2⟩ := info_parts infoE
  have H0 : Hid (n = 0 → Value.slice al n lc = .slice none 0 0) := h0
  clear h0
  obtain ⟨⟨x1, x2, x3, x4⟩, ⟨x5, x6⟩, ⟨x7, x8⟩, x9, x0⟩ := hx
  obtain ⟨P1, hP1⟩ : ∃ z, SQ (upd X n ⟨xa, xs, xd, xq, xp, xk⟩) xa xs xd (n + 1) = z := ⟨_, rfl⟩
  obtain ⟨P2, hP2⟩ : ∃ z, SW (upd X n ⟨xa, xs, xd, xq, xp, xk⟩) xa xs xd (n + 1) = z := ⟨_, rfl⟩
  rw [hP1, hP2]
  have HP : Hid (_ ∧ _) := ⟨hP1, hP2⟩
  obtain ⟨C, hC⟩ : ∃ C, Hid ((mayB P1 && mayB P2 && mayB (xq * xp)) = C) := ⟨_, rfl⟩
  rw [hC.out]
  clear hP1 hP2
  have HX : Hid (∀ i, i < n + 1 → Fin (upd X n ⟨xa, xs, xd, xq, xp, xk⟩ i)) := fun i hi => by
    by_cases e : i = n
    · subst e; rw [upd_same]; exact ⟨⟨x7, x8⟩, x9, x0⟩
    · rw [upd_other _ _ e]; exact hX i (by omega)
  clear hX
  have bA : Below w.heap.size w (w.alloc (.cells #[.int .i64 xa, .int .i64 xs, .int .i64 xd, .int .i64 xq, .int .i64 xp, .bool xk] 33)) := (Below.refl _ _).alloc (Nat.le_refl _) _
  have HB : Hid (Below w.heap.size w (w.alloc (.cells #[.int .i64 xa, .int .i64 xs, .int .i64 xd, .int .i64 xq, .int .i64 xp, .bool xk] 33))) := bA
  have HO : Hid (OwnE (w.alloc (.cells #[.int .i64 xa, .int .i64 xs, .int .i64 xd, .int .i64 xq, .int .i64 xp, .bool xk] 33)) base (.slice al n lc) n X) := own_below h bA
  have d0 : (w.alloc (.cells #[.int .i64 xa, .int .i64 xs, .int .i64 xd, .int .i64 xq, .int .i64 xp, .bool xk] 33)).cell? ⟨w.heap.size, 0, none⟩ = some (.int .i64 xa) := by go_simp
  have d1 : (w.alloc (.cells #[.int .i64 xa, .int .i64 xs, .int .i64 xd, .int .i64 xq, .int .i64 xp, .bool xk] 33)).cell? ⟨w.heap.size, 1, none⟩ = some (.int .i64 xs) := by go_simp
  have d2 : (w.alloc (.cells #[.int .i64 xa, .int .i64 xs, .int .i64 xd, .int .i64 xq, .int .i64 xp, .bool xk] 33)).cell? ⟨w.heap.size, 2, none⟩ = some (.int .i64 xd) := by go_simp
  have d3 : (w.alloc (.cells #[.int .i64 xa, .int .i64 xs, .int .i64 xd, .int .i64 xq, .int .i64 xp, .bool xk] 33)).cell? ⟨w.heap.size, 3, none⟩ = some (.int .i64 xq) := by go_simp
  have d4 : (w.alloc (.cells #[.int .i64 xa, .int .i64 xs, .int .i64 xd, .int .i64 xq, .int .i64 xp, .bool xk] 33)).cell? ⟨w.heap.size, 4, none⟩ = some (.int .i64 xp) := by go_simp
  have d5 : (w.alloc (.cells #[.int .i64 xa, .int .i64 xs, .int .i64 xd, .int .i64 xq, .int .i64 xp, .bool xk] 33)).cell? ⟨w.heap.size, 5, none⟩ = some (.bool xk) := by go_simp
  have lx : w.heap.size < (w.alloc (.cells #[.int .i64 xa, .int .i64 xs, .int .i64 xd, .int .i64 xq, .int .i64 xp, .bool xk] 33)).heap.size := by simp
  clear h bA
  go_enter Try.func8, Try.ntmps8
  go_upto_region 1 with fail
  generalize w.alloc (.cells #[.int .i64 xa, .int .i64 xs, .int .i64 xd, .int .i64 xq, .int .i64 xp, .bool xk] 33) = wA at *
  obtain ⟨gx, hgx⟩ : ∃ g, g = w.heap.size := ⟨_, rfl⟩
  rw [← hgx] at d0 d1 d2 d3 d4 d5 lx
  rw [← hgx]
  have HG : Hid (gx = w.heap.size) := hgx
  clear hgx
  go_upto_region 4 with fail
  go_cut [10] from 65 to 67 (fun o wx => ∃ ao co, o = .slice ao n co ∧ Hid (OwnE wx wA.heap.size o n X ∧ Below wA.heap.size wA wx))
  case first =>
    by_cases hn0 : n = 0
    · subst hn0
      obtain ⟨rfl, rfl⟩ : al = none ∧ lc = 0 := by
        have e := H0.out rfl
        injection e with e1 _ e3
        exact ⟨e1, e3⟩
      go_wp2_with (at_builtin; refine wpList_append_none rfl _ _ 28 rfl (.slice none 0 0) (.slice none 0 0) rfl rfl (fun ty => run_append_none wA wA.heap.size 28 ty 33 i0 6 Try.underlying28 hi _ 0 [] (World.ownsRow_nil _ _ _ _) 0) ?_)
      go_wp2_with fail
      go_meet
      case rel => exact ⟨none, 0, rfl, World.ownsRow_nil _ _ _ _, Below.refl _ _⟩
    · obtain ⟨b, off, rfl, _⟩ : ∃ b off, al = some ⟨b, off, none⟩ ∧ True := by
        obtain ⟨a, cap, e, _, _, k3⟩ := ops_of_own HO.out
        injection e with e1
        subst e1
        obtain ⟨b, off, e, _⟩ := k3 0 (by omega)
        exact ⟨b, off, e, trivial⟩
      have A : Hid (∀ j u, (allE X n)[j]? = some u → wA.cell? ((⟨b, off, none⟩ : Addr).add j) = some u) := ops_cells (ops_of_own HO.out)
      go_wp2_with (at_builtin; refine wpList_append_own _ rfl _ _ 28 rfl wA.heap.size 33 i0 (.agg #[.int .i64 0, .int .i64 0, .int .i64 0, .int .i64 0, .int .i64 0, .bool false]) 6 48 Try.underlying28 hi hz0 hz1 hz2 rfl (by decide) _ _ _ rfl (World.ownsRow_nil _ _ _ _) ⟨b, off, none⟩ n lc (allE X n) rfl ?qc1 ?qc2 ?qc3 ?qc4 ?qc5 ?qc6 ?_)
      case qc1 => exact allE_length X n
      case qc2 => exact A.out
      case qc3 => exact allE_one X n
      case qc4 => unfold maxLen; omega
      case qc5 => omega
      case qc6 => exact Nat.le_refl _
      intro v' w1 hown hgrow hnil
      have hown' : OwnE w1 wA.heap.size v' n X := by simpa using hown
      have hb1 : Below wA.heap.size wA w1 := (Below.refl _ _).grown hgrow (Nat.le_refl _) (fun k hk => by cases hk)
      obtain ⟨ao, co, rfl⟩ := own_shape hown'
      have HR : Hid (_ ∧ _) := ⟨hown', hb1⟩
      clear hown hnil hgrow hown' hb1 A
      go_wp2_with fail
      go_meet
      case rel => exact ⟨ao, co, rfl, HR.out.1, HR.out.2⟩
  case rest =>
    obtain ⟨ao, co, rfl, R⟩ := hcut
    replace d0 := (R.out.2.cell (p := ⟨gx, 0, none⟩) lx).trans d0
    replace d1 := (R.out.2.cell (p := ⟨gx, 1, none⟩) lx).trans d1
    replace d2 := (R.out.2.cell (p := ⟨gx, 2, none⟩) lx).trans d2
    replace d3 := (R.out.2.cell (p := ⟨gx, 3, none⟩) lx).trans d3
    replace d4 := (R.out.2.cell (p := ⟨gx, 4, none⟩) lx).trans d4
    replace d5 := (R.out.2.cell (p := ⟨gx, 5, none⟩) lx).trans d5
    have lc0 := Nat.lt_of_lt_of_le lx R.out.2.size
    go_wp2_with (at_builtin; refine wpList_append_own _ rfl _ _ 28 rfl wA.heap.size 33 i0 (.agg #[.int .i64 0, .int .i64 0, .int .i64 0, .int .i64 0, .int .i64 0, .bool false]) 6 48 Try.underlying28 hi hz0 hz1 hz2 rfl (by decide) _ _ _ rfl (R.out.1.alloc _) ⟨wc.heap.size, 0, none⟩ 1 1 (cellsE ⟨xa, xs, xd, xq, xp, xk⟩) rfl ?qc1 ?qc2 ?qc3 ?qc4 ?qc5 ?qc6 ?_)
    case qc1 => rfl
    case qc2 => exact cell_news wc #[.int .i64 xa, .int .i64 xs, .int .i64 xd, .int .i64 xq, .int .i64 xp, .bool xk] _
    case qc3 => exact cellsE_one _
    case qc4 => unfold maxLen; omega
    case qc5 => omega
    case qc6 => have := R.out.2.size; simp; omega
    intro v' w2 hown hgrow hnil
    have hown2 : OwnE w2 wA.heap.size v' (n + 1) (upd X n ⟨xa, xs, xd, xq, xp, xk⟩) := by
      show w2.ownsRow _ _ _ _ _ (allE (upd X n ⟨xa, xs, xd, xq, xp, xk⟩) (n + 1))
      rw [allE_more]
      exact hown
    have hbc : Below wA.heap.size wA w2 := (R.out.2.alloc R.out.2.size _).grown hgrow (by have := R.out.2.size; simp; omega) (fun k hk => (R.out.1.lt k hk).1)
    obtain ⟨ap, cp, rfl⟩ := own_shape hown2
    have HO2 : Hid (OwnE w2 wA.heap.size (.slice ap (n + 1) cp) (n + 1) (upd X n ⟨xa, xs, xd, xq, xp, xk⟩)) := hown2
    have HBC : Hid (Below wA.heap.size wA w2) := hbc
    have HD : Hid (w2.cell? ⟨gx, 0, none⟩ = some (.int .i64 xa) ∧ w2.cell? ⟨gx, 1, none⟩ = some (.int .i64 xs) ∧ w2.cell? ⟨gx, 2, none⟩ = some (.int .i64 xd) ∧ w2.cell? ⟨gx, 3, none⟩ = some (.int .i64 xq) ∧ w2.cell? ⟨gx, 4, none⟩ = some (.int .i64 xp)) := by
      have g : ∀ o, w2.cell? ⟨gx, o, none⟩ = wA.cell? ⟨gx, o, none⟩ := fun o => hbc.cell (p := ⟨gx, o, none⟩) lx
      have g' : ∀ o, wc.cell? ⟨gx, o, none⟩ = wA.cell? ⟨gx, o, none⟩ := fun o => R.out.2.cell (p := ⟨gx, o, none⟩) lx
      exact ⟨((g 0).trans (g' 0).symm).trans d0, ((g 1).trans (g' 1).symm).trans d1, ((g 2).trans (g' 2).symm).trans d2, ((g 3).trans (g' 3).symm).trans d3, ((g 4).trans (g' 4).symm).trans d4⟩
    clear hown hgrow hnil hown2 hbc R d0 d1 d2 d3 d4 d5 lc0
    obtain ⟨e0, e1, e2, e3, e4⟩ := HD.out
    clear HD
    have G := sum_any (ops_of_own HO2.out) (by omega) HX.out xa xs xd
    rw [HP.out.1, HP.out.2] at G
    go_wp2_with fail
    refine G.mono ?_
    rintro e w3 ⟨r1, u1, r2, u2, rfl, hb3, n1, n2⟩
    obtain ⟨a1, m1, c1, rfl⟩ := num_slice n1
    obtain ⟨a2, m2, c2, rfl⟩ := num_slice n2
    have l2 := Nat.lt_of_lt_of_le lx HBC.out.size
    have H3 : Hid (IsNum 0 w3 r1 (.slice a1 m1 c1) P1 200 ∧ IsNum 0 w3 r2 (.slice a2 m2 c2) P2 200) := ⟨num_mono n1 (Nat.zero_le _), num_mono n2 (Nat.zero_le _)⟩
    have HB3 : Hid (Below w2.heap.size w2 w3) := hb3
    replace e3 := (hb3.cell (p := ⟨gx, 3, none⟩) l2).trans e3
    replace e4 := (hb3.cell (p := ⟨gx, 4, none⟩) l2).trans e4
    have l3 := Nat.lt_of_lt_of_le l2 hb3.size
    clear G n1 n2 hb3 e0 e1 e2
    go_upto_region 7 with fail
    have bB : Below w3.heap.size w3 ((w3.alloc (.cells #[.bool r1, .slice a1 m1 c1] 51)).alloc (.cells #[.bool r2, .slice a2 m2 c2] 51)) := ((Below.refl _ _).alloc (Nat.le_refl _) _).alloc (by simp) _
    have HBB : Hid (Below w3.heap.size w3 ((w3.alloc (.cells #[.bool r1, .slice a1 m1 c1] 51)).alloc (.cells #[.bool r2, .slice a2 m2 c2] 51))) := bB
    have M1 : Hid (Nm 0 ((w3.alloc (.cells #[.bool r1, .slice a1 m1 c1] 51)).alloc (.cells #[.bool r2, .slice a2 m2 c2] 51)) w3.heap.size r1 (.slice a1 m1 c1) P1 200) := (Nm.new _ H3.out.1).below ((Below.refl _ _).alloc (Nat.le_refl _) _)
    have M2 : Hid (Nm 0 ((w3.alloc (.cells #[.bool r1, .slice a1 m1 c1] 51)).alloc (.cells #[.bool r2, .slice a2 m2 c2] 51)) (w3.heap.size + 1) r2 (.slice a2 m2 c2) P2 200) := by
      have := Nm.new (w := w3.alloc (.cells #[.bool r1, .slice a1 m1 c1] 51)) 51 (H3.out.2.below ((Below.refl _ _).alloc (Nat.le_refl _) _))
      rw [World.size_alloc] at this
      exact this
    generalize (w3.alloc (.cells #[.bool r1, .slice a1 m1 c1] 51)).alloc (.cells #[.bool r2, .slice a2 m2 c2] 51) = wB at *
    obtain ⟨g12, hg12⟩ : ∃ g, g = w3.heap.size + 1 := ⟨_, rfl⟩
    rw [← hg12] at M2
    rw [← hg12]
    clear hg12
    obtain ⟨g11, hg11⟩ : ∃ g, g = w3.heap.size := ⟨_, rfl⟩
    rw [← hg11] at M1
    rw [← hg11]
    clear hg11
    replace e3 := (bB.cell (p := ⟨gx, 3, none⟩) l3).trans e3
    replace e4 := (bB.cell (p := ⟨gx, 4, none⟩) l3).trans e4
    have lB := Nat.lt_of_lt_of_le l3 bB.size
    have hq9 : -9223372036854775808 ≤ xq := by omega
    have hq8 : xq ≤ 9223372036854775807 := by omega
    have hp9 : -9223372036854775808 ≤ xp := by omega
    have hp8 : xp ≤ 9223372036854775807 := by omega
    clear bB l2 l3 lx
    go_cut [13] from 83 to 89 (fun s13 wx => ∃ (g13 : Nat) (rw : Bool) (au : Option Addr) (mu cu : Nat), s13 = .pointer (some ⟨g13, 0, none⟩) ∧ Hid (Nm 0 wx g13 rw (.slice au mu cu) (xq * xp) 128 ∧ Below wB.heap.size wB wx))
    case first =>
        go_region_held3 (fun w' => w'.cell? ⟨gx, 3, none⟩ = some (.int .i64 xq) ∧ w'.cell? ⟨gx, 4, none⟩ = some (.int .i64 xp)) (first | go_keep | (refine ⟨?_, ?_⟩ <;> (rw [World.cell?_setCell_other _ _ _ _ (by intro e; injection e with e1; omega), World.cell?_setCell_other _ _ _ _ (by intro e; injection e with e1; omega)]; assumption))) (first
          | (have chk := nQ8; clear chk; go_at_call_of 18 (Value.int .i64 xp); refine (of_any xp _ hp9 hp8).mono ?_; rintro e w7 ⟨up, rfl, hb, lp, p1, p2, p3, p4⟩; have M7 := M8.below hb; have l7 := Nat.lt_of_lt_of_le l8 hb.size; have g7 := g8; have B7 : Below w8.heap.size w8 w7 := hb; have D7 : Below wB.heap.size wB w7 := D8.trans (B7.mono D8.size); have nP7 : IsNum 0 w7 (decide (xp < 0)) up xp 64 := ⟨rfl, lp, p1.mono (Nat.zero_le _), p2, p3, p4⟩; clear p1 p2 p3 p4; obtain ⟨aup, mup, cup, rfl⟩ := num_slice nP7; have nQ7 := nQ8.below B7; have v37 := (D7.cell (p := ⟨gx, 3, none⟩) lB).trans e3; have v47 := (D7.cell (p := ⟨gx, 4, none⟩) lB).trans e4; have lB7 := Nat.lt_of_lt_of_le lB D7.size; clear hb)
          | (have chk := nQ8; clear chk; go_at_call_of 18 (Value.int .i64 xp); refine (of_any xp _ hp9 hp8).mono ?_; rintro e w7 ⟨up, rfl, hb, lp, p1, p2, p3, p4⟩; have E7 := middle hb; obtain ⟨B7, M7, l70⟩ := E7; have l7 := Nat.lt_of_lt_of_le l70 hb.size; have g7 := D8.size; have D7 : Below wB.heap.size wB w7 := D8.trans (B7.mono D8.size); have nP7 : IsNum 0 w7 (decide (xp < 0)) up xp 64 := ⟨rfl, lp, p1.mono (Nat.zero_le _), p2, p3, p4⟩; clear p1 p2 p3 p4; obtain ⟨aup, mup, cup, rfl⟩ := num_slice nP7; have nQ7 := nQ8.below B7; have v37 := (D7.cell (p := ⟨gx, 3, none⟩) lB).trans e3; have v47 := (D7.cell (p := ⟨gx, 4, none⟩) lB).trans e4; have lB7 := Nat.lt_of_lt_of_le lB D7.size; clear hb)
          | (have chk := nQ8; clear chk; go_at_call_of 18 (Value.int .i64 xp); refine (of_any xp _ hp9 hp8).mono ?_; rintro e w7 ⟨up, rfl, hb, lp, p1, p2, p3, p4⟩; have B7 : Below w8.heap.size w8 w7 := hb; have D7 : Below wB.heap.size wB w7 := D8.trans (B7.mono D8.size); have nP7 : IsNum 0 w7 (decide (xp < 0)) up xp 64 := ⟨rfl, lp, p1.mono (Nat.zero_le _), p2, p3, p4⟩; clear p1 p2 p3 p4; obtain ⟨aup, mup, cup, rfl⟩ := num_slice nP7; have nQ7 := nQ8.below B7; have v37 := (D7.cell (p := ⟨gx, 3, none⟩) lB).trans e3; have v47 := (D7.cell (p := ⟨gx, 4, none⟩) lB).trans e4; have lB7 := Nat.lt_of_lt_of_le lB D7.size; clear hb)
          | (have chk := nP8; clear chk; go_at_call_of 18 (Value.int .i64 xq); refine (of_any xq _ hq9 hq8).mono ?_; rintro e w7 ⟨uq, rfl, hb, lp, p1, p2, p3, p4⟩; have M7 := M8.below hb; have l7 := Nat.lt_of_lt_of_le l8 hb.size; have g7 := g8; have B7 : Below w8.heap.size w8 w7 := hb; have D7 : Below wB.heap.size wB w7 := D8.trans (B7.mono D8.size); have nQ7 : IsNum 0 w7 (decide (xq < 0)) uq xq 64 := ⟨rfl, lp, p1.mono (Nat.zero_le _), p2, p3, p4⟩; clear p1 p2 p3 p4; obtain ⟨auq, muq, cuq, rfl⟩ := num_slice nQ7; have nP7 := nP8.below B7; have v37 := (D7.cell (p := ⟨gx, 3, none⟩) lB).trans e3; have v47 := (D7.cell (p := ⟨gx, 4, none⟩) lB).trans e4; have lB7 := Nat.lt_of_lt_of_le lB D7.size; clear hb)
          | (have chk := nP8; clear chk; go_at_call_of 18 (Value.int .i64 xq); refine (of_any xq _ hq9 hq8).mono ?_; rintro e w7 ⟨uq, rfl, hb, lp, p1, p2, p3, p4⟩; have E7 := middle hb; obtain ⟨B7, M7, l70⟩ := E7; have l7 := Nat.lt_of_lt_of_le l70 hb.size; have g7 := D8.size; have D7 : Below wB.heap.size wB w7 := D8.trans (B7.mono D8.size); have nQ7 : IsNum 0 w7 (decide (xq < 0)) uq xq 64 := ⟨rfl, lp, p1.mono (Nat.zero_le _), p2, p3, p4⟩; clear p1 p2 p3 p4; obtain ⟨auq, muq, cuq, rfl⟩ := num_slice nQ7; have nP7 := nP8.below B7; have v37 := (D7.cell (p := ⟨gx, 3, none⟩) lB).trans e3; have v47 := (D7.cell (p := ⟨gx, 4, none⟩) lB).trans e4; have lB7 := Nat.lt_of_lt_of_le lB D7.size; clear hb)
          | (have chk := nP8; clear chk; go_at_call_of 18 (Value.int .i64 xq); refine (of_any xq _ hq9 hq8).mono ?_; rintro e w7 ⟨uq, rfl, hb, lp, p1, p2, p3, p4⟩; have B7 : Below w8.heap.size w8 w7 := hb; have D7 : Below wB.heap.size wB w7 := D8.trans (B7.mono D8.size); have nQ7 : IsNum 0 w7 (decide (xq < 0)) uq xq 64 := ⟨rfl, lp, p1.mono (Nat.zero_le _), p2, p3, p4⟩; clear p1 p2 p3 p4; obtain ⟨auq, muq, cuq, rfl⟩ := num_slice nQ7; have nP7 := nP8.below B7; have v37 := (D7.cell (p := ⟨gx, 3, none⟩) lB).trans e3; have v47 := (D7.cell (p := ⟨gx, 4, none⟩) lB).trans e4; have lB7 := Nat.lt_of_lt_of_le lB D7.size; clear hb)
          | (go_at_call_of 18 (Value.int .i64 xq); refine (of_any xq _ hq9 hq8).mono ?_; rintro e w8 ⟨uq, rfl, hb, lp, p1, p2, p3, p4⟩; have E8 := early hb; obtain ⟨D8, M8, l8⟩ := E8; have g8 := Nat.le_refl wB.heap.size; have nQ8 : IsNum 0 w8 (decide (xq < 0)) uq xq 64 := ⟨rfl, lp, p1.mono (Nat.zero_le _), p2, p3, p4⟩; clear p1 p2 p3 p4; obtain ⟨auq, muq, cuq, rfl⟩ := num_slice nQ8; have v38 := (D8.cell (p := ⟨gx, 3, none⟩) lB).trans e3; have v48 := (D8.cell (p := ⟨gx, 4, none⟩) lB).trans e4; have lB8 := Nat.lt_of_lt_of_le lB D8.size; clear hb)
          | (go_at_call_of 18 (Value.int .i64 xq); refine (of_any xq _ hq9 hq8).mono ?_; rintro e w8 ⟨uq, rfl, hb, lp, p1, p2, p3, p4⟩; have D8 : Below wB.heap.size wB w8 := (Below.refl _ _).drew.trans hb; have nQ8 : IsNum 0 w8 (decide (xq < 0)) uq xq 64 := ⟨rfl, lp, p1.mono (Nat.zero_le _), p2, p3, p4⟩; clear p1 p2 p3 p4; obtain ⟨auq, muq, cuq, rfl⟩ := num_slice nQ8; have v38 := (D8.cell (p := ⟨gx, 3, none⟩) lB).trans e3; have v48 := (D8.cell (p := ⟨gx, 4, none⟩) lB).trans e4; have lB8 := Nat.lt_of_lt_of_le lB D8.size; clear hb)
          | (go_at_call_of 18 (Value.int .i64 xp); refine (of_any xp _ hp9 hp8).mono ?_; rintro e w8 ⟨up, rfl, hb, lp, p1, p2, p3, p4⟩; have E8 := early hb; obtain ⟨D8, M8, l8⟩ := E8; have g8 := Nat.le_refl wB.heap.size; have nP8 : IsNum 0 w8 (decide (xp < 0)) up xp 64 := ⟨rfl, lp, p1.mono (Nat.zero_le _), p2, p3, p4⟩; clear p1 p2 p3 p4; obtain ⟨aup, mup, cup, rfl⟩ := num_slice nP8; have v38 := (D8.cell (p := ⟨gx, 3, none⟩) lB).trans e3; have v48 := (D8.cell (p := ⟨gx, 4, none⟩) lB).trans e4; have lB8 := Nat.lt_of_lt_of_le lB D8.size; clear hb)
          | (go_at_call_of 18 (Value.int .i64 xp); refine (of_any xp _ hp9 hp8).mono ?_; rintro e w8 ⟨up, rfl, hb, lp, p1, p2, p3, p4⟩; have D8 : Below wB.heap.size wB w8 := (Below.refl _ _).drew.trans hb; have nP8 : IsNum 0 w8 (decide (xp < 0)) up xp 64 := ⟨rfl, lp, p1.mono (Nat.zero_le _), p2, p3, p4⟩; clear p1 p2 p3 p4; obtain ⟨aup, mup, cup, rfl⟩ := num_slice nP8; have v38 := (D8.cell (p := ⟨gx, 3, none⟩) lB).trans e3; have v48 := (D8.cell (p := ⟨gx, 4, none⟩) lB).trans e4; have lB8 := Nat.lt_of_lt_of_le lB D8.size; clear hb)
          | (go_at_call 17; have chk := M7; clear chk; refine (mulR_any _ _ _ _ xq xp 64 64 _ nQ7 nP7 (by decide) (by decide)).mono ?_; rintro e w9 ⟨rw, uw, rfl, hb9, n9⟩; obtain ⟨au, mu, cu, rfl⟩ := num_slice n9; have M9 := M7.below hb9; have lG := l7; have lW := g7; have k0 := M9.c0; have k1 := M9.c1; have k2 := M9.f0; have k3 := M9.f1; have D9 : Below wB.heap.size wB w9 := D7.trans (hb9.mono D7.size); have v39 := (D9.cell (p := ⟨gx, 3, none⟩) lB).trans e3; have v49 := (D9.cell (p := ⟨gx, 4, none⟩) lB).trans e4)
          | (go_at_call 17; refine (mulR_any _ _ _ _ xq xp 64 64 _ (nQ7.below ((Below.refl _ _).alloc (Nat.le_refl _) _)) (nP7.below ((Below.refl _ _).alloc (Nat.le_refl _) _)) (by decide) (by decide)).mono ?_; rintro e w9 ⟨rw, uw, rfl, hb9, n9⟩; obtain ⟨au, mu, cu, rfl⟩ := num_slice n9; have E9 := middle hb9; obtain ⟨B9, M9, lG⟩ := E9; have lW := D7.size; have k0 := M9.c0; have k1 := M9.c1; have k2 := M9.f0; have k3 := M9.f1; have D9 : Below wB.heap.size wB w9 := D7.trans (B9.mono D7.size); have v39 := (D9.cell (p := ⟨gx, 3, none⟩) lB).trans e3; have v49 := (D9.cell (p := ⟨gx, 4, none⟩) lB).trans e4)
          | (go_at_call 17; refine (mulR_any _ _ _ _ xq xp 64 64 _ nQ7 nP7 (by decide) (by decide)).mono ?_; rintro e w9 ⟨rw, uw, rfl, hb9, n9⟩; obtain ⟨au, mu, cu, rfl⟩ := num_slice n9; have D9 : Below wB.heap.size wB w9 := D7.trans (hb9.mono D7.size); have v39 := (D9.cell (p := ⟨gx, 3, none⟩) lB).trans e3; have v49 := (D9.cell (p := ⟨gx, 4, none⟩) lB).trans e4))
        all_goals
          first
          | (have N9 : Hid (Nm 0 _ _ rw (.slice au mu cu) (xq * xp) 128) := (Nw.over M9 lG n9).toNm
             have HD9 : Hid (Below wB.heap.size wB w9) := D9
             have hG := lW
             clear n9 nQ7 nP7 hb9 D8 D9 D7 M9
             go_wp2_with fail
             go_meet
             case rel => exact ⟨_, rw, au, mu, cu, rfl, N9.out, (HD9.out.setCell hG _).setCell hG _⟩)
          | (have N9 : Hid (IsNum 0 w9 rw (.slice au mu cu) (xq * xp) 128) := num_mono n9 (Nat.zero_le _)
             have HD9 : Hid (Below wB.heap.size wB w9) := D9
             clear n9 nQ7 nP7 hb9 D8 D9 D7
             go_wp2_with fail
             go_meet
             case rel => exact ⟨_, rw, au, mu, cu, rfl, Nm.new _ N9.out, HD9.out.alloc HD9.out.size _⟩)
    case rest =>
      obtain ⟨g13, r3, a3, m3, c3, rfl, R⟩ := hcut
      have HC : Hid (Below wA.heap.size wA wc) := ((HBC.out.trans (HB3.out.mono HBC.out.size)).trans (HBB.out.mono (Nat.le_trans HBC.out.size HB3.out.size))).trans (R.out.2.mono (Nat.le_trans (Nat.le_trans HBC.out.size HB3.out.size) HBB.out.size))
      have HW : Hid (Below w.heap.size w wc) := HB.out.trans (HC.out.mono HB.out.size)
      have OW : Hid (OwnE wc w.heap.size (.slice ap (n + 1) cp) (n + 1) (upd X n ⟨xa, xs, xd, xq, xp, xk⟩)) := Joins.ownsRow_le (own_below (own_below (own_below HO2.out HB3.out) HBB.out) R.out.2) HB.out.size
      have K1 : Hid (Nm 0 wc g11 r1 (.slice a1 m1 c1) P1 200) := M1.out.below R.out.2
      have K2 : Hid (Nm 0 wc g12 r2 (.slice a2 m2 c2) P2 200) := M2.out.below R.out.2
      have K3 : Hid (Nm 0 wc g13 r3 (.slice a3 m3 c3) (xq * xp) 128) := R.out.1
      generalize xq * xp = P3 at *
      clear HC HB HO HO2 HBC HB3 HBB R M1 M2 H3 e3 e4 lB HX HP H0
      cases t1 : mayB P1
      · have k0 := K1.out.c0
        have k1 := K1.out.c1
        have F := may_any K1.out.nm
        rw [t1] at F
        go_wp2_with fail
        refine F.mono ?_
        rintro e v1 ⟨rfl, hb⟩
        have K2' : Hid _ := K2.out.below hb
        have K3' : Hid _ := K3.out.below hb
        have HW' : Hid (Below w.heap.size w v1) := HW.out.trans (hb.mono HW.out.size)
        have OW' : Hid (OwnE v1 w.heap.size (.slice ap (n + 1) cp) (n + 1) (upd X n ⟨xa, xs, xd, xq, xp, xk⟩)) := own_below OW.out hb
        clear k0 k1 F hb HW OW K1 K2 K3
        have K2 := K2'
        clear K2'
        have K3 := K3'
        clear K3'
        have HW := HW'
        have OW := OW'
        clear HW' OW'
        go_wp2_with fail
        go_ret2
        obtain rfl : C = false := by rw [← hC.out]; simp [t1]
        exact ⟨HW.out, rfl⟩
      cases t2 : mayB P2
      · have k0 := K1.out.c0
        have k1 := K1.out.c1
        have F := may_any K1.out.nm
        rw [t1] at F
        go_wp2_with fail
        refine F.mono ?_
        rintro e v1 ⟨rfl, hb⟩
        have K2' : Hid _ := K2.out.below hb
        have K3' : Hid _ := K3.out.below hb
        have HW' : Hid (Below w.heap.size w v1) := HW.out.trans (hb.mono HW.out.size)
        have OW' : Hid (OwnE v1 w.heap.size (.slice ap (n + 1) cp) (n + 1) (upd X n ⟨xa, xs, xd, xq, xp, xk⟩)) := own_below OW.out hb
        clear k0 k1 F hb HW OW K1 K2 K3
        have K2 := K2'
        clear K2'
        have K3 := K3'
        clear K3'
        have HW := HW'
        have OW := OW'
        clear HW' OW'
        have k0 := K2.out.c0
        have k1 := K2.out.c1
        have F := may_any K2.out.nm
        rw [t2] at F
        go_wp2_with fail
        refine F.mono ?_
        rintro e v2 ⟨rfl, hb⟩
        have K3' : Hid _ := K3.out.below hb
        have HW' : Hid (Below w.heap.size w v2) := HW.out.trans (hb.mono HW.out.size)
        have OW' : Hid (OwnE v2 w.heap.size (.slice ap (n + 1) cp) (n + 1) (upd X n ⟨xa, xs, xd, xq, xp, xk⟩)) := own_below OW.out hb
        clear k0 k1 F hb HW OW K2 K3
        have K3 := K3'
        clear K3'
        have HW := HW'
        have OW := OW'
        clear HW' OW'
        go_wp2_with fail
        go_ret2
        obtain rfl : C = false := by rw [← hC.out]; simp [t2]
        exact ⟨HW.out, rfl⟩
      cases t3 : mayB P3
      · have k0 := K1.out.c0
        have k1 := K1.out.c1
        have F := may_any K1.out.nm
        rw [t1] at F
        go_wp2_with fail
        refine F.mono ?_
        rintro e v1 ⟨rfl, hb⟩
        have K2' : Hid _ := K2.out.below hb
        have K3' : Hid _ := K3.out.below hb
        have HW' : Hid (Below w.heap.size w v1) := HW.out.trans (hb.mono HW.out.size)
        have OW' : Hid (OwnE v1 w.heap.size (.slice ap (n + 1) cp) (n + 1) (upd X n ⟨xa, xs, xd, xq, xp, xk⟩)) := own_below OW.out hb
        clear k0 k1 F hb HW OW K1 K2 K3
        have K2 := K2'
        clear K2'
        have K3 := K3'
        clear K3'
        have HW := HW'
        have OW := OW'
        clear HW' OW'
        have k0 := K2.out.c0
        have k1 := K2.out.c1
        have F := may_any K2.out.nm
        rw [t2] at F
        go_wp2_with fail
        refine F.mono ?_
        rintro e v2 ⟨rfl, hb⟩
        have K3' : Hid _ := K3.out.below hb
        have HW' : Hid (Below w.heap.size w v2) := HW.out.trans (hb.mono HW.out.size)
        have OW' : Hid (OwnE v2 w.heap.size (.slice ap (n + 1) cp) (n + 1) (upd X n ⟨xa, xs, xd, xq, xp, xk⟩)) := own_below OW.out hb
        clear k0 k1 F hb HW OW K2 K3
        have K3 := K3'
        clear K3'
        have HW := HW'
        have OW := OW'
        clear HW' OW'
        have k0 := K3.out.c0
        have k1 := K3.out.c1
        have F := may_any K3.out.nm
        rw [t3] at F
        go_wp2_with fail
        refine F.mono ?_
        rintro e v3 ⟨rfl, hb⟩
        have HW' : Hid (Below w.heap.size w v3) := HW.out.trans (hb.mono HW.out.size)
        have OW' : Hid (OwnE v3 w.heap.size (.slice ap (n + 1) cp) (n + 1) (upd X n ⟨xa, xs, xd, xq, xp, xk⟩)) := own_below OW.out hb
        clear k0 k1 F hb HW OW K3
        have HW := HW'
        have OW := OW'
        clear HW' OW'
        go_wp2_with fail
        go_ret2
        obtain rfl : C = false := by rw [← hC.out]; simp [t3]
        exact ⟨HW.out, rfl⟩
      have k0 := K1.out.c0
      have k1 := K1.out.c1
      have F := may_any K1.out.nm
      rw [t1] at F
      go_wp2_with fail
      refine F.mono ?_
      rintro e v1 ⟨rfl, hb⟩
      have K2' : Hid _ := K2.out.below hb
      have K3' : Hid _ := K3.out.below hb
      have HW' : Hid (Below w.heap.size w v1) := HW.out.trans (hb.mono HW.out.size)
      have OW' : Hid (OwnE v1 w.heap.size (.slice ap (n + 1) cp) (n + 1) (upd X n ⟨xa, xs, xd, xq, xp, xk⟩)) := own_below OW.out hb
      clear k0 k1 F hb HW OW K1 K2 K3
      have K2 := K2'
      clear K2'
      have K3 := K3'
      clear K3'
      have HW := HW'
      have OW := OW'
      clear HW' OW'
      have k0 := K2.out.c0
      have k1 := K2.out.c1
      have F := may_any K2.out.nm
      rw [t2] at F
      go_wp2_with fail
      refine F.mono ?_
      rintro e v2 ⟨rfl, hb⟩
      have K3' : Hid _ := K3.out.below hb
      have HW' : Hid (Below w.heap.size w v2) := HW.out.trans (hb.mono HW.out.size)
      have OW' : Hid (OwnE v2 w.heap.size (.slice ap (n + 1) cp) (n + 1) (upd X n ⟨xa, xs, xd, xq, xp, xk⟩)) := own_below OW.out hb
      clear k0 k1 F hb HW OW K2 K3
      have K3 := K3'
      clear K3'
      have HW := HW'
      have OW := OW'
      clear HW' OW'
      have k0 := K3.out.c0
      have k1 := K3.out.c1
      have F := may_any K3.out.nm
      rw [t3] at F
      go_wp2_with fail
      refine F.mono ?_
      rintro e v3 ⟨rfl, hb⟩
      have HW' : Hid (Below w.heap.size w v3) := HW.out.trans (hb.mono HW.out.size)
      have OW' : Hid (OwnE v3 w.heap.size (.slice ap (n + 1) cp) (n + 1) (upd X n ⟨xa, xs, xd, xq, xp, xk⟩)) := own_below OW.out hb
      clear k0 k1 F hb HW OW K3
      have HW := HW'
      have OW := OW'
      clear HW' OW'
      go_wp2_with fail
      go_ret2
      obtain rfl : C = true := by rw [← hC.out, t1, t2, t3]; rfl
      exact ⟨HW.out, _, rfl, OW.out⟩
end Go.Proofs.Ytbmmokdccfajmaa.PO
