/-
  A setup whose three lists grow by append (the statements' Plain).
-/
import Derived.Maps.AppendAt
import Derived.ChangeOld
import Derived.ShutString
import Derived.Lib.SmallJoins
import Derived.ChangeMaps5
import Derived.Deep.Strs
import Derived.Test.YtfphjhmhiaepiaaGreatKJ
import Derived.Test.YtfphjhmhiaepiaaGreatKI
import Derived.Test.YtfphjhmhiaepiaaGreatKE
namespace Go.Proofs.YtfphjhmhiaepiaaGreat.RU
open Go.ChangeShapes Go.WideShapes Go.ChangeAt Go.RowKit Go.Lib

/-- Nine values: three lists, and the numbers of s. -/
def outF (v1 v2 v3 : Value) (s : Stp) : Nat → Value
  | 0 => v1
  | 1 => v2
  | 2 => v3
  | j => .int .i64 (s.P j)
theorem outF_0 (v1 v2 v3 v : Value) (s : Stp) : upd (outF v1 v2 v3 s) 0 v = outF v v2 v3 s := by
  funext j
  by_cases e : j = 0
  · subst e; rw [upd_same]; rfl
  · rw [upd_other _ _ e]
    rcases (show j = 1 ∨ j = 2 ∨ 3 ≤ j by omega) with rfl | rfl | h
    · rfl
    · rfl
    · obtain ⟨i, rfl⟩ : ∃ i, j = i + 3 := ⟨j - 3, by omega⟩
      rfl
theorem outF_1 (v1 v2 v3 v : Value) (s : Stp) : upd (outF v1 v2 v3 s) 1 v = outF v1 v v3 s := by
  funext j
  by_cases e : j = 1
  · subst e; rw [upd_same]; rfl
  · rw [upd_other _ _ e]
    rcases (show j = 0 ∨ j = 2 ∨ 3 ≤ j by omega) with rfl | rfl | h
    · rfl
    · rfl
    · obtain ⟨i, rfl⟩ : ∃ i, j = i + 3 := ⟨j - 3, by omega⟩
      rfl
theorem outF_2 (v1 v2 v3 v : Value) (s : Stp) : upd (outF v1 v2 v3 s) 2 v = outF v1 v2 v s := by
  funext j
  by_cases e : j = 2
  · subst e; rw [upd_same]; rfl
  · rw [upd_other _ _ e]
    rcases (show j = 0 ∨ j = 1 ∨ 3 ≤ j by omega) with rfl | rfl | h
    · rfl
    · rfl
    · obtain ⟨i, rfl⟩ : ∃ i, j = i + 3 := ⟨j - 3, by omega⟩
      rfl
/-- Block b holds a setup whose lists are the first k1, k2, k3 things of s, in memory newer than W0; all else is as it was. -/
structure PlAt (W0 w : World) (b : Nat) (s : Stp) (v1 v2 v3 : Value) (k1 k2 k3 : Nat) : Prop where
  box : Box9 w b (outF v1 v2 v3 s)
  o1 : w.ownsRow W0.heap.size 58 2 v1 k1 (allA s.A k1)
  o2 : w.ownsRow W0.heap.size 51 7 v2 k2 (allS s.S k2)
  o3 : w.ownsRow W0.heap.size 59 5 v3 k3 (allV s.V k3)
  p12 : ∀ g, v1.ownBlock = some g → v2.ownBlock = some g → False
  p13 : ∀ g, v1.ownBlock = some g → v3.ownBlock = some g → False
  p23 : ∀ g, v2.ownBlock = some g → v3.ownBlock = some g → False
  but : But (fun k => k = b) W0 w
  lb : b < W0.heap.size
theorem PlAt.still {W0 w w' : World} {b : Nat} {s : Stp} {v1 v2 v3 : Value} {k1 k2 k3 : Nat} (h : PlAt W0 w b s v1 v2 v3 k1 k2 k3) (k : Below w.heap.size w w') : PlAt W0 w' b s v1 v2 v3 k1 k2 k3 :=
  ⟨h.box.still k, own_below h.o1 k, own_below h.o2 k, own_below h.o3 k, h.p12, h.p13, h.p23, h.but.trans (But.of_below (S := fun _ => False) k) (fun _ _ e => e.elim), h.lb⟩
theorem own_not {w : World} {B b : Nat} {e : TypeId} {size : Nat} {v : Value} {n : Nat} {xs : List Value} (h : w.ownsRow B e size v n xs) (hb : b < B) : ∀ g, v.ownBlock = some g → ¬ g = b := fun g hg e => by have := (h.lt g hg).1; omega
theorem PlAt.moreA {W0 w w' : World} {b : Nat} {s : Stp} {v1 v2 v3 v' : Value} {k1 k2 k3 : Nat} (h : PlAt W0 w b s v1 v2 v3 k1 k2 k3) (hg : w.grownBy w' v1.ownBlock) (hown : w'.ownsRow W0.heap.size 58 2 v' (k1 + 1) (allA s.A k1 ++ cellsA (s.A k1))) (hat : v'.ownBlock = v1.ownBlock ∨ v'.ownBlock = some w.heap.size) :
    PlAt W0 (w'.setCell ⟨b, 0, none⟩ v') b s v' v2 v3 (k1 + 1) (k2) (k3) := by
  have BG := But.of_grown hg
  have BS : But (fun k => k = b) w' (w'.setCell ⟨b, 0, none⟩ v') := (But.refl _ _).setCell _ _ _ (fun _ => rfl)
  have hb := (h.box.kept BG (fun e => own_not h.o1 h.lb b e rfl)).set (show 0 < 9 by omega) v'
  rw [outF_0] at hb
  refine ⟨hb, own_kept hown BS (own_not hown h.lb), own_kept (own_kept h.o2 BG (fun g hg' e => h.p12 g e hg')) BS (own_not h.o2 h.lb), own_kept (own_kept h.o3 BG (fun g hg' e => h.p13 g e hg')) BS (own_not h.o3 h.lb), ?_, ?_, ?_, (h.but.trans BG (fun g hg' e => absurd (h.o1.lt g e).1 (by omega))).trans BS (fun _ _ e => e), h.lb⟩
  · intro g h1 h2
    rcases hat with e | e
    · exact h.p12 g (e ▸ h1) h2
    · rw [e] at h1
      injection h1 with h1
      have := (h.o2.lt g h2).2
      omega
  · intro g h1 h2
    rcases hat with e | e
    · exact h.p13 g (e ▸ h1) h2
    · rw [e] at h1
      injection h1 with h1
      have := (h.o3.lt g h2).2
      omega
  · exact h.p23
theorem cellRA_new (w : World) (x : It) (t : TypeId) : ∀ j u, (cellsA x)[j]? = some u → (w.alloc (.cells #[.string x.1, .int .i64 (x.2.1 1)] t)).cell? ((⟨w.heap.size, 0, none⟩ : Addr).add j) = some u := by
  intro j u hj
  rw [Addr.add_lit, Nat.zero_add]
  match j, hj with
  | 0, hj => simp [cellsA] at hj; subst hj; simp
  | 1, hj => simp [cellsA] at hj; subst hj; simp
  | j + 2, hj => simp [cellsA] at hj
theorem infoRA : (Tryz.prog.info? 58).map (fun i => (i.zero, i.size, i.bytes)) = some (some (.agg #[.string ⟨#[]⟩, .int .i64 0]), 2, 24) := by kernel_rfl
theorem PlAt.moreS {W0 w w' : World} {b : Nat} {s : Stp} {v1 v2 v3 v' : Value} {k1 k2 k3 : Nat} (h : PlAt W0 w b s v1 v2 v3 k1 k2 k3) (hg : w.grownBy w' v2.ownBlock) (hown : w'.ownsRow W0.heap.size 51 7 v' (k2 + 1) (allS s.S k2 ++ cellsS (s.S k2))) (hat : v'.ownBlock = v2.ownBlock ∨ v'.ownBlock = some w.heap.size) :
    PlAt W0 (w'.setCell ⟨b, 1, none⟩ v') b s v1 v' v3 (k1) (k2 + 1) (k3) := by
  have BG := But.of_grown hg
  have BS : But (fun k => k = b) w' (w'.setCell ⟨b, 1, none⟩ v') := (But.refl _ _).setCell _ _ _ (fun _ => rfl)
  have hb := (h.box.kept BG (fun e => own_not h.o2 h.lb b e rfl)).set (show 1 < 9 by omega) v'
  rw [outF_1] at hb
  refine ⟨hb, own_kept (own_kept h.o1 BG (fun g hg' e => h.p12 g hg' e)) BS (own_not h.o1 h.lb), own_kept hown BS (own_not hown h.lb), own_kept (own_kept h.o3 BG (fun g hg' e => h.p23 g e hg')) BS (own_not h.o3 h.lb), ?_, ?_, ?_, (h.but.trans BG (fun g hg' e => absurd (h.o2.lt g e).1 (by omega))).trans BS (fun _ _ e => e), h.lb⟩
  · intro g h1 h2
    rcases hat with e | e
    · exact h.p12 g h1 (e ▸ h2)
    · rw [e] at h2
      injection h2 with h2
      have := (h.o1.lt g h1).2
      omega
  · exact h.p13
  · intro g h1 h2
    rcases hat with e | e
    · exact h.p23 g (e ▸ h1) h2
    · rw [e] at h1
      injection h1 with h1
      have := (h.o3.lt g h2).2
      omega
theorem cellRS_new (w : World) (x : It) (t : TypeId) : ∀ j u, (cellsS x)[j]? = some u → (w.alloc (.cells #[.string x.1, .int .i64 (x.2.1 1), .int .i64 (x.2.1 2), .int .i64 (x.2.1 3), .int .i64 (x.2.1 4), .int .i64 (x.2.1 5), .int .i64 (x.2.1 6)] t)).cell? ((⟨w.heap.size, 0, none⟩ : Addr).add j) = some u := by
  intro j u hj
  rw [Addr.add_lit, Nat.zero_add]
  match j, hj with
  | 0, hj => simp [cellsS] at hj; subst hj; simp
  | 1, hj => simp [cellsS] at hj; subst hj; simp
  | 2, hj => simp [cellsS] at hj; subst hj; simp
  | 3, hj => simp [cellsS] at hj; subst hj; simp
  | 4, hj => simp [cellsS] at hj; subst hj; simp
  | 5, hj => simp [cellsS] at hj; subst hj; simp
  | 6, hj => simp [cellsS] at hj; subst hj; simp
  | j + 7, hj => simp [cellsS] at hj
theorem infoRS : (Tryz.prog.info? 51).map (fun i => (i.zero, i.size, i.bytes)) = some (some (.agg #[.string ⟨#[]⟩, .int .i64 0, .int .i64 0, .int .i64 0, .int .i64 0, .int .i64 0, .int .i64 0]), 7, 64) := by kernel_rfl
theorem PlAt.moreV {W0 w w' : World} {b : Nat} {s : Stp} {v1 v2 v3 v' : Value} {k1 k2 k3 : Nat} (h : PlAt W0 w b s v1 v2 v3 k1 k2 k3) (hg : w.grownBy w' v3.ownBlock) (hown : w'.ownsRow W0.heap.size 59 5 v' (k3 + 1) (allV s.V k3 ++ cellsV (s.V k3))) (hat : v'.ownBlock = v3.ownBlock ∨ v'.ownBlock = some w.heap.size) :
    PlAt W0 (w'.setCell ⟨b, 2, none⟩ v') b s v1 v2 v' (k1) (k2) (k3 + 1) := by
  have BG := But.of_grown hg
  have BS : But (fun k => k = b) w' (w'.setCell ⟨b, 2, none⟩ v') := (But.refl _ _).setCell _ _ _ (fun _ => rfl)
  have hb := (h.box.kept BG (fun e => own_not h.o3 h.lb b e rfl)).set (show 2 < 9 by omega) v'
  rw [outF_2] at hb
  refine ⟨hb, own_kept (own_kept h.o1 BG (fun g hg' e => h.p13 g hg' e)) BS (own_not h.o1 h.lb), own_kept (own_kept h.o2 BG (fun g hg' e => h.p23 g hg' e)) BS (own_not h.o2 h.lb), own_kept hown BS (own_not hown h.lb), ?_, ?_, ?_, (h.but.trans BG (fun g hg' e => absurd (h.o3.lt g e).1 (by omega))).trans BS (fun _ _ e => e), h.lb⟩
  · exact h.p12
  · intro g h1 h2
    rcases hat with e | e
    · exact h.p13 g h1 (e ▸ h2)
    · rw [e] at h2
      injection h2 with h2
      have := (h.o1.lt g h1).2
      omega
  · intro g h1 h2
    rcases hat with e | e
    · exact h.p23 g h1 (e ▸ h2)
    · rw [e] at h2
      injection h2 with h2
      have := (h.o2.lt g h1).2
      omega
theorem cellRV_new (w : World) (x : It) (t : TypeId) : ∀ j u, (cellsV x)[j]? = some u → (w.alloc (.cells #[.string x.1, .int .i64 (x.2.1 1), .int .i64 (x.2.1 2), .int .i64 (x.2.1 3), .bool x.2.2] t)).cell? ((⟨w.heap.size, 0, none⟩ : Addr).add j) = some u := by
  intro j u hj
  rw [Addr.add_lit, Nat.zero_add]
  match j, hj with
  | 0, hj => simp [cellsV] at hj; subst hj; simp
  | 1, hj => simp [cellsV] at hj; subst hj; simp
  | 2, hj => simp [cellsV] at hj; subst hj; simp
  | 3, hj => simp [cellsV] at hj; subst hj; simp
  | 4, hj => simp [cellsV] at hj; subst hj; simp
  | j + 5, hj => simp [cellsV] at hj
theorem infoRV : (Tryz.prog.info? 59).map (fun i => (i.zero, i.size, i.bytes)) = some (some (.agg #[.string ⟨#[]⟩, .int .i64 0, .int .i64 0, .int .i64 0, .bool false]), 5, 48) := by kernel_rfl
theorem box9_nil (w : World) (t : TypeId) : Box9 (w.alloc (.cells #[.slice none 0 0, .slice none 0 0, .slice none 0 0, .int .i64 0, .int .i64 0, .int .i64 0, .int .i64 0, .int .i64 0, .int .i64 0] t)) w.heap.size (fun j => if j < 3 then .slice none 0 0 else .int .i64 0) := by
  refine ⟨fun j hj => ?_, fun j => by simp⟩
  rcases (show j = 0 ∨ j = 1 ∨ j = 2 ∨ j = 3 ∨ j = 4 ∨ j = 5 ∨ j = 6 ∨ j = 7 ∨ j = 8 by omega) with rfl | rfl | rfl | rfl | rfl | rfl | rfl | rfl | rfl <;> simp
theorem box9_out (w : World) (s : Stp) (t : TypeId) : Box9 (w.alloc (.cells #[.slice none 0 0, .slice none 0 0, .slice none 0 0, .int .i64 (s.P 3), .int .i64 (s.P 4), .int .i64 (s.P 5), .int .i64 (s.P 6), .int .i64 (s.P 7), .int .i64 (s.P 8)] t)) w.heap.size (outF (.slice none 0 0) (.slice none 0 0) (.slice none 0 0) s) := by
  refine ⟨fun j hj => ?_, fun j => by simp⟩
  rcases (show j = 0 ∨ j = 1 ∨ j = 2 ∨ j = 3 ∨ j = 4 ∨ j = 5 ∨ j = 6 ∨ j = 7 ∨ j = 8 by omega) with rfl | rfl | rfl | rfl | rfl | rfl | rfl | rfl | rfl <;> simp [outF]
end Go.Proofs.YtfphjhmhiaepiaaGreat.RU
/-
  Contract of the statements' Plain: a setup as the document has it.
-/
namespace Go.Proofs.YtfphjhmhiaepiaaGreat.RU
open Go.ChangeShapes Go.WideShapes Go.ChangeAt Go.RowKit Go.Lib

set_option maxRecDepth 100000 in
set_option maxHeartbeats 16000000 in
theorem plain_any {w : World} {a1 a2 a3 : Option Addr} {c1 c2 c3 : Nat} {s : Stp} (h : SetIn w a1 a2 a3 c1 c2 c3 s) (l1 : s.nA ≤ 1000) (l2 : s.nS ≤ 1000) (l3 : s.nV ≤ 1000) :
    Calls Tryz.prog 6 #[.agg #[.slice a1 s.nA c1, .slice a2 s.nS c2, .slice a3 s.nV c3, .int .i64 (s.P 3), .int .i64 (s.P 4), .int .i64 (s.P 5), .int .i64 (s.P 6), .int .i64 (s.P 7), .int .i64 (s.P 8)]] w fun e w' => ∃ x1 x2 x3 y1 y2 y3, e = .returned (.agg #[.slice x1 s.nA y1, .slice x2 s.nS y2, .slice x3 s.nV y3, .int .i64 (s.P 3), .int .i64 (s.P 4), .int .i64 (s.P 5), .int .i64 (s.P 6), .int .i64 (s.P 7), .int .i64 (s.P 8)]) ∧ SetIn w' x1 x2 x3 y1 y2 y3 s ∧ Below w.heap.size w w' := by
  obtain ⟨i0, hi0, hz0, hs0, hb0⟩ := info_parts infoRA
  obtain ⟨i1, hi1, hz1, hs1, hb1⟩ := info_parts infoRS
  obtain ⟨i2, hi2, hz2, hs2, hb2⟩ := info_parts infoRV
  obtain ⟨W0, hW0⟩ : ∃ W, W = (((w.alloc (.cells #[.slice a1 s.nA c1, .slice a2 s.nS c2, .slice a3 s.nV c3, .int .i64 (s.P 3), .int .i64 (s.P 4), .int .i64 (s.P 5), .int .i64 (s.P 6), .int .i64 (s.P 7), .int .i64 (s.P 8)] 26)).alloc (.cells #[.slice none 0 0, .slice none 0 0, .slice none 0 0, .int .i64 0, .int .i64 0, .int .i64 0, .int .i64 0, .int .i64 0, .int .i64 0] 33)).alloc (.cells #[.slice none 0 0, .slice none 0 0, .slice none 0 0, .int .i64 (s.P 3), .int .i64 (s.P 4), .int .i64 (s.P 5), .int .i64 (s.P 6), .int .i64 (s.P 7), .int .i64 (s.P 8)] 33)) := ⟨_, rfl⟩
  have HB0 : Hid (Below w.heap.size w W0) := by show Below _ _ _; rw [hW0]; exact (((Below.refl _ _).alloc (Nat.le_refl _) _).alloc (by simp) _).alloc (by simp; omega) _
  have A0 : Hid (SetAt W0 w.heap.size a1 a2 a3 c1 c2 c3 s) := by
    show SetAt _ _ _ _ _ _ _ _ _
    rw [hW0]
    exact ((SetAt.box w a1 a2 a3 c1 c2 c3 s _).still ((Below.refl _ _).alloc (Nat.le_refl _) _) (by simp)).still ((Below.refl _ _).alloc (Nat.le_refl _) _) (by simp; omega)
  have Y0 : Hid (Box9 W0 (w.heap.size + 1) (fun j => if j < 3 then .slice none 0 0 else .int .i64 0)) := by
    show Box9 _ _ _
    rw [hW0]
    have h := (box9_nil (w.alloc (.cells #[.slice a1 s.nA c1, .slice a2 s.nS c2, .slice a3 s.nV c3, .int .i64 (s.P 3), .int .i64 (s.P 4), .int .i64 (s.P 5), .int .i64 (s.P 6), .int .i64 (s.P 7), .int .i64 (s.P 8)] 26)) 33).still ((Below.refl _ _).alloc (Nat.le_refl _) (.cells #[.slice none 0 0, .slice none 0 0, .slice none 0 0, .int .i64 (s.P 3), .int .i64 (s.P 4), .int .i64 (s.P 5), .int .i64 (s.P 6), .int .i64 (s.P 7), .int .i64 (s.P 8)] 33))
    rw [World.size_alloc] at h
    exact h
  have L0 : Hid (W0.heap.size = w.heap.size + 3) := by show W0.heap.size = _; rw [hW0]; simp
  have P0 : Hid (PlAt W0 W0 (w.heap.size + 2) s (.slice none 0 0) (.slice none 0 0) (.slice none 0 0) 0 0 0) := by
    refine ⟨?_, World.ownsRow_nil _ _ _ _, World.ownsRow_nil _ _ _ _, World.ownsRow_nil _ _ _ _, fun g h _ => by simp [Value.ownBlock] at h, fun g h _ => by simp [Value.ownBlock] at h, fun g h _ => by simp [Value.ownBlock] at h, But.refl _ _, by rw [L0.out]; omega⟩
    rw [hW0]
    have h := box9_out ((w.alloc (.cells #[.slice a1 s.nA c1, .slice a2 s.nS c2, .slice a3 s.nV c3, .int .i64 (s.P 3), .int .i64 (s.P 4), .int .i64 (s.P 5), .int .i64 (s.P 6), .int .i64 (s.P 7), .int .i64 (s.P 8)] 26)).alloc (.cells #[.slice none 0 0, .slice none 0 0, .slice none 0 0, .int .i64 0, .int .i64 0, .int .i64 0, .int .i64 0, .int .i64 0, .int .i64 0] 33)) s 33
    rw [World.size_alloc, World.size_alloc] at h
    exact h
  have HI : Hid (SetIn w a1 a2 a3 c1 c2 c3 s) := h
  clear h
  go_enter Tryz.func6, Tryz.ntmps6
  go_wp2_with fail
  rw [← hW0]
  clear hW0
  go_loopw [26] (fun c wr' => ∃ (k : Nat) (a' : Option Addr) (c' : Nat), c = .int .i64 (k : Int) ∧ k ≤ s.nA ∧ Hid (PlAt W0 wr' (w.heap.size + 2) s (.slice a' k c') (.slice none 0 0) (.slice none 0 0) k 0 0)) (fun c _ => s.nA - (RowKit.intOf c).toNat)
  case atStart => exact ⟨0, none, 0, rfl, Nat.zero_le _, P0⟩
  case round =>
    obtain ⟨k, q0, r0, rfl, hk, hP⟩ := hrel
    have BW : Below w.heap.size w wr := HB0.out.trans (hP.out.but.below HB0.out.size (fun j e => by omega))
    have HBW : Hid (Below w.heap.size w wr) := BW
    clear BW
    have e0 := hP.out.box.cell 0 (by omega)
    have z0 := hP.out.box.fz 0
    simp only [outF] at e0
    obtain ⟨xa, xc, e, xh1, xh2, xh3⟩ := HI.out.ra
    injection e with e1 _ e2
    subst e1 e2
    unfold maxLen at xh2
    by_cases hlt : k < s.nA
    · have t0 : (k : Int) < (s.nA : Int) := by omega
      obtain ⟨b, off, rfl, c0, c1⟩ := xh3 k hlt
      have f0 := (HBW.out.cell (World.block_lt_of_cell? _ _ c0)).trans c0
      have f1 := (HBW.out.cell (World.block_lt_of_cell? _ _ c1)).trans c1
      have P2 : Hid (PlAt W0 ((wr.alloc (.cells #[.string (s.A k).1, .int .i64 ((s.A k).2.1 1)] 55)).alloc (.cells #[.string (s.A k).1, .int .i64 ((s.A k).2.1 1)] 58)) (w.heap.size + 2) s (.slice q0 k r0) (.slice none 0 0) (.slice none 0 0) k 0 0) := hP.out.still (((Below.refl _ _).alloc (Nat.le_refl _) _).alloc (by simp) _)
      have hown := P2.out.o1
      have hcn := cellRA_new (wr.alloc (.cells #[.string (s.A k).1, .int .i64 ((s.A k).2.1 1)] 55)) (s.A k) 58
      rw [World.size_alloc] at hcn
      have e9 : (wr.alloc (.cells #[.string (s.A k).1, .int .i64 ((s.A k).2.1 1)] 55)).cell? ⟨w.heap.size + 2, 0, none⟩ = some (.slice q0 k r0) := (hP.out.still ((Below.refl _ _).alloc (Nat.le_refl _) _)).box.cell 0 (by omega)
      have hge := hP.out.but.size
      have hk2 : k ≤ 1000 := by omega
      have hone := cellsA_one (s.A k)
      obtain ⟨x, HX'⟩ : ∃ x, s.A k = x := ⟨_, rfl⟩
      have HX : Hid (s.A k = x) := HX'
      rw [HX'] at f0 f1 P2 hown hcn hone e9
      clear HX' xh3 xh1 xh2 hP c0 c1
      go_wp2_with (at_builtin; refine wpList_append_own_at _ rfl _ _ 29 rfl W0.heap.size 58 i0 (.agg #[.string ⟨#[]⟩, .int .i64 0]) 2 24 Tryz.underlying29 hi0 hz0 hs0 hb0 rfl (by decide) _ _ _ rfl hown ⟨wr.heap.size + 1, 0, none⟩ 1 1 (cellsA x) rfl rfl ?hnews ?hone ?h63 ?hbytes ?hbase ?_)
      case hnews => first | exact hcn | exact fun j u hj => hj
      case hone => exact hone
      case h63 => unfold maxLen; omega
      case hbytes => omega
      case hbase => first | omega | (simp; omega)
      intro v5 w5 hown5 hg5 _ hat5
      obtain ⟨a5, c5', rfl⟩ := own_shape hown5
      have Q5 : Hid (PlAt W0 (w5.setCell ⟨w.heap.size + 2, 0, none⟩ (.slice a5 (k + 1) c5')) (w.heap.size + 2) s (.slice a5 (k + 1) c5') (.slice none 0 0) (.slice none 0 0) (k + 1) 0 0) := P2.out.moreA hg5 (by rw [HX.out]; exact hown5) (by simpa only [World.size_alloc] using hat5)
      have BG := But.of_grown hg5
      have g0 : w5.cell? ⟨w.heap.size + 2, 0, none⟩ = some (.slice q0 k r0) := ((BG.cell P2.out.box.lt (fun e => own_not P2.out.o1 P2.out.lb _ e rfl)).trans (P2.out.box.cell 0 (by omega)))
      have g1 : w5.frozen? ⟨w.heap.size + 2, 0, none⟩ = false := ((BG.frozen P2.out.box.lt (fun e => own_not P2.out.o1 P2.out.lb _ e rfl)).trans (P2.out.box.fz 0))
      clear hown5 hg5 hown hcn P2 BG hat5 hone
      go_wp2_with fail
      go_roundw
      case rel => exact ⟨k + 1, a5, c5', by simp, by omega, Q5⟩
      case measure => simp [RowKit.intOf]; omega
    · have t0 : ¬ (k : Int) < (s.nA : Int) := by omega
      have hkn : k = s.nA := by omega
      have HK0 : Hid (k = s.nA) := hkn
      have PP1 : Hid (PlAt W0 wr (w.heap.size + 2) s (.slice q0 k r0) (.slice none 0 0) (.slice none 0 0) k 0 0) := hP
      have e1 : wr.cell? ⟨w.heap.size, 1, none⟩ = some (.slice a2 s.nS c2) := (hP.out.but.cell A0.out.lt (by omega)).trans A0.out.d1
      clear xh3 xh1 xh2 hP hkn e0 z0 HBW
      go_wp2_with fail
      go_loopw [40] (fun c wr' => ∃ (m : Nat) (a' : Option Addr) (c' : Nat), c = .int .i64 (m : Int) ∧ m ≤ s.nS ∧ Hid (PlAt W0 wr' (w.heap.size + 2) s (.slice q0 k r0) (.slice a' m c') (.slice none 0 0) k m 0)) (fun c _ => s.nS - (RowKit.intOf c).toNat)
      case atStart => exact ⟨0, none, 0, rfl, Nat.zero_le _, PP1⟩
      case round =>
        obtain ⟨m, q1, r1, rfl, hm, hP⟩ := hrel
        have BW : Below w.heap.size w wr := HB0.out.trans (hP.out.but.below HB0.out.size (fun j e => by omega))
        have HBW : Hid (Below w.heap.size w wr) := BW
        clear BW
        have e0 := hP.out.box.cell 1 (by omega)
        have z0 := hP.out.box.fz 1
        simp only [outF] at e0
        obtain ⟨xa, xc, e, xh1, xh2, xh3⟩ := HI.out.rs
        injection e with e1 _ e2
        subst e1 e2
        unfold maxLen at xh2
        by_cases hlt : m < s.nS
        · have t1 : (m : Int) < (s.nS : Int) := by omega
          obtain ⟨b, off, rfl, c0, c1, c2, c3, c4, c5, c6⟩ := xh3 m hlt
          have f0 := (HBW.out.cell (World.block_lt_of_cell? _ _ c0)).trans c0
          have f1 := (HBW.out.cell (World.block_lt_of_cell? _ _ c1)).trans c1
          have f2 := (HBW.out.cell (World.block_lt_of_cell? _ _ c2)).trans c2
          have f3 := (HBW.out.cell (World.block_lt_of_cell? _ _ c3)).trans c3
          have f4 := (HBW.out.cell (World.block_lt_of_cell? _ _ c4)).trans c4
          have f5 := (HBW.out.cell (World.block_lt_of_cell? _ _ c5)).trans c5
          have f6 := (HBW.out.cell (World.block_lt_of_cell? _ _ c6)).trans c6
          have P2 : Hid (PlAt W0 ((wr.alloc (.cells #[.string (s.S m).1, .int .i64 ((s.S m).2.1 1), .int .i64 ((s.S m).2.1 2), .int .i64 ((s.S m).2.1 3), .int .i64 ((s.S m).2.1 4), .int .i64 ((s.S m).2.1 5), .int .i64 ((s.S m).2.1 6)] 40)).alloc (.cells #[.string (s.S m).1, .int .i64 ((s.S m).2.1 1), .int .i64 ((s.S m).2.1 2), .int .i64 ((s.S m).2.1 3), .int .i64 ((s.S m).2.1 4), .int .i64 ((s.S m).2.1 5), .int .i64 ((s.S m).2.1 6)] 51)) (w.heap.size + 2) s (.slice q0 k r0) (.slice q1 m r1) (.slice none 0 0) k m 0) := hP.out.still (((Below.refl _ _).alloc (Nat.le_refl _) _).alloc (by simp) _)
          have hown := P2.out.o2
          have hcn := cellRS_new (wr.alloc (.cells #[.string (s.S m).1, .int .i64 ((s.S m).2.1 1), .int .i64 ((s.S m).2.1 2), .int .i64 ((s.S m).2.1 3), .int .i64 ((s.S m).2.1 4), .int .i64 ((s.S m).2.1 5), .int .i64 ((s.S m).2.1 6)] 40)) (s.S m) 51
          rw [World.size_alloc] at hcn
          have e9 : (wr.alloc (.cells #[.string (s.S m).1, .int .i64 ((s.S m).2.1 1), .int .i64 ((s.S m).2.1 2), .int .i64 ((s.S m).2.1 3), .int .i64 ((s.S m).2.1 4), .int .i64 ((s.S m).2.1 5), .int .i64 ((s.S m).2.1 6)] 40)).cell? ⟨w.heap.size + 2, 1, none⟩ = some (.slice q1 m r1) := (hP.out.still ((Below.refl _ _).alloc (Nat.le_refl _) _)).box.cell 1 (by omega)
          have hge := hP.out.but.size
          have hk2 : m ≤ 1000 := by omega
          have hone := cellsS_one (s.S m)
          obtain ⟨x, HX'⟩ : ∃ x, s.S m = x := ⟨_, rfl⟩
          have HX : Hid (s.S m = x) := HX'
          rw [HX'] at f0 f1 f2 f3 f4 f5 f6 P2 hown hcn hone e9
          clear HX' xh3 xh1 xh2 hP c0 c1 c2 c3 c4 c5 c6
          go_wp2_with (at_builtin; refine wpList_append_own_at _ rfl _ _ 30 rfl W0.heap.size 51 i1 (.agg #[.string ⟨#[]⟩, .int .i64 0, .int .i64 0, .int .i64 0, .int .i64 0, .int .i64 0, .int .i64 0]) 7 64 Tryz.underlying30 hi1 hz1 hs1 hb1 rfl (by decide) _ _ _ rfl hown ⟨wr.heap.size + 1, 0, none⟩ 1 1 (cellsS x) rfl rfl ?hnews ?hone ?h63 ?hbytes ?hbase ?_)
          case hnews => first | exact hcn | exact fun j u hj => hj
          case hone => exact hone
          case h63 => unfold maxLen; omega
          case hbytes => omega
          case hbase => first | omega | (simp; omega)
          intro v5 w5 hown5 hg5 _ hat5
          obtain ⟨a5, c5', rfl⟩ := own_shape hown5
          have Q5 : Hid (PlAt W0 (w5.setCell ⟨w.heap.size + 2, 1, none⟩ (.slice a5 (m + 1) c5')) (w.heap.size + 2) s (.slice q0 k r0) (.slice a5 (m + 1) c5') (.slice none 0 0) k (m + 1) 0) := P2.out.moreS hg5 (by rw [HX.out]; exact hown5) (by simpa only [World.size_alloc] using hat5)
          have BG := But.of_grown hg5
          have g0 : w5.cell? ⟨w.heap.size + 2, 1, none⟩ = some (.slice q1 m r1) := ((BG.cell P2.out.box.lt (fun e => own_not P2.out.o2 P2.out.lb _ e rfl)).trans (P2.out.box.cell 1 (by omega)))
          have g1 : w5.frozen? ⟨w.heap.size + 2, 1, none⟩ = false := ((BG.frozen P2.out.box.lt (fun e => own_not P2.out.o2 P2.out.lb _ e rfl)).trans (P2.out.box.fz 1))
          clear hown5 hg5 hown hcn P2 BG hat5 hone
          go_wp2_with fail
          go_roundw
          case rel => exact ⟨m + 1, a5, c5', by simp, by omega, Q5⟩
          case measure => simp [RowKit.intOf]; omega
        · have t1 : ¬ (m : Int) < (s.nS : Int) := by omega
          have hkn : m = s.nS := by omega
          have HK1 : Hid (m = s.nS) := hkn
          have PP2 : Hid (PlAt W0 wr (w.heap.size + 2) s (.slice q0 k r0) (.slice q1 m r1) (.slice none 0 0) k m 0) := hP
          have e1 : wr.cell? ⟨w.heap.size, 2, none⟩ = some (.slice a3 s.nV c3) := (hP.out.but.cell A0.out.lt (by omega)).trans A0.out.d2
          clear xh3 xh1 xh2 hP hkn e0 z0 HBW
          go_wp2_with fail
          go_loopw [54] (fun c wr' => ∃ (q : Nat) (a' : Option Addr) (c' : Nat), c = .int .i64 (q : Int) ∧ q ≤ s.nV ∧ Hid (PlAt W0 wr' (w.heap.size + 2) s (.slice q0 k r0) (.slice q1 m r1) (.slice a' q c') k m q)) (fun c _ => s.nV - (RowKit.intOf c).toNat)
          case atStart => exact ⟨0, none, 0, rfl, Nat.zero_le _, PP2⟩
          case round =>
            obtain ⟨q, q2, r2, rfl, hq, hP⟩ := hrel
            have BW : Below w.heap.size w wr := HB0.out.trans (hP.out.but.below HB0.out.size (fun j e => by omega))
            have HBW : Hid (Below w.heap.size w wr) := BW
            clear BW
            have e0 := hP.out.box.cell 2 (by omega)
            have z0 := hP.out.box.fz 2
            simp only [outF] at e0
            obtain ⟨xa, xc, e, xh1, xh2, xh3⟩ := HI.out.rv
            injection e with e1 _ e2
            subst e1 e2
            unfold maxLen at xh2
            by_cases hlt : q < s.nV
            · have t2 : (q : Int) < (s.nV : Int) := by omega
              obtain ⟨b, off, rfl, c0, c1, c2, c3, c4⟩ := xh3 q hlt
              have f0 := (HBW.out.cell (World.block_lt_of_cell? _ _ c0)).trans c0
              have f1 := (HBW.out.cell (World.block_lt_of_cell? _ _ c1)).trans c1
              have f2 := (HBW.out.cell (World.block_lt_of_cell? _ _ c2)).trans c2
              have f3 := (HBW.out.cell (World.block_lt_of_cell? _ _ c3)).trans c3
              have f4 := (HBW.out.cell (World.block_lt_of_cell? _ _ c4)).trans c4
              have P2 : Hid (PlAt W0 ((wr.alloc (.cells #[.string (s.V q).1, .int .i64 ((s.V q).2.1 1), .int .i64 ((s.V q).2.1 2), .int .i64 ((s.V q).2.1 3), .bool (s.V q).2.2] 57)).alloc (.cells #[.string (s.V q).1, .int .i64 ((s.V q).2.1 1), .int .i64 ((s.V q).2.1 2), .int .i64 ((s.V q).2.1 3), .bool (s.V q).2.2] 59)) (w.heap.size + 2) s (.slice q0 k r0) (.slice q1 m r1) (.slice q2 q r2) k m q) := hP.out.still (((Below.refl _ _).alloc (Nat.le_refl _) _).alloc (by simp) _)
              have hown := P2.out.o3
              have hcn := cellRV_new (wr.alloc (.cells #[.string (s.V q).1, .int .i64 ((s.V q).2.1 1), .int .i64 ((s.V q).2.1 2), .int .i64 ((s.V q).2.1 3), .bool (s.V q).2.2] 57)) (s.V q) 59
              rw [World.size_alloc] at hcn
              have e9 : (wr.alloc (.cells #[.string (s.V q).1, .int .i64 ((s.V q).2.1 1), .int .i64 ((s.V q).2.1 2), .int .i64 ((s.V q).2.1 3), .bool (s.V q).2.2] 57)).cell? ⟨w.heap.size + 2, 2, none⟩ = some (.slice q2 q r2) := (hP.out.still ((Below.refl _ _).alloc (Nat.le_refl _) _)).box.cell 2 (by omega)
              have hge := hP.out.but.size
              have hk2 : q ≤ 1000 := by omega
              have hone := cellsV_one (s.V q)
              obtain ⟨x, HX'⟩ : ∃ x, s.V q = x := ⟨_, rfl⟩
              have HX : Hid (s.V q = x) := HX'
              rw [HX'] at f0 f1 f2 f3 f4 P2 hown hcn hone e9
              clear HX' xh3 xh1 xh2 hP c0 c1 c2 c3 c4
              go_wp2_with (at_builtin; refine wpList_append_own_at _ rfl _ _ 31 rfl W0.heap.size 59 i2 (.agg #[.string ⟨#[]⟩, .int .i64 0, .int .i64 0, .int .i64 0, .bool false]) 5 48 Tryz.underlying31 hi2 hz2 hs2 hb2 rfl (by decide) _ _ _ rfl hown ⟨wr.heap.size + 1, 0, none⟩ 1 1 (cellsV x) rfl rfl ?hnews ?hone ?h63 ?hbytes ?hbase ?_)
              case hnews => first | exact hcn | exact fun j u hj => hj
              case hone => exact hone
              case h63 => unfold maxLen; omega
              case hbytes => omega
              case hbase => first | omega | (simp; omega)
              intro v5 w5 hown5 hg5 _ hat5
              obtain ⟨a5, c5', rfl⟩ := own_shape hown5
              have Q5 : Hid (PlAt W0 (w5.setCell ⟨w.heap.size + 2, 2, none⟩ (.slice a5 (q + 1) c5')) (w.heap.size + 2) s (.slice q0 k r0) (.slice q1 m r1) (.slice a5 (q + 1) c5') k m (q + 1)) := P2.out.moreV hg5 (by rw [HX.out]; exact hown5) (by simpa only [World.size_alloc] using hat5)
              have BG := But.of_grown hg5
              have g0 : w5.cell? ⟨w.heap.size + 2, 2, none⟩ = some (.slice q2 q r2) := ((BG.cell P2.out.box.lt (fun e => own_not P2.out.o3 P2.out.lb _ e rfl)).trans (P2.out.box.cell 2 (by omega)))
              have g1 : w5.frozen? ⟨w.heap.size + 2, 2, none⟩ = false := ((BG.frozen P2.out.box.lt (fun e => own_not P2.out.o3 P2.out.lb _ e rfl)).trans (P2.out.box.fz 2))
              clear hown5 hg5 hown hcn P2 BG hat5 hone
              go_wp2_with fail
              go_roundw
              case rel => exact ⟨q + 1, a5, c5', by simp, by omega, Q5⟩
              case measure => simp [RowKit.intOf]; omega
            · have t2 : ¬ (q : Int) < (s.nV : Int) := by omega
              have hkn : q = s.nV := by omega
              have HK2 : Hid (q = s.nV) := hkn
              have PP3 : Hid (PlAt W0 wr (w.heap.size + 2) s (.slice q0 k r0) (.slice q1 m r1) (.slice q2 q r2) k m q) := hP
              clear xh3 xh1 xh2 hP hkn e0 z0
              have d0 : wr.cell? ⟨w.heap.size + 2, 0, none⟩ = some (.slice q0 k r0) := PP3.out.box.cell 0 (by omega)
              have d1 : wr.cell? ⟨w.heap.size + 2, 1, none⟩ = some (.slice q1 m r1) := PP3.out.box.cell 1 (by omega)
              have d2 : wr.cell? ⟨w.heap.size + 2, 2, none⟩ = some (.slice q2 q r2) := PP3.out.box.cell 2 (by omega)
              have d3 : wr.cell? ⟨w.heap.size + 2, 3, none⟩ = some (.int .i64 (s.P 3)) := PP3.out.box.cell 3 (by omega)
              have d4 : wr.cell? ⟨w.heap.size + 2, 4, none⟩ = some (.int .i64 (s.P 4)) := PP3.out.box.cell 4 (by omega)
              have d5 : wr.cell? ⟨w.heap.size + 2, 5, none⟩ = some (.int .i64 (s.P 5)) := PP3.out.box.cell 5 (by omega)
              have d6 : wr.cell? ⟨w.heap.size + 2, 6, none⟩ = some (.int .i64 (s.P 6)) := PP3.out.box.cell 6 (by omega)
              have d7 : wr.cell? ⟨w.heap.size + 2, 7, none⟩ = some (.int .i64 (s.P 7)) := PP3.out.box.cell 7 (by omega)
              have d8 : wr.cell? ⟨w.heap.size + 2, 8, none⟩ = some (.int .i64 (s.P 8)) := PP3.out.box.cell 8 (by omega)
              have YY : Hid (Box9 wr (w.heap.size + 1) (fun j => if j < 3 then .slice none 0 0 else .int .i64 0)) := Y0.out.kept PP3.out.but (by omega)
              have r0' : wr.cell? ⟨w.heap.size + 1, 0, none⟩ = some (.slice none 0 0) := YY.out.cell 0 (by omega)
              have r1' : wr.cell? ⟨w.heap.size + 1, 1, none⟩ = some (.slice none 0 0) := YY.out.cell 1 (by omega)
              have r2' : wr.cell? ⟨w.heap.size + 1, 2, none⟩ = some (.slice none 0 0) := YY.out.cell 2 (by omega)
              have r3' : wr.cell? ⟨w.heap.size + 1, 3, none⟩ = some (.int .i64 0) := YY.out.cell 3 (by omega)
              have r4' : wr.cell? ⟨w.heap.size + 1, 4, none⟩ = some (.int .i64 0) := YY.out.cell 4 (by omega)
              have r5' : wr.cell? ⟨w.heap.size + 1, 5, none⟩ = some (.int .i64 0) := YY.out.cell 5 (by omega)
              have r6' : wr.cell? ⟨w.heap.size + 1, 6, none⟩ = some (.int .i64 0) := YY.out.cell 6 (by omega)
              have r7' : wr.cell? ⟨w.heap.size + 1, 7, none⟩ = some (.int .i64 0) := YY.out.cell 7 (by omega)
              have r8' : wr.cell? ⟨w.heap.size + 1, 8, none⟩ = some (.int .i64 0) := YY.out.cell 8 (by omega)
              have z1 : ∀ j, wr.frozen? ⟨w.heap.size + 1, j, none⟩ = false := YY.out.fz
              have PX : Hid (Box9 (put9 wr (w.heap.size + 1) (outF (.slice q0 k r0) (.slice q1 m r1) (.slice q2 q r2) s)) (w.heap.size + 1) (outF (.slice q0 k r0) (.slice q1 m r1) (.slice q2 q r2) s)) := put9_at YY.out _
              have PB : Hid (But (fun j => j = w.heap.size + 1) wr (put9 wr (w.heap.size + 1) (outF (.slice q0 k r0) (.slice q1 m r1) (.slice q2 q r2) s))) := put9_but _ _ _
              unfold put9 at PX PB
              simp only [outF] at PX PB
              go_wp2_with fail
              generalize hV : World.setCell _ ⟨w.heap.size + 1, 8, none⟩ _ = V'
              rw [hV] at PX PB
              have BV : Below w.heap.size w V' := HBW.out.trans (PB.out.below HBW.out.size (fun i e => by omega))
              have s0 : V'.cell? ⟨w.heap.size + 1, 0, none⟩ = some (.slice q0 k r0) := PX.out.cell 0 (by omega)
              have s1 : V'.cell? ⟨w.heap.size + 1, 1, none⟩ = some (.slice q1 m r1) := PX.out.cell 1 (by omega)
              have s2 : V'.cell? ⟨w.heap.size + 1, 2, none⟩ = some (.slice q2 q r2) := PX.out.cell 2 (by omega)
              have s3 : V'.cell? ⟨w.heap.size + 1, 3, none⟩ = some (.int .i64 (s.P 3)) := PX.out.cell 3 (by omega)
              have s4 : V'.cell? ⟨w.heap.size + 1, 4, none⟩ = some (.int .i64 (s.P 4)) := PX.out.cell 4 (by omega)
              have s5 : V'.cell? ⟨w.heap.size + 1, 5, none⟩ = some (.int .i64 (s.P 5)) := PX.out.cell 5 (by omega)
              have s6 : V'.cell? ⟨w.heap.size + 1, 6, none⟩ = some (.int .i64 (s.P 6)) := PX.out.cell 6 (by omega)
              have s7 : V'.cell? ⟨w.heap.size + 1, 7, none⟩ = some (.int .i64 (s.P 7)) := PX.out.cell 7 (by omega)
              have s8 : V'.cell? ⟨w.heap.size + 1, 8, none⟩ = some (.int .i64 (s.P 8)) := PX.out.cell 8 (by omega)
              refine bodyPost_ret (v := .agg #[.slice q0 k r0, .slice q1 m r1, .slice q2 q r2, .int .i64 (s.P 3), .int .i64 (s.P 4), .int .i64 (s.P 5), .int .i64 (s.P 6), .int .i64 (s.P 7), .int .i64 (s.P 8)]) (by simp [results, Tryz.results6, go_sem, s0, s1, s2, s3, s4, s5, s6, s7, s8]) rfl ?_
              have O0 := own_kept PP3.out.o1 PB.out (fun g hg e => by have h1 := (PP3.out.o1.lt g hg).1; have h2 := L0.out; omega)
              have O1 := own_kept PP3.out.o2 PB.out (fun g hg e => by have h1 := (PP3.out.o2.lt g hg).1; have h2 := L0.out; omega)
              have O2 := own_kept PP3.out.o3 PB.out (fun g hg e => by have h1 := (PP3.out.o3.lt g hg).1; have h2 := L0.out; omega)
              rw [HK0.out] at O0
              rw [HK1.out] at O1
              rw [HK2.out] at O2
              exact ⟨q0, q1, q2, r0, r1, r2, by rw [HK0.out, HK1.out, HK2.out], ⟨rowA_of_own O0, rowS_of_own O1, rowV_of_own O2⟩, BV⟩
end Go.Proofs.YtfphjhmhiaepiaaGreat.RU
/-
  Contract of the statements' few: a setup that a play goes through with.
-/
namespace Go.Proofs.YtfphjhmhiaepiaaGreat.RU
open Go.ChangeShapes Go.WideShapes Go.ChangeAt Go.RowKit Go.Lib

/-- The first n have short names. -/
def shortB (g : Nat → It) (n : Nat) : Bool := allB n fun i => decide ((g i).1.size ≤ 200)
def fewB (s : Stp) : Bool := decide (s.nA ≤ 40) && (decide (s.nS ≤ 40) && (decide (s.nV ≤ 40) && (shortB s.A s.nA && (shortB s.S s.nS && shortB s.V s.nV))))
theorem short_get {g : Nat → It} {n : Nat} (h : shortB g n = true) {i : Nat} (hi : i < n) : (g i).1.size ≤ 200 := of_decide_eq_true (allB_get h hi)
theorem few_get {s : Stp} (h : fewB s = true) : (s.nA ≤ 40 ∧ s.nS ≤ 40 ∧ s.nV ≤ 40) ∧ shortB s.A s.nA = true ∧ shortB s.S s.nS = true ∧ shortB s.V s.nV = true := by
  unfold fewB at h
  simp only [Bool.and_eq_true, decide_eq_true_eq] at h
  exact ⟨⟨h.1, h.2.1, h.2.2.1⟩, h.2.2.2.1, h.2.2.2.2.1, h.2.2.2.2.2⟩
theorem few_all {s : Stp} (h1 : s.nA ≤ 40) (h2 : s.nS ≤ 40) (h3 : s.nV ≤ 40) (k1 : ∀ i, i < s.nA → (s.A i).1.size ≤ 200) (k2 : ∀ i, i < s.nS → (s.S i).1.size ≤ 200) (k3 : ∀ i, i < s.nV → (s.V i).1.size ≤ 200) : fewB s = true := by
  unfold fewB shortB
  rw [allB_true (fun i hi => decide_eq_true (k1 i hi)), allB_true (fun i hi => decide_eq_true (k2 i hi)), allB_true (fun i hi => decide_eq_true (k3 i hi))]
  simp [h1, h2, h3]
theorem few_not {s : Stp} (h : ¬ (fewB s = true)) : fewB s = false := by simpa using h
set_option maxRecDepth 100000 in
set_option maxHeartbeats 16000000 in
theorem few15_any {w : World} {a1 a2 a3 : Option Addr} {c1 c2 c3 : Nat} {s : Stp} (h : SetIn w a1 a2 a3 c1 c2 c3 s) :
    Calls Tryz.prog 5 #[.agg #[.slice a1 s.nA c1, .slice a2 s.nS c2, .slice a3 s.nV c3, .int .i64 (s.P 3), .int .i64 (s.P 4), .int .i64 (s.P 5), .int .i64 (s.P 6), .int .i64 (s.P 7), .int .i64 (s.P 8)]] w fun e w' => e = .returned (.bool (fewB s)) ∧ Below w.heap.size w w' := by
  have HB0 : Hid (Below w.heap.size w (w.alloc (.cells #[.slice a1 s.nA c1, .slice a2 s.nS c2, .slice a3 s.nV c3, .int .i64 (s.P 3), .int .i64 (s.P 4), .int .i64 (s.P 5), .int .i64 (s.P 6), .int .i64 (s.P 7), .int .i64 (s.P 8)] 26))) := (Below.refl _ _).alloc (Nat.le_refl _) _
  have A0 : Hid (SetAt (w.alloc (.cells #[.slice a1 s.nA c1, .slice a2 s.nS c2, .slice a3 s.nV c3, .int .i64 (s.P 3), .int .i64 (s.P 4), .int .i64 (s.P 5), .int .i64 (s.P 6), .int .i64 (s.P 7), .int .i64 (s.P 8)] 26)) w.heap.size a1 a2 a3 c1 c2 c3 s) := SetAt.box w a1 a2 a3 c1 c2 c3 s _
  have HI : Hid (SetIn w a1 a2 a3 c1 c2 c3 s) := h
  clear h
  obtain ⟨Z, hZ⟩ : ∃ Z, Hid (fewB s = Z) := ⟨_, rfl⟩
  rw [show fewB s = Z from hZ.out]
  by_cases k0 : s.nA ≤ 40
  rotate_left
  · have t0 : ¬ (s.nA : Int) ≤ 40 := by omega
    have u0 : (40 : Int) < (s.nA : Int) := by omega
    have hz : Hid (Z = false) := hZ.out.symm.trans (few_not (fun e => absurd (few_get e).1.1 (by omega)))
    go_enter Tryz.func5, Tryz.ntmps5
    go_wp2_with fail
    go_ret
    exact ⟨by rw [hz.out]; rfl, HB0.out⟩
  have t0 : ¬ (40 : Int) < (s.nA : Int) := by omega
  by_cases k1 : s.nS ≤ 40
  rotate_left
  · have t1 : ¬ (s.nS : Int) ≤ 40 := by omega
    have u1 : (40 : Int) < (s.nS : Int) := by omega
    have hz : Hid (Z = false) := hZ.out.symm.trans (few_not (fun e => absurd (few_get e).1.2.1 (by omega)))
    go_enter Tryz.func5, Tryz.ntmps5
    go_wp2_with fail
    go_ret
    exact ⟨by rw [hz.out]; rfl, HB0.out⟩
  have t1 : ¬ (40 : Int) < (s.nS : Int) := by omega
  by_cases k2 : s.nV ≤ 40
  rotate_left
  · have t2 : ¬ (s.nV : Int) ≤ 40 := by omega
    have u2 : (40 : Int) < (s.nV : Int) := by omega
    have hz : Hid (Z = false) := hZ.out.symm.trans (few_not (fun e => absurd (few_get e).1.2.2 (by omega)))
    go_enter Tryz.func5, Tryz.ntmps5
    go_wp2_with fail
    go_ret
    exact ⟨by rw [hz.out]; rfl, HB0.out⟩
  have t2 : ¬ (40 : Int) < (s.nV : Int) := by omega
  obtain ⟨W0, hW0⟩ : ∃ W, W = (w.alloc (.cells #[.slice a1 s.nA c1, .slice a2 s.nS c2, .slice a3 s.nV c3, .int .i64 (s.P 3), .int .i64 (s.P 4), .int .i64 (s.P 5), .int .i64 (s.P 6), .int .i64 (s.P 7), .int .i64 (s.P 8)] 26)) := ⟨_, rfl⟩
  rw [← hW0] at HB0 A0
  have d0 := A0.out.d0
  go_enter Tryz.func5, Tryz.ntmps5
  go_wp2_with fail
  rw [← hW0]
  clear hW0
  go_loopw [28] (fun c wr' => ∃ k : Nat, c = .int .i64 (k : Int) ∧ k ≤ s.nA ∧ Hid (∀ i, i < k → (s.A i).1.size ≤ 200) ∧ Hid (Below W0.heap.size W0 wr')) (fun c _ => s.nA - (RowKit.intOf c).toNat)
  case atStart => exact ⟨0, rfl, Nat.zero_le _, fun i hi => absurd hi (by omega), Below.refl _ _⟩
  case round =>
    obtain ⟨k, rfl, hk, hf, hB⟩ := hrel
    have HBW : Hid (Below w.heap.size w wr) := HB0.out.trans (hB.out.mono HB0.out.size)
    obtain ⟨xa, xc, e, xh1, xh2, xh3⟩ := HI.out.ra
    injection e with e1 _ e2
    subst e1 e2
    unfold maxLen at xh2
    have hge := hB.out.size
    have hge2 := HBW.out.size
    by_cases hlt : k < s.nA
    · have t : (k : Int) < (s.nA : Int) := by omega
      obtain ⟨b, off, rfl, c0, c1⟩ := xh3 k hlt
      have f0 := (HBW.out.cell (World.block_lt_of_cell? _ _ c0)).trans c0
      have f1 := (HBW.out.cell (World.block_lt_of_cell? _ _ c1)).trans c1
      by_cases hsz : (s.A k).1.size ≤ 200
      · have HF : Hid (∀ i, i < k + 1 → (s.A i).1.size ≤ 200) := fun i hi => if e : i = k then by subst e; exact hsz else hf.out i (by omega)
        have u : ¬ (200 : Int) < ((s.A k).1.size : Int) := by omega
        clear xh3 hf c0 c1
        generalize s.A k = x at *
        go_wp2_with fail
        go_roundw
        case rel => exact ⟨k + 1, by simp, by omega, HF, hB.out.alloc hge _⟩
        case measure => simp [RowKit.intOf]; omega
      · have hz : Hid (Z = false) := hZ.out.symm.trans (few_not (fun e => hsz (short_get (few_get e).2.1 hlt)))
        have u : (200 : Int) < ((s.A k).1.size : Int) := by omega
        clear xh3 hf hsz c0 c1
        generalize s.A k = x at *
        go_wp2_with fail
        go_ret
        exact ⟨by rw [hz.out]; rfl, HBW.out.alloc hge2 _⟩
    · have t : ¬ (k : Int) < (s.nA : Int) := by omega
      have HF0 : Hid (∀ i, i < s.nA → (s.A i).1.size ≤ 200) := fun i hi => hf.out i (by omega)
      have HP1 : Hid (Below W0.heap.size W0 wr) := hB
      have g0 : wr.cell? ⟨w.heap.size, 1, none⟩ = some (.slice a2 s.nS c2) := (hB.out.cell A0.out.lt).trans A0.out.d1
      clear xh3 xh1 xh2 hf hB
      go_wp2_with fail
      go_loopw [40] (fun c wr' => ∃ m : Nat, c = .int .i64 (m : Int) ∧ m ≤ s.nS ∧ Hid (∀ i, i < m → (s.S i).1.size ≤ 200) ∧ Hid (Below W0.heap.size W0 wr')) (fun c _ => s.nS - (RowKit.intOf c).toNat)
      case atStart => exact ⟨0, rfl, Nat.zero_le _, fun i hi => absurd hi (by omega), HP1⟩
      case round =>
        obtain ⟨m, rfl, hm, hf, hB⟩ := hrel
        have HBW : Hid (Below w.heap.size w wr) := HB0.out.trans (hB.out.mono HB0.out.size)
        obtain ⟨xa, xc, e, xh1, xh2, xh3⟩ := HI.out.rs
        injection e with e1 _ e2
        subst e1 e2
        unfold maxLen at xh2
        have hge := hB.out.size
        have hge2 := HBW.out.size
        by_cases hlt : m < s.nS
        · have t : (m : Int) < (s.nS : Int) := by omega
          obtain ⟨b, off, rfl, c0, c1, c2, c3, c4, c5, c6⟩ := xh3 m hlt
          have f0 := (HBW.out.cell (World.block_lt_of_cell? _ _ c0)).trans c0
          have f1 := (HBW.out.cell (World.block_lt_of_cell? _ _ c1)).trans c1
          have f2 := (HBW.out.cell (World.block_lt_of_cell? _ _ c2)).trans c2
          have f3 := (HBW.out.cell (World.block_lt_of_cell? _ _ c3)).trans c3
          have f4 := (HBW.out.cell (World.block_lt_of_cell? _ _ c4)).trans c4
          have f5 := (HBW.out.cell (World.block_lt_of_cell? _ _ c5)).trans c5
          have f6 := (HBW.out.cell (World.block_lt_of_cell? _ _ c6)).trans c6
          by_cases hsz : (s.S m).1.size ≤ 200
          · have HF : Hid (∀ i, i < m + 1 → (s.S i).1.size ≤ 200) := fun i hi => if e : i = m then by subst e; exact hsz else hf.out i (by omega)
            have u : ¬ (200 : Int) < ((s.S m).1.size : Int) := by omega
            clear xh3 hf c0 c1 c2 c3 c4 c5 c6
            generalize s.S m = x at *
            go_wp2_with fail
            go_roundw
            case rel => exact ⟨m + 1, by simp, by omega, HF, hB.out.alloc hge _⟩
            case measure => simp [RowKit.intOf]; omega
          · have hz : Hid (Z = false) := hZ.out.symm.trans (few_not (fun e => hsz (short_get (few_get e).2.2.1 hlt)))
            have u : (200 : Int) < ((s.S m).1.size : Int) := by omega
            clear xh3 hf hsz c0 c1 c2 c3 c4 c5 c6
            generalize s.S m = x at *
            go_wp2_with fail
            go_ret
            exact ⟨by rw [hz.out]; rfl, HBW.out.alloc hge2 _⟩
        · have t : ¬ (m : Int) < (s.nS : Int) := by omega
          have HF1 : Hid (∀ i, i < s.nS → (s.S i).1.size ≤ 200) := fun i hi => hf.out i (by omega)
          have HP2 : Hid (Below W0.heap.size W0 wr) := hB
          have g0 : wr.cell? ⟨w.heap.size, 2, none⟩ = some (.slice a3 s.nV c3) := (hB.out.cell A0.out.lt).trans A0.out.d2
          clear xh3 xh1 xh2 hf hB
          go_wp2_with fail
          go_loopw [52] (fun c wr' => ∃ q : Nat, c = .int .i64 (q : Int) ∧ q ≤ s.nV ∧ Hid (∀ i, i < q → (s.V i).1.size ≤ 200) ∧ Hid (Below W0.heap.size W0 wr')) (fun c _ => s.nV - (RowKit.intOf c).toNat)
          case atStart => exact ⟨0, rfl, Nat.zero_le _, fun i hi => absurd hi (by omega), HP2⟩
          case round =>
            obtain ⟨q, rfl, hq, hf, hB⟩ := hrel
            have HBW : Hid (Below w.heap.size w wr) := HB0.out.trans (hB.out.mono HB0.out.size)
            obtain ⟨xa, xc, e, xh1, xh2, xh3⟩ := HI.out.rv
            injection e with e1 _ e2
            subst e1 e2
            unfold maxLen at xh2
            have hge := hB.out.size
            have hge2 := HBW.out.size
            by_cases hlt : q < s.nV
            · have t : (q : Int) < (s.nV : Int) := by omega
              obtain ⟨b, off, rfl, c0, c1, c2, c3, c4⟩ := xh3 q hlt
              have f0 := (HBW.out.cell (World.block_lt_of_cell? _ _ c0)).trans c0
              have f1 := (HBW.out.cell (World.block_lt_of_cell? _ _ c1)).trans c1
              have f2 := (HBW.out.cell (World.block_lt_of_cell? _ _ c2)).trans c2
              have f3 := (HBW.out.cell (World.block_lt_of_cell? _ _ c3)).trans c3
              have f4 := (HBW.out.cell (World.block_lt_of_cell? _ _ c4)).trans c4
              by_cases hsz : (s.V q).1.size ≤ 200
              · have HF : Hid (∀ i, i < q + 1 → (s.V i).1.size ≤ 200) := fun i hi => if e : i = q then by subst e; exact hsz else hf.out i (by omega)
                have u : ¬ (200 : Int) < ((s.V q).1.size : Int) := by omega
                clear xh3 hf c0 c1 c2 c3 c4
                generalize s.V q = x at *
                go_wp2_with fail
                go_roundw
                case rel => exact ⟨q + 1, by simp, by omega, HF, hB.out.alloc hge _⟩
                case measure => simp [RowKit.intOf]; omega
              · have hz : Hid (Z = false) := hZ.out.symm.trans (few_not (fun e => hsz (short_get (few_get e).2.2.2 hlt)))
                have u : (200 : Int) < ((s.V q).1.size : Int) := by omega
                clear xh3 hf hsz c0 c1 c2 c3 c4
                generalize s.V q = x at *
                go_wp2_with fail
                go_ret
                exact ⟨by rw [hz.out]; rfl, HBW.out.alloc hge2 _⟩
            · have t : ¬ (q : Int) < (s.nV : Int) := by omega
              have HF2 : Hid (∀ i, i < s.nV → (s.V i).1.size ≤ 200) := fun i hi => hf.out i (by omega)
              have hz : Hid (Z = true) := hZ.out.symm.trans (few_all k0 k1 k2 HF0.out HF1.out HF2.out)
              clear xh3 xh1 xh2 hf
              go_wp2_with fail
              go_ret
              exact ⟨by rw [hz.out]; rfl, HBW.out⟩
end Go.Proofs.YtfphjhmhiaepiaaGreat.RU
/-
  How a slice of ints that comes in reads: as a row, with 0 beyond its end.
-/
namespace Go.Proofs.YtfphjhmhiaepiaaGreat
open Go.ChangeShapes Go.WideShapes Go.ChangeAt Go.RowKit

theorem row_none (W : World) : ∃ f : Nat → Int, Row W (.slice none 0 0) 0 (fun i => .int .i64 (f i)) ∧ (∀ i, 0 ≤ i → f i = 0) ∧ ∀ i, -9223372036854775808 ≤ f i ∧ f i ≤ 9223372036854775807 :=
  ⟨fun _ => 0, ⟨none, 0, rfl, Nat.le_refl _, by unfold maxLen; omega, fun i hi => absurd hi (by omega)⟩, fun _ _ => rfl, fun _ => by dsimp only; omega⟩
theorem row_some {W : World} {x : Addr} {len cap : Nat} {zs : List Int} (hl : len ≤ cap) (hm : cap ≤ maxLen) (hz : zs.length = cap) (hcell : ∀ i, i < zs.length → W.cell? (x.add i) = some (.int .i64 (zs.getD i 0))) (hb : ∀ z ∈ zs, -9223372036854775808 ≤ z ∧ z ≤ 9223372036854775807) :
    ∃ f : Nat → Int, Row W (.slice (some x) len cap) len (fun i => .int .i64 (f i)) ∧ (∀ i, len ≤ i → f i = 0) ∧ ∀ i, -9223372036854775808 ≤ f i ∧ f i ≤ 9223372036854775807 := by
  refine ⟨fun i => if i < len then zs.getD i 0 else 0, ⟨some x, cap, rfl, hl, hm, fun i hi => ?_⟩, fun i hi => if_neg (by omega), fun i => ?_⟩
  · have hc := hcell i (by omega)
    obtain ⟨b, off, spot⟩ := x
    have hspot : spot = none := by
      simpa [Addr.add] using World.cell?_spot (hcell 0 (by omega))
    subst hspot
    refine ⟨b, off, rfl, ?_⟩
    have e : (⟨b, off, none⟩ : Addr).add i = ⟨b, off + i, none⟩ := by unfold Addr.add; split <;> simp_all
    rw [e] at hc
    show _ = some (Value.int .i64 (if i < len then _ else _))
    rw [if_pos hi]
    exact hc
  · show _ ≤ (if i < len then zs.getD i 0 else 0) ∧ (if i < len then zs.getD i 0 else 0) ≤ _
    by_cases hi : i < len
    · rw [if_pos hi]
      have hi' : i < zs.length := by omega
      rw [show zs.getD i 0 = zs[i] from by simp [hi']]
      exact hb _ (List.getElem_mem hi')
    · rw [if_neg hi]; omega
end Go.Proofs.YtfphjhmhiaepiaaGreat
/-
  A setup that comes in by value: what it holds.
-/
namespace Go.Proofs.YtfphjhmhiaepiaaGreat.RU
open Go.ChangeShapes Go.WideShapes Go.ChangeAt Go.RowKit Go.Deep Go.WideElems Go.Lib

theorem one_cell {x : Value} {y : Value} (h : [x] = [y]) : x = y := by simpa using h
theorem list2 {α : Type} {l : List α} (h : l.length = 2) : ∃ c0 c1, l = [c0, c1] := by
  match l, h with
  | [c0, c1], _ => exact ⟨c0, c1, rfl⟩
set_option maxHeartbeats 1000000 in
theorem trod_2 {H : Type} {enc : TypeId × Value → H} {P : Program} {w : World} {base : Nat} {spare : Nat → Bool} {held : Bool} {fuel : Nat} {t : TypeId} {f0 f1 : Field} {v0 v1 : Value} {x : DataW H × List MemPlace}
    (hs : P.underlying t = some (.struct #[f0, f1])) (hone : oneCellFields P #[f0, f1] = true) (h : DataW.trod enc P w base spare held fuel t [v0, v1] = some x) :
    ∃ (y0 y1 : DataW H × List MemPlace) (n : Nat), x.1 = .agg [y0.1, y1.1] ∧ DataW.trod enc P w base spare held n f0.type [v0] = some y0 ∧ DataW.trod enc P w base spare held n f1.type [v1] = some y1 := by
  obtain ⟨xs, n, _, hx, _, hlen, hq⟩ := DataW.trod_struct hs h
  obtain ⟨y0, y1, rfl⟩ := list2 (show xs.length = 2 by simpa using hlen)
  obtain ⟨o0, k0⟩ := hone_of hone 0 f0 rfl
  have h0 := hq 0 f0 rfl
  obtain ⟨o1, k1⟩ := hone_of hone 1 f1 rfl
  have h1 := hq 1 f1 rfl
  exact ⟨y0, y1, n, by rw [hx]; simp, by simpa [o0, k0] using h0, by simpa [o1, k1] using h1⟩
theorem list5 {α : Type} {l : List α} (h : l.length = 5) : ∃ c0 c1 c2 c3 c4, l = [c0, c1, c2, c3, c4] := by
  match l, h with
  | [c0, c1, c2, c3, c4], _ => exact ⟨c0, c1, c2, c3, c4, rfl⟩
set_option maxHeartbeats 1000000 in
theorem trod_5 {H : Type} {enc : TypeId × Value → H} {P : Program} {w : World} {base : Nat} {spare : Nat → Bool} {held : Bool} {fuel : Nat} {t : TypeId} {f0 f1 f2 f3 f4 : Field} {v0 v1 v2 v3 v4 : Value} {x : DataW H × List MemPlace}
    (hs : P.underlying t = some (.struct #[f0, f1, f2, f3, f4])) (hone : oneCellFields P #[f0, f1, f2, f3, f4] = true) (h : DataW.trod enc P w base spare held fuel t [v0, v1, v2, v3, v4] = some x) :
    ∃ (y0 y1 y2 y3 y4 : DataW H × List MemPlace) (n : Nat), x.1 = .agg [y0.1, y1.1, y2.1, y3.1, y4.1] ∧ DataW.trod enc P w base spare held n f0.type [v0] = some y0 ∧ DataW.trod enc P w base spare held n f1.type [v1] = some y1 ∧ DataW.trod enc P w base spare held n f2.type [v2] = some y2 ∧ DataW.trod enc P w base spare held n f3.type [v3] = some y3 ∧ DataW.trod enc P w base spare held n f4.type [v4] = some y4 := by
  obtain ⟨xs, n, _, hx, _, hlen, hq⟩ := DataW.trod_struct hs h
  obtain ⟨y0, y1, y2, y3, y4, rfl⟩ := list5 (show xs.length = 5 by simpa using hlen)
  obtain ⟨o0, k0⟩ := hone_of hone 0 f0 rfl
  have h0 := hq 0 f0 rfl
  obtain ⟨o1, k1⟩ := hone_of hone 1 f1 rfl
  have h1 := hq 1 f1 rfl
  obtain ⟨o2, k2⟩ := hone_of hone 2 f2 rfl
  have h2 := hq 2 f2 rfl
  obtain ⟨o3, k3⟩ := hone_of hone 3 f3 rfl
  have h3 := hq 3 f3 rfl
  obtain ⟨o4, k4⟩ := hone_of hone 4 f4 rfl
  have h4 := hq 4 f4 rfl
  exact ⟨y0, y1, y2, y3, y4, n, by rw [hx]; simp, by simpa [o0, k0] using h0, by simpa [o1, k1] using h1, by simpa [o2, k2] using h2, by simpa [o3, k3] using h3, by simpa [o4, k4] using h4⟩
theorem list7 {α : Type} {l : List α} (h : l.length = 7) : ∃ c0 c1 c2 c3 c4 c5 c6, l = [c0, c1, c2, c3, c4, c5, c6] := by
  match l, h with
  | [c0, c1, c2, c3, c4, c5, c6], _ => exact ⟨c0, c1, c2, c3, c4, c5, c6, rfl⟩
set_option maxHeartbeats 1000000 in
theorem trod_7 {H : Type} {enc : TypeId × Value → H} {P : Program} {w : World} {base : Nat} {spare : Nat → Bool} {held : Bool} {fuel : Nat} {t : TypeId} {f0 f1 f2 f3 f4 f5 f6 : Field} {v0 v1 v2 v3 v4 v5 v6 : Value} {x : DataW H × List MemPlace}
    (hs : P.underlying t = some (.struct #[f0, f1, f2, f3, f4, f5, f6])) (hone : oneCellFields P #[f0, f1, f2, f3, f4, f5, f6] = true) (h : DataW.trod enc P w base spare held fuel t [v0, v1, v2, v3, v4, v5, v6] = some x) :
    ∃ (y0 y1 y2 y3 y4 y5 y6 : DataW H × List MemPlace) (n : Nat), x.1 = .agg [y0.1, y1.1, y2.1, y3.1, y4.1, y5.1, y6.1] ∧ DataW.trod enc P w base spare held n f0.type [v0] = some y0 ∧ DataW.trod enc P w base spare held n f1.type [v1] = some y1 ∧ DataW.trod enc P w base spare held n f2.type [v2] = some y2 ∧ DataW.trod enc P w base spare held n f3.type [v3] = some y3 ∧ DataW.trod enc P w base spare held n f4.type [v4] = some y4 ∧ DataW.trod enc P w base spare held n f5.type [v5] = some y5 ∧ DataW.trod enc P w base spare held n f6.type [v6] = some y6 := by
  obtain ⟨xs, n, _, hx, _, hlen, hq⟩ := DataW.trod_struct hs h
  obtain ⟨y0, y1, y2, y3, y4, y5, y6, rfl⟩ := list7 (show xs.length = 7 by simpa using hlen)
  obtain ⟨o0, k0⟩ := hone_of hone 0 f0 rfl
  have h0 := hq 0 f0 rfl
  obtain ⟨o1, k1⟩ := hone_of hone 1 f1 rfl
  have h1 := hq 1 f1 rfl
  obtain ⟨o2, k2⟩ := hone_of hone 2 f2 rfl
  have h2 := hq 2 f2 rfl
  obtain ⟨o3, k3⟩ := hone_of hone 3 f3 rfl
  have h3 := hq 3 f3 rfl
  obtain ⟨o4, k4⟩ := hone_of hone 4 f4 rfl
  have h4 := hq 4 f4 rfl
  obtain ⟨o5, k5⟩ := hone_of hone 5 f5 rfl
  have h5 := hq 5 f5 rfl
  obtain ⟨o6, k6⟩ := hone_of hone 6 f6 rfl
  have h6 := hq 6 f6 rfl
  exact ⟨y0, y1, y2, y3, y4, y5, y6, n, by rw [hx]; simp, by simpa [o0, k0] using h0, by simpa [o1, k1] using h1, by simpa [o2, k2] using h2, by simpa [o3, k3] using h3, by simpa [o4, k4] using h4, by simpa [o5, k5] using h5, by simpa [o6, k6] using h6⟩
theorem list9 {α : Type} {l : List α} (h : l.length = 9) : ∃ c0 c1 c2 c3 c4 c5 c6 c7 c8, l = [c0, c1, c2, c3, c4, c5, c6, c7, c8] := by
  match l, h with
  | [c0, c1, c2, c3, c4, c5, c6, c7, c8], _ => exact ⟨c0, c1, c2, c3, c4, c5, c6, c7, c8, rfl⟩
set_option maxHeartbeats 1000000 in
theorem trod_9 {H : Type} {enc : TypeId × Value → H} {P : Program} {w : World} {base : Nat} {spare : Nat → Bool} {held : Bool} {fuel : Nat} {t : TypeId} {f0 f1 f2 f3 f4 f5 f6 f7 f8 : Field} {v0 v1 v2 v3 v4 v5 v6 v7 v8 : Value} {x : DataW H × List MemPlace}
    (hs : P.underlying t = some (.struct #[f0, f1, f2, f3, f4, f5, f6, f7, f8])) (hone : oneCellFields P #[f0, f1, f2, f3, f4, f5, f6, f7, f8] = true) (h : DataW.trod enc P w base spare held fuel t [v0, v1, v2, v3, v4, v5, v6, v7, v8] = some x) :
    ∃ (y0 y1 y2 y3 y4 y5 y6 y7 y8 : DataW H × List MemPlace) (n : Nat), x.1 = .agg [y0.1, y1.1, y2.1, y3.1, y4.1, y5.1, y6.1, y7.1, y8.1] ∧ DataW.trod enc P w base spare held n f0.type [v0] = some y0 ∧ DataW.trod enc P w base spare held n f1.type [v1] = some y1 ∧ DataW.trod enc P w base spare held n f2.type [v2] = some y2 ∧ DataW.trod enc P w base spare held n f3.type [v3] = some y3 ∧ DataW.trod enc P w base spare held n f4.type [v4] = some y4 ∧ DataW.trod enc P w base spare held n f5.type [v5] = some y5 ∧ DataW.trod enc P w base spare held n f6.type [v6] = some y6 ∧ DataW.trod enc P w base spare held n f7.type [v7] = some y7 ∧ DataW.trod enc P w base spare held n f8.type [v8] = some y8 := by
  obtain ⟨xs, n, _, hx, _, hlen, hq⟩ := DataW.trod_struct hs h
  obtain ⟨y0, y1, y2, y3, y4, y5, y6, y7, y8, rfl⟩ := list9 (show xs.length = 9 by simpa using hlen)
  obtain ⟨o0, k0⟩ := hone_of hone 0 f0 rfl
  have h0 := hq 0 f0 rfl
  obtain ⟨o1, k1⟩ := hone_of hone 1 f1 rfl
  have h1 := hq 1 f1 rfl
  obtain ⟨o2, k2⟩ := hone_of hone 2 f2 rfl
  have h2 := hq 2 f2 rfl
  obtain ⟨o3, k3⟩ := hone_of hone 3 f3 rfl
  have h3 := hq 3 f3 rfl
  obtain ⟨o4, k4⟩ := hone_of hone 4 f4 rfl
  have h4 := hq 4 f4 rfl
  obtain ⟨o5, k5⟩ := hone_of hone 5 f5 rfl
  have h5 := hq 5 f5 rfl
  obtain ⟨o6, k6⟩ := hone_of hone 6 f6 rfl
  have h6 := hq 6 f6 rfl
  obtain ⟨o7, k7⟩ := hone_of hone 7 f7 rfl
  have h7 := hq 7 f7 rfl
  obtain ⟨o8, k8⟩ := hone_of hone 8 f8 rfl
  have h8 := hq 8 f8 rfl
  exact ⟨y0, y1, y2, y3, y4, y5, y6, y7, y8, n, by rw [hx]; simp, by simpa [o0, k0] using h0, by simpa [o1, k1] using h1, by simpa [o2, k2] using h2, by simpa [o3, k3] using h3, by simpa [o4, k4] using h4, by simpa [o5, k5] using h5, by simpa [o6, k6] using h6, by simpa [o7, k7] using h7, by simpa [o8, k8] using h8⟩
theorem open_A {H : Type} {enc : TypeId × Value → H} {w : World} {base : Nat} {spare : Nat → Bool} {held : Bool} {fuel : Nat} {v : Value} {x : DataW H × List MemPlace}
    (h : DataW.trod enc Tryz.prog w base spare held fuel 22 [v] = some x) : ∃ a n cap g, v = .slice a n cap ∧ RowA w (.slice a n cap) n g := by
  rcases Deep.open_slice Tryz.underlying22 h with ⟨e, _⟩ | ⟨ad, len, cap', m, fu, D, Pl, e, hb, hl, hm, hmm, _, hx⟩
  · obtain rfl := one_cell e
    exact ⟨none, 0, 0, fun _ => (⟨#[]⟩, fun _ => 0, false), rfl, RowA.none w _⟩
  · obtain rfl := one_cell e
    have hlm : len ≤ m := by rw [hmm]; split <;> omega
    have ce : Tryz.prog.cellsOf 55 = 2 := by kernel_rfl
    rw [ce] at hx
    have each : ∀ i, i < len → ∃ r : It, ∃ b off, some ad = some ⟨b, off, none⟩ ∧ w.cell? ⟨b, off + i * 2, none⟩ = some (.string r.1) ∧ w.cell? ⟨b, off + i * 2 + 1, none⟩ = some (.int .i64 (r.2.1 1)) := by
      intro i hi
      obtain ⟨cs', h1, h2⟩ := hx i (by omega)
      obtain ⟨_, hlen, hcell⟩ := World.cells?_some h1
      obtain ⟨v0, v1, rfl⟩ := list2 hlen
      obtain ⟨y0, y1, f2, _, g0, g1⟩ := trod_2 Tryz.underlying55 (by kernel_rfl) h2
      obtain ⟨z0, e0, _, _⟩ := DataW.trod_string Tryz.underlying9 g0
      obtain rfl := one_cell e0
      obtain ⟨z1, e1, _, _⟩ := DataW.trod_int Tryz.underlying3 g1
      obtain rfl := one_cell e1
      have k0 := hcell 0 (by omega)
      have k1 := hcell 1 (by omega)
      obtain ⟨cs0, h10, _⟩ := hx 0 (by omega)
      obtain ⟨_, hl0, hc0⟩ := World.cells?_some h10
      obtain ⟨u0, u1, rfl⟩ := list2 hl0
      obtain ⟨b, off, spot⟩ := ad
      have hspot : spot = none := by
        have := World.cell?_spot (hc0 0 (by omega))
        simpa [Addr.add] using this
      subst hspot
      rw [Addr.add_lit, Addr.add_lit] at k0 k1
      exact ⟨(z0, fun j => if j = 1 then z1 else 0, false), b, off, rfl, k0, k1⟩
    obtain ⟨r, hr⟩ := Deep.choose_lt each
    exact ⟨some ad, len, cap', r, rfl, some ad, cap', rfl, hl, hm, hr⟩
theorem open_S {H : Type} {enc : TypeId × Value → H} {w : World} {base : Nat} {spare : Nat → Bool} {held : Bool} {fuel : Nat} {v : Value} {x : DataW H × List MemPlace}
    (h : DataW.trod enc Tryz.prog w base spare held fuel 23 [v] = some x) : ∃ a n cap g, v = .slice a n cap ∧ RowS w (.slice a n cap) n g := by
  rcases Deep.open_slice Tryz.underlying23 h with ⟨e, _⟩ | ⟨ad, len, cap', m, fu, D, Pl, e, hb, hl, hm, hmm, _, hx⟩
  · obtain rfl := one_cell e
    exact ⟨none, 0, 0, fun _ => (⟨#[]⟩, fun _ => 0, false), rfl, RowS.none w _⟩
  · obtain rfl := one_cell e
    have hlm : len ≤ m := by rw [hmm]; split <;> omega
    have ce : Tryz.prog.cellsOf 40 = 7 := by kernel_rfl
    rw [ce] at hx
    have each : ∀ i, i < len → ∃ r : It, ∃ b off, some ad = some ⟨b, off, none⟩ ∧ w.cell? ⟨b, off + i * 7, none⟩ = some (.string r.1) ∧ w.cell? ⟨b, off + i * 7 + 1, none⟩ = some (.int .i64 (r.2.1 1)) ∧ w.cell? ⟨b, off + i * 7 + 1 + 1, none⟩ = some (.int .i64 (r.2.1 2)) ∧ w.cell? ⟨b, off + i * 7 + 1 + 1 + 1, none⟩ = some (.int .i64 (r.2.1 3)) ∧ w.cell? ⟨b, off + i * 7 + 1 + 1 + 1 + 1, none⟩ = some (.int .i64 (r.2.1 4)) ∧ w.cell? ⟨b, off + i * 7 + 1 + 1 + 1 + 1 + 1, none⟩ = some (.int .i64 (r.2.1 5)) ∧ w.cell? ⟨b, off + i * 7 + 1 + 1 + 1 + 1 + 1 + 1, none⟩ = some (.int .i64 (r.2.1 6)) := by
      intro i hi
      obtain ⟨cs', h1, h2⟩ := hx i (by omega)
      obtain ⟨_, hlen, hcell⟩ := World.cells?_some h1
      obtain ⟨v0, v1, v2, v3, v4, v5, v6, rfl⟩ := list7 hlen
      obtain ⟨y0, y1, y2, y3, y4, y5, y6, f2, _, g0, g1, g2, g3, g4, g5, g6⟩ := trod_7 Tryz.underlying40 (by kernel_rfl) h2
      obtain ⟨z0, e0, _, _⟩ := DataW.trod_string Tryz.underlying9 g0
      obtain rfl := one_cell e0
      obtain ⟨z1, e1, _, _⟩ := DataW.trod_int Tryz.underlying3 g1
      obtain rfl := one_cell e1
      obtain ⟨z2, e2, _, _⟩ := DataW.trod_int Tryz.underlying3 g2
      obtain rfl := one_cell e2
      obtain ⟨z3, e3, _, _⟩ := DataW.trod_int Tryz.underlying3 g3
      obtain rfl := one_cell e3
      obtain ⟨z4, e4, _, _⟩ := DataW.trod_int Tryz.underlying3 g4
      obtain rfl := one_cell e4
      obtain ⟨z5, e5, _, _⟩ := DataW.trod_int Tryz.underlying3 g5
      obtain rfl := one_cell e5
      obtain ⟨z6, e6, _, _⟩ := DataW.trod_int Tryz.underlying3 g6
      obtain rfl := one_cell e6
      have k0 := hcell 0 (by omega)
      have k1 := hcell 1 (by omega)
      have k2 := hcell 2 (by omega)
      have k3 := hcell 3 (by omega)
      have k4 := hcell 4 (by omega)
      have k5 := hcell 5 (by omega)
      have k6 := hcell 6 (by omega)
      obtain ⟨cs0, h10, _⟩ := hx 0 (by omega)
      obtain ⟨_, hl0, hc0⟩ := World.cells?_some h10
      obtain ⟨u0, u1, u2, u3, u4, u5, u6, rfl⟩ := list7 hl0
      obtain ⟨b, off, spot⟩ := ad
      have hspot : spot = none := by
        have := World.cell?_spot (hc0 0 (by omega))
        simpa [Addr.add] using this
      subst hspot
      rw [Addr.add_lit, Addr.add_lit] at k0 k1 k2 k3 k4 k5 k6
      exact ⟨(z0, fun j => if j = 1 then z1 else if j = 2 then z2 else if j = 3 then z3 else if j = 4 then z4 else if j = 5 then z5 else if j = 6 then z6 else 0, false), b, off, rfl, k0, k1, k2, k3, k4, k5, k6⟩
    obtain ⟨r, hr⟩ := Deep.choose_lt each
    exact ⟨some ad, len, cap', r, rfl, some ad, cap', rfl, hl, hm, hr⟩
theorem open_V {H : Type} {enc : TypeId × Value → H} {w : World} {base : Nat} {spare : Nat → Bool} {held : Bool} {fuel : Nat} {v : Value} {x : DataW H × List MemPlace}
    (h : DataW.trod enc Tryz.prog w base spare held fuel 24 [v] = some x) : ∃ a n cap g, v = .slice a n cap ∧ RowV w (.slice a n cap) n g := by
  rcases Deep.open_slice Tryz.underlying24 h with ⟨e, _⟩ | ⟨ad, len, cap', m, fu, D, Pl, e, hb, hl, hm, hmm, _, hx⟩
  · obtain rfl := one_cell e
    exact ⟨none, 0, 0, fun _ => (⟨#[]⟩, fun _ => 0, false), rfl, RowV.none w _⟩
  · obtain rfl := one_cell e
    have hlm : len ≤ m := by rw [hmm]; split <;> omega
    have ce : Tryz.prog.cellsOf 57 = 5 := by kernel_rfl
    rw [ce] at hx
    have each : ∀ i, i < len → ∃ r : It, ∃ b off, some ad = some ⟨b, off, none⟩ ∧ w.cell? ⟨b, off + i * 5, none⟩ = some (.string r.1) ∧ w.cell? ⟨b, off + i * 5 + 1, none⟩ = some (.int .i64 (r.2.1 1)) ∧ w.cell? ⟨b, off + i * 5 + 1 + 1, none⟩ = some (.int .i64 (r.2.1 2)) ∧ w.cell? ⟨b, off + i * 5 + 1 + 1 + 1, none⟩ = some (.int .i64 (r.2.1 3)) ∧ w.cell? ⟨b, off + i * 5 + 1 + 1 + 1 + 1, none⟩ = some (.bool r.2.2) := by
      intro i hi
      obtain ⟨cs', h1, h2⟩ := hx i (by omega)
      obtain ⟨_, hlen, hcell⟩ := World.cells?_some h1
      obtain ⟨v0, v1, v2, v3, v4, rfl⟩ := list5 hlen
      obtain ⟨y0, y1, y2, y3, y4, f2, _, g0, g1, g2, g3, g4⟩ := trod_5 Tryz.underlying57 (by kernel_rfl) h2
      obtain ⟨z0, e0, _, _⟩ := DataW.trod_string Tryz.underlying9 g0
      obtain rfl := one_cell e0
      obtain ⟨z1, e1, _, _⟩ := DataW.trod_int Tryz.underlying3 g1
      obtain rfl := one_cell e1
      obtain ⟨z2, e2, _, _⟩ := DataW.trod_int Tryz.underlying3 g2
      obtain rfl := one_cell e2
      obtain ⟨z3, e3, _, _⟩ := DataW.trod_int Tryz.underlying3 g3
      obtain rfl := one_cell e3
      obtain ⟨z4, e4, _⟩ := DataW.trod_bool Tryz.underlying4 g4
      obtain rfl := one_cell e4
      have k0 := hcell 0 (by omega)
      have k1 := hcell 1 (by omega)
      have k2 := hcell 2 (by omega)
      have k3 := hcell 3 (by omega)
      have k4 := hcell 4 (by omega)
      obtain ⟨cs0, h10, _⟩ := hx 0 (by omega)
      obtain ⟨_, hl0, hc0⟩ := World.cells?_some h10
      obtain ⟨u0, u1, u2, u3, u4, rfl⟩ := list5 hl0
      obtain ⟨b, off, spot⟩ := ad
      have hspot : spot = none := by
        have := World.cell?_spot (hc0 0 (by omega))
        simpa [Addr.add] using this
      subst hspot
      rw [Addr.add_lit, Addr.add_lit] at k0 k1 k2 k3 k4
      exact ⟨(z0, fun j => if j = 1 then z1 else if j = 2 then z2 else if j = 3 then z3 else 0, z4), b, off, rfl, k0, k1, k2, k3, k4⟩
    obtain ⟨r, hr⟩ := Deep.choose_lt each
    exact ⟨some ad, len, cap', r, rfl, some ad, cap', rfl, hl, hm, hr⟩
set_option maxRecDepth 100000 in
theorem open_setup {H : Type} {enc : TypeId × Value → H} {W : World} {base : Nat} {r : Reach} {b0 : Nat} {v : Value} {d : DataW H} {ps : List MemPlace} (hv : Value.okWide Tryz.prog W r b0 26 v) (h : DataW.Trod enc Tryz.prog W base (fun _ => true) true 26 v d ps) :
    ∃ (a1 a2 a3 : Option Addr) (c1 c2 c3 : Nat) (s : Stp), v = .agg #[.slice a1 s.nA c1, .slice a2 s.nS c2, .slice a3 s.nV c3, .int .i64 (s.P 3), .int .i64 (s.P 4), .int .i64 (s.P 5), .int .i64 (s.P 6), .int .i64 (s.P 7), .int .i64 (s.P 8)] ∧ SetIn W a1 a2 a3 c1 c2 c3 s := by
  obtain ⟨cs, rfl, hsz⟩ := okWide_struct Tryz.underlying26 hv
  obtain ⟨l⟩ := cs
  obtain ⟨v0, v1, v2, v3, v4, v5, v6, v7, v8, rfl⟩ := list9 (show l.length = 9 from hsz.trans (by kernel_rfl))
  obtain ⟨fuel, hf⟩ := h
  obtain ⟨y0, y1, y2, y3, y4, y5, y6, y7, y8, n, _, h0, h1, h2, h3, h4, h5, h6, h7, h8⟩ := trod_9 Tryz.underlying26 (by kernel_rfl) hf
  obtain ⟨a1, nA, c1, gA, rfl, hA⟩ := open_A h0
  obtain ⟨a2, nS, c2, gS, rfl, hS⟩ := open_S h1
  obtain ⟨a3, nV, c3, gV, rfl, hV⟩ := open_V h2
  obtain ⟨z3, e3, _, _⟩ := DataW.trod_int Tryz.underlying3 h3
  obtain rfl := one_cell e3
  obtain ⟨z4, e4, _, _⟩ := DataW.trod_int Tryz.underlying3 h4
  obtain rfl := one_cell e4
  obtain ⟨z5, e5, _, _⟩ := DataW.trod_int Tryz.underlying3 h5
  obtain rfl := one_cell e5
  obtain ⟨z6, e6, _, _⟩ := DataW.trod_int Tryz.underlying3 h6
  obtain rfl := one_cell e6
  obtain ⟨z7, e7, _, _⟩ := DataW.trod_int Tryz.underlying3 h7
  obtain rfl := one_cell e7
  obtain ⟨z8, e8, _, _⟩ := DataW.trod_int Tryz.underlying3 h8
  obtain rfl := one_cell e8
  exact ⟨a1, a2, a3, c1, c2, c3, { nA := nA, nS := nS, nV := nV, A := gA, S := gS, V := gV, P := fun j => if j = 3 then z3 else if j = 4 then z4 else if j = 5 then z5 else if j = 6 then z6 else if j = 7 then z7 else z8 }, rfl, hA, hS, hV⟩
end Go.Proofs.YtfphjhmhiaepiaaGreat.RU
