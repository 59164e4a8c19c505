/-
  A session and the reference's beside each other: what a call makes of both; a step.
-/
import Derived.Test.YtlgnbnojjfgfmaaSnRefPop
import Derived.Test.YtlgnbnojjfgfmaaSnAwake
import Derived.Test.YtlgnbnojjfgfmaaFrame22
namespace Go.Proofs.Ytlgnbnojjfgfmaa.SN
open Go.ChangeShapes Go.WideShapes Go.ChangeAt Go.RowKit Go.Lib

/-- A step in block b. -/
structure Nine (w : World) (b : Nat) (c : Opc) : Prop where
  n0 : w.cell? ⟨b, 0, none⟩ = some (.int .i64 c.k)
  n1 : w.cell? ⟨b, 1, none⟩ = some (.int .i64 c.n)
  n2 : w.cell? ⟨b, 2, none⟩ = some (.int .i64 c.o.k)
  n3 : w.cell? ⟨b, 3, none⟩ = some (.int .i64 c.o.s)
  n4 : w.cell? ⟨b, 4, none⟩ = some (.string c.o.i)
  n5 : w.cell? ⟨b, 5, none⟩ = some (.string c.o.y)
  n6 : w.cell? ⟨b, 6, none⟩ = some (.int .i64 c.o.d)
  n7 : w.cell? ⟨b, 7, none⟩ = some (.int .i64 c.o.q)
  n8 : w.cell? ⟨b, 8, none⟩ = some (.int .i64 c.o.p)
theorem Nine.lt {w : World} {b : Nat} {c : Opc} (h : Nine w b c) : b < w.heap.size := World.block_lt_of_cell? _ _ h.n0
theorem Nine.kept {T : Nat → Prop} {w w' : World} {b : Nat} {c : Opc} (h : Nine w b c) (k : But T w w') (hb : ¬ T b) : Nine w' b c :=
  ⟨(k.cell h.lt hb).trans h.n0, (k.cell h.lt hb).trans h.n1, (k.cell h.lt hb).trans h.n2, (k.cell h.lt hb).trans h.n3, (k.cell h.lt hb).trans h.n4, (k.cell h.lt hb).trans h.n5, (k.cell h.lt hb).trans h.n6, (k.cell h.lt hb).trans h.n7, (k.cell h.lt hb).trans h.n8⟩
/-- The session x at p and the reference's y at g, apart from each other; all is newer than w0. -/
def Duo (w0 w : World) (p r g base : Nat) (x y : Ss) : Prop := ∃ S C f v, SesAt w p r S C f x ∧ RefAt w g base y v ∧ (∀ k, ownS p r S k → w0.heap.size ≤ k ∧ ¬ ownR g v k) ∧ (∀ k, ownR g v k → w0.heap.size ≤ k) ∧ Below w0.heap.size w0 w
/-- And a step in block b, apart from both. -/
def Two (w0 w : World) (p r g base b : Nat) (c : Opc) (x y : Ss) : Prop := ∃ S C f v, SesAt w p r S C f x ∧ RefAt w g base y v ∧ (∀ k, ownS p r S k → w0.heap.size ≤ k ∧ ¬ ownR g v k ∧ k ≠ b) ∧ (∀ k, ownR g v k → w0.heap.size ≤ k ∧ k ≠ b) ∧ Nine w b c ∧ Below w0.heap.size w0 w
theorem Duo.below {w0 w w' : World} {p r g base : Nat} {x y : Ss} (h : Duo w0 w p r g base x y) (k : Below w.heap.size w w') : Duo w0 w' p r g base x y := by
  obtain ⟨S, C, f, v, hs, hr, o1, o2, B⟩ := h
  exact ⟨S, C, f, v, hs.below k, hr.below k, o1, o2, B.trans (k.mono B.size)⟩
theorem Duo.bel {w0 w : World} {p r g base : Nat} {x y : Ss} (h : Duo w0 w p r g base x y) : Below w0.heap.size w0 w := by
  obtain ⟨S, C, f, v, hs, hr, o1, o2, B⟩ := h
  exact B
theorem Two.duo {w0 w : World} {p r g base b : Nat} {c : Opc} {x y : Ss} (h : Two w0 w p r g base b c x y) : Duo w0 w p r g base x y := by
  obtain ⟨S, C, f, v, hs, hr, o1, o2, _, B⟩ := h
  exact ⟨S, C, f, v, hs, hr, fun k hk => ⟨(o1 k hk).1, (o1 k hk).2.1⟩, fun k hk => (o2 k hk).1, B⟩
theorem Two.below {w' : World} {w0 w : World} {p r g base b : Nat} {c : Opc} {x y : Ss} (h : Two w0 w p r g base b c x y) (k : Below w.heap.size w w') : Two w0 w' p r g base b c x y := by
  obtain ⟨S, C, f, v, hs, hr, o1, o2, n, B⟩ := h
  exact ⟨S, C, f, v, hs.below k, hr.below k, o1, o2, n.kept (T := fun _ => False) (But.of_below k) id, B.trans (k.mono B.size)⟩
theorem Two.nine {w0 w : World} {p r g base b : Nat} {c : Opc} {x y : Ss} (h : Two w0 w p r g base b c x y) : Nine w b c := by
  obtain ⟨S, C, f, v, hs, hr, o1, o2, n, B⟩ := h
  exact n
theorem Two.new {w0 w : World} {p r g base : Nat} {x y : Ss} (h : Duo w0 w p r g base x y) (c : Opc) : Two w0 (w.alloc (.cells c.cells 36)) p r g base w.heap.size c x y := by
  obtain ⟨S, C, f, v, hs, hr, o1, o2, B⟩ := h
  have k := below1 w (.cells c.cells 36)
  refine ⟨S, C, f, v, hs.below k, hr.below k, fun k hk => ⟨(o1 k hk).1, (o1 k hk).2, fun e => ?_⟩, fun k hk => ⟨o2 k hk, fun e => ?_⟩, ⟨by simp, by simp, by simp, by simp, by simp, by simp, by simp, by simp, by simp⟩, B.trans (k.mono B.size)⟩
  · have := hs.there hk; omega
  · have := hr.there hk; omega
theorem Two.prog {w0 w w' : World} {p r g base b : Nat} {S : Option Addr} {v : Value} {c : Opc} {x' y : Ss} (hr : RefAt w g base y v) (o1 : ∀ k, ownS p r S k → w0.heap.size ≤ k ∧ ¬ ownR g v k ∧ k ≠ b) (o2 : ∀ k, ownR g v k → w0.heap.size ≤ k ∧ k ≠ b) (n : Nine w b c) (B : Below w0.heap.size w0 w) (k : SesOk w w' p r S x') : Two w0 w' p r g base b c x' y := by
  obtain ⟨S', C', f', h', bt, o⟩ := k
  refine ⟨S', C', f', v, h', hr.kept bt (fun i hi e => (o1 i e).2.1 hi), fun j hj => ?_, o2, n.kept bt (fun e => (o1 _ e).2.2 rfl), B.trans (bt.below B.size (fun i hi => (o1 i hi).1))⟩
  rcases o j hj with e | e
  · exact o1 j e
  · exact ⟨Nat.le_trans B.size e, fun e' => by have := hr.there e'; omega, fun e' => by have := n.lt; omega⟩
theorem Two.ref {w0 w w' : World} {p r g base b C f : Nat} {S : Option Addr} {v : Value} {c : Opc} {x y' : Ss} (hs : SesAt w p r S C f x) (o1 : ∀ k, ownS p r S k → w0.heap.size ≤ k ∧ ¬ ownR g v k ∧ k ≠ b) (o2 : ∀ k, ownR g v k → w0.heap.size ≤ k ∧ k ≠ b) (n : Nine w b c) (B : Below w0.heap.size w0 w) (k : RefOk w w' g base v y') : Two w0 w' p r g base b c x y' := by
  obtain ⟨v', h', bt, o⟩ := k
  refine ⟨S, C, f, v', hs.kept bt (fun i hi e => (o1 i hi).2.1 e), h', fun j hj => ⟨(o1 j hj).1, fun e => ?_, (o1 j hj).2.2⟩, fun j hj => ?_, n.kept bt (fun e => (o2 _ e).2 rfl), B.trans (bt.below B.size (fun i hi => (o2 i hi).1))⟩
  · rcases o j e with e' | e'
    · exact (o1 j hj).2.1 e'
    · have := hs.there hj; omega
  · rcases o j hj with e | e
    · exact o2 j e
    · exact ⟨Nat.le_trans B.size e, fun e' => by have := n.lt; omega⟩
theorem two_send {w0 w : World} {p r g base b : Nat} {c : Opc} {x y : Ss} (h : Two w0 w p r g base b c x y) (o : Od) (hl : x.sn ≤ 4096) : Calls Try.prog 15 #[.pointer (some ⟨p, 0, none⟩), oV o] w fun e w' => e = .returned (.tuple #[.int .i64 (sndN x o), .int .i64 (sndE x o)]) ∧ Hid (Two w0 w' p r g base b c (sndX x o) y) := by
  obtain ⟨S, C, f, v, hs, hr, o1, o2, n, B⟩ := h
  exact (send_any hs o hl).mono fun _ _ ⟨he, k⟩ => ⟨he, Two.prog hr o1 o2 n B k⟩
theorem two_pop {w0 w : World} {p r g base b : Nat} {c : Opc} {x y : Ss} (h : Two w0 w p r g base b c x y) : Calls Try.prog 16 #[.pointer (some ⟨p, 0, none⟩)] w fun e w' => e = .returned (.tuple #[oV (popO x), .int .i64 (popE x)]) ∧ Hid (Two w0 w' p r g base b c (popX x) y) := by
  obtain ⟨S, C, f, v, hs, hr, o1, o2, n, B⟩ := h
  exact (spop_any hs).mono fun _ _ ⟨he, k⟩ => ⟨he, Two.prog hr o1 o2 n B k⟩
theorem two_take {w0 w : World} {p r g base b : Nat} {c : Opc} {x y : Ss} (h : Two w0 w p r g base b c x y) (m : Int) (hm : m ≤ 9223372036854775807) (hl : x.tk ≤ 4096) : Calls Try.prog 20 #[.pointer (some ⟨p, 0, none⟩), .int .i64 m] w fun e w' => e = .returned (.int .i64 (tkE x m)) ∧ Hid (Two w0 w' p r g base b c (tkX x m) y) := by
  obtain ⟨S, C, f, v, hs, hr, o1, o2, n, B⟩ := h
  exact (take_any hs m hm hl).mono fun _ _ ⟨he, k⟩ => ⟨he, Two.prog hr o1 o2 n B k⟩
theorem two_fault {w0 w : World} {p r g base b : Nat} {c : Opc} {x y : Ss} (h : Two w0 w p r g base b c x y) (hl : x.fa ≤ 4096) : Calls Try.prog 17 #[.pointer (some ⟨p, 0, none⟩)] w fun e w' => e = .returned (.tuple #[]) ∧ Hid (Two w0 w' p r g base b c (faX x) y) := by
  obtain ⟨S, C, f, v, hs, hr, o1, o2, n, B⟩ := h
  exact (fault_any hs hl).mono fun _ _ ⟨he, k⟩ => ⟨he, Two.prog hr o1 o2 n B k⟩
theorem two_down {w0 w : World} {p r g base b : Nat} {c : Opc} {x y : Ss} (h : Two w0 w p r g base b c x y) : Calls Try.prog 18 #[.pointer (some ⟨p, 0, none⟩)] w fun e w' => e = .returned (.tuple #[]) ∧ Hid (Two w0 w' p r g base b c (dnX x true) y) := by
  obtain ⟨S, C, f, v, hs, hr, o1, o2, n, B⟩ := h
  exact (down_any hs).mono fun _ _ ⟨he, k⟩ => ⟨he, Two.prog hr o1 o2 n B k⟩
theorem two_up {w0 w : World} {p r g base b : Nat} {c : Opc} {x y : Ss} (h : Two w0 w p r g base b c x y) : Calls Try.prog 19 #[.pointer (some ⟨p, 0, none⟩)] w fun e w' => e = .returned (.tuple #[]) ∧ Hid (Two w0 w' p r g base b c (dnX x false) y) := by
  obtain ⟨S, C, f, v, hs, hr, o1, o2, n, B⟩ := h
  exact (up_any hs).mono fun _ _ ⟨he, k⟩ => ⟨he, Two.prog hr o1 o2 n B k⟩
theorem two_refSend {w0 w : World} {p r g base b : Nat} {c : Opc} {x y : Ss} (h : Two w0 w p r g base b c x y) (o : Od) (z : o.i.size ≤ 200 ∧ o.y.size ≤ 200) (hl : y.sn ≤ 4096) : Calls Try.prog 22 #[.pointer (some ⟨g, 0, none⟩), oV o] w fun e w' => e = .returned (.tuple #[.int .i64 (sndN y o), .int .i64 (sndE y o)]) ∧ Hid (Two w0 w' p r g base b c x (sndX y o)) := by
  obtain ⟨S, C, f, v, hs, hr, o1, o2, n, B⟩ := h
  exact (refSend_any hr o z hl).mono fun _ _ ⟨he, k⟩ => ⟨he, Two.ref hs o1 o2 n B k⟩
theorem two_refPop {w0 w : World} {p r g base b : Nat} {c : Opc} {x y : Ss} (h : Two w0 w p r g base b c x y) (hl : y.sn ≤ 4096) : Calls Try.prog 23 #[.pointer (some ⟨g, 0, none⟩)] w fun e w' => e = .returned (.tuple #[oV (popO y), .int .i64 (popE y)]) ∧ Hid (Two w0 w' p r g base b c x (popX y)) := by
  obtain ⟨S, C, f, v, hs, hr, o1, o2, n, B⟩ := h
  exact (refPop_any hr hl).mono fun _ _ ⟨he, k⟩ => ⟨he, Two.ref hs o1 o2 n B k⟩
theorem two_refTake {w0 w : World} {p r g base b : Nat} {c : Opc} {x y : Ss} (h : Two w0 w p r g base b c x y) (m : Int) (hl : y.tk ≤ 4096) : Calls Try.prog 24 #[.pointer (some ⟨g, 0, none⟩), .int .i64 m] w fun e w' => e = .returned (.int .i64 (tkE y m)) ∧ Hid (Two w0 w' p r g base b c x (tkX y m)) := by
  obtain ⟨S, C, f, v, hs, hr, o1, o2, n, B⟩ := h
  exact (refTake_any hr m hl).mono fun _ _ ⟨he, k⟩ => ⟨he, Two.ref hs o1 o2 n B k⟩
theorem two_refPop_new {w0 w : World} {p r g base b : Nat} {c : Opc} {x y : Ss} (h : Two w0 w p r g base b c x y) (hl : y.sn ≤ 4096) (N : Od) : Calls Try.prog 23 #[.pointer (some ⟨g, 0, none⟩)] (boxO w N) fun e w' => e = .returned (.tuple #[oV (popO y), .int .i64 (popE y)]) ∧ Hid (Two w0 w' p r g base b c x (popX y)) ∧ Hid (Bx w' w.heap.size N) := by
  obtain ⟨S, C, f, v, hs, hr, o1, o2, n, B⟩ := h
  have k0 : Below w.heap.size w (boxO w N) := below1 _ _
  refine (refPop_any (hr.below k0) hl).mono fun _ _ ⟨he, k⟩ => ⟨he, Two.ref (hs.below k0) o1 o2 (n.kept (T := fun _ => False) (But.of_below k0) id) (B.trans (k0.mono B.size)) k, ?_⟩
  obtain ⟨v', _, bt, _⟩ := k
  exact (Bx.new w N _).kept bt (fun e => by have := hr.there e; omega)
/-- The reference's numbers. -/
theorem Two.cells {w0 w : World} {p r g base b : Nat} {c : Opc} {x y : Ss} (h : Two w0 w p r g base b c x y) : w.cell? ⟨g, 3, none⟩ = some (.int .i64 (y.fa : Int)) ∧ w.cell? ⟨g, 5, none⟩ = some (.bool y.dn) ∧ w.frozen? ⟨g, 3, none⟩ = false ∧ w.frozen? ⟨g, 5, none⟩ = false := by
  obtain ⟨S, C, f, v, hs, hr, o1, o2, n, B⟩ := h
  exact ⟨hr.cells.2.2.2.1, hr.cells.2.2.2.2.2, hr.box.thaw 3, hr.box.thaw 5⟩
theorem Two.set3 {w0 w : World} {p r g base b : Nat} {c : Opc} {x y : Ss} (h : Two w0 w p r g base b c x y) : Two w0 (w.setCell ⟨g, 3, none⟩ (.int .i64 ((y.fa : Int) + 1))) p r g base b c x (faX y) := by
  obtain ⟨S, C, f, v, hs, hr, o1, o2, n, B⟩ := h
  exact Two.ref hs o1 o2 n B (hr.wrote (z := faX y) _ (by omega) (fun j hj => six_lt (P := fun j => upd (rF y v) 3 (.int .i64 ((y.fa : Int) + 1)) j = rF _ v j) hj ⟨rfl, rfl, rfl, rfl, rfl, rfl⟩) rfl rfl hr.ord)
theorem Two.set5 {w0 w : World} {p r g base b : Nat} {c : Opc} {x y : Ss} (h : Two w0 w p r g base b c x y) (d : Bool) : Two w0 (w.setCell ⟨g, 5, none⟩ (.bool d)) p r g base b c x (dnX y d) := by
  obtain ⟨S, C, f, v, hs, hr, o1, o2, n, B⟩ := h
  exact Two.ref hs o1 o2 n B (hr.wrote (z := dnX y d) _ (by omega) (fun j hj => six_lt (P := fun j => upd (rF y v) 5 (.bool d) j = rF _ v j) hj ⟨rfl, rfl, rfl, rfl, rfl, rfl⟩) rfl rfl hr.ord)
/-- A step: the session behind it. -/
def stX (x : Ss) (c : Opc) : Ss := if c.k = 1 then sndX x c.o else if c.k = 2 then popX x else if c.k = 3 then tkX x c.n else if c.k = 4 then faX x else if c.k = 5 then dnX x true else if c.k = 6 then dnX x false else x
theorem Lim.step {x : Ss} {N : Nat} (h : Lim x N) (c : Opc) : Lim (stX x c) (N + 1) := by
  unfold stX
  repeat' split
  · exact h.snd _
  · exact h.pop
  · exact h.tk _
  · exact h.fa
  · exact h.dn _
  · exact h.dn _
  · exact h.more
set_option maxRecDepth 100000 in
set_option maxHeartbeats 16000000 in
theorem step_walk {w0 w : World} {p r g base : Nat} {x : Ss} (h : Duo w0 w p r g base x x) (ok on xk xs : Int) (xi xy : ByteArray) (xd xq xp : Int) (z : xi.size ≤ 200 ∧ xy.size ≤ 200) (hn : on ≤ 9223372036854775807) (hl : Lim x 200) :
    Calls Try.prog 9 #[.pointer (some ⟨p, 0, none⟩), .pointer (some ⟨g, 0, none⟩), .agg #[.int .i64 ok, .int .i64 on, .int .i64 xk, .int .i64 xs, .string xi, .string xy, .int .i64 xd, .int .i64 xq, .int .i64 xp]] w fun e w' => e = .returned (.bool true) ∧ Hid (Duo w0 w' p r g base (stX x ⟨ok, on, ⟨xk, xs, xi, xy, xd, xq, xp⟩⟩) (stX x ⟨ok, on, ⟨xk, xs, xi, xy, xd, xq, xp⟩⟩)) := by
  have D0 : Hid (Two w0 (w.alloc (.cells #[.int .i64 ok, .int .i64 on, .int .i64 xk, .int .i64 xs, .string xi, .string xy, .int .i64 xd, .int .i64 xq, .int .i64 xp] 36)) p r g base w.heap.size ⟨ok, on, ⟨xk, xs, xi, xy, xd, xq, xp⟩⟩ x x) := Two.new h ⟨ok, on, ⟨xk, xs, xi, xy, xd, xq, xp⟩⟩
  have l1 : x.sn ≤ 4096 := Nat.le_trans hl.1 (by omega)
  have l2 : x.tk ≤ 4096 := Nat.le_trans hl.2.1 (by omega)
  have l3 : x.fa ≤ 4096 := Nat.le_trans hl.2.2 (by omega)
  have l4 : (x.fa : Int) ≤ 4096 := by omega
  clear h hl
  obtain ⟨Z, hZ⟩ : ∃ Z, Hid (stX x ⟨ok, on, ⟨xk, xs, xi, xy, xd, xq, xp⟩⟩ = Z) := ⟨_, rfl⟩
  rw [hZ.out]
  by_cases k1 : ok = 1
  · subst k1
    have hZ1 : sndX x ⟨xk, xs, xi, xy, xd, xq, xp⟩ = Z := hZ.out
    have G1 := two_send D0.out ⟨xk, xs, xi, xy, xd, xq, xp⟩ l1
    have G2 := fun w' (d : Two w0 w' p r g base w.heap.size ⟨1, on, ⟨xk, xs, xi, xy, xd, xq, xp⟩⟩ Z x) => two_refSend d ⟨xk, xs, xi, xy, xd, xq, xp⟩ z l1
    rw [hZ1] at G1 G2
    obtain ⟨N, hN⟩ : ∃ N, sndN x ⟨xk, xs, xi, xy, xd, xq, xp⟩ = N := ⟨_, rfl⟩
    obtain ⟨E, hE⟩ : ∃ E, sndE x ⟨xk, xs, xi, xy, xd, xq, xp⟩ = E := ⟨_, rfl⟩
    rw [hN, hE] at G1 G2
    dsimp only [oV] at G1 G2
    clear hN hE hZ1 hZ D0
    go_enter Try.func9, Try.ntmps9
    go_wp2_with fail
    refine G1.mono ?_
    rintro e w1 ⟨rfl, D1⟩
    have G := G2 w1 D1.out
    obtain ⟨n0, n1, n2, n3, n4, n5, n6, n7, n8⟩ := D1.out.nine
    simp only at n0 n1 n2 n3 n4 n5 n6 n7 n8
    clear G1 G2 D1
    go_wp2_with fail
    refine G.mono ?_
    rintro e w2 ⟨rfl, D2⟩
    have HD : Hid (Duo w0 w2 p r g base Z Z) := D2.out.duo
    clear G D2
    go_wp2_with fail
    go_ret
    exact ⟨rfl, HD⟩
  by_cases k2 : ok = 2
  · subst k2
    have hZ1 : popX x = Z := hZ.out
    have G1 := two_pop D0.out
    have G2 := fun w' (d : Two w0 w' p r g base w.heap.size ⟨2, on, ⟨xk, xs, xi, xy, xd, xq, xp⟩⟩ Z x) => two_refPop_new d l1 (popO x)
    rw [hZ1] at G1 G2
    obtain ⟨N, hN⟩ : ∃ N, popO x = N := ⟨_, rfl⟩
    obtain ⟨E, hE⟩ : ∃ E, popE x = E := ⟨_, rfl⟩
    rw [hN, hE] at G1 G2
    clear hN hE hZ1 hZ D0
    obtain ⟨pk, ps, pi, py, pd, pq, pp⟩ := N
    dsimp only [oV] at G1 G2
    go_enter Try.func9, Try.ntmps9
    go_wp2_with fail
    refine G1.mono ?_
    rintro e w1 ⟨rfl, D1⟩
    clear G1
    have G := G2 w1 D1.out
    clear D1 G2
    have E1 := od_eqR pk ps pd pq pp pi py
    go_wp2_with fail
    refine G.mono ?_
    rintro e w2 ⟨rfl, D2, X2⟩
    have HD : Hid (Duo w0 w2 p r g base Z Z) := D2.out.duo
    obtain ⟨n0, n1, n2, n3, n4, n5, n6⟩ := X2.out.sev.all0
    have lx := X2.out.sev.lt
    simp only at n0 n1 n2 n3 n4 n5 n6
    have ne : ¬ w1.heap.size = w2.heap.size := by omega
    have ne' : ¬ w2.heap.size = w1.heap.size := by omega
    clear G D2 X2
    go_wp2_with fail
    go_ret
    exact ⟨rfl, HD.out.below (below1 _ _)⟩
  by_cases k3 : ok = 3
  · subst k3
    have hZ1 : tkX x on = Z := hZ.out
    have GA := fun {w' y'} (d : Two w0 w' p r g base w.heap.size ⟨3, on, ⟨xk, xs, xi, xy, xd, xq, xp⟩⟩ x y') => two_take d on hn l2
    have GB := fun {w' x'} (d : Two w0 w' p r g base w.heap.size ⟨3, on, ⟨xk, xs, xi, xy, xd, xq, xp⟩⟩ x' x) => two_refTake d on l2
    rw [hZ1] at GA GB
    obtain ⟨E, hE⟩ : ∃ E, tkE x on = E := ⟨_, rfl⟩
    rw [hE] at GA GB
    have D1 := D0.out.below (below_drewN _ 1 _)
    have c1 := D1.nine.n1
    simp only at c1
    clear hE hZ1 hZ D0
    go_enter Try.func9, Try.ntmps9
    go_wp2_with fail
    go_region_with (first
      | (go_at_call 20; first | (refine (GA D6.out).mono ?_; rintro e w5 ⟨rfl, D5⟩; have a1 := D5.out.nine.n1; simp only at a1) | (refine (GA D1).mono ?_; rintro e w5 ⟨rfl, D5⟩; have a1 := D5.out.nine.n1; simp only at a1))
      | (go_at_call 24; first | (refine (GB D5.out).mono ?_; rintro e w6 ⟨rfl, D6⟩; have b1 := D6.out.nine.n1; simp only at b1) | (refine (GB D1).mono ?_; rintro e w6 ⟨rfl, D6⟩; have b1 := D6.out.nine.n1; simp only at b1)))
    all_goals
      go_wp2_with fail
      go_ret
      first
        | exact ⟨rfl, D6.out.duo⟩
        | exact ⟨rfl, D5.out.duo⟩
  by_cases k4 : ok = 4
  · subst k4
    have hZ1 : faX x = Z := hZ.out
    have G1 := two_fault D0.out l3
    rw [hZ1] at G1
    clear D0
    go_enter Try.func9, Try.ntmps9
    go_wp2_with fail
    refine G1.mono ?_
    rintro e w1 ⟨rfl, D1⟩
    obtain ⟨c3, _, f3, _⟩ := D1.out.cells
    have HD := D1.out.set3
    rw [hZ1] at HD
    have HD : Hid (Duo w0 (w1.setCell ⟨g, 3, none⟩ (.int .i64 ((x.fa : Int) + 1))) p r g base Z Z) := HD.duo
    clear G1 D1 hZ1 hZ
    go_wp2_with fail
    go_ret
    exact ⟨rfl, HD⟩
  by_cases k5 : ok = 5
  · subst k5
    have hZ1 : dnX x true = Z := hZ.out
    have G1 := two_down D0.out
    rw [hZ1] at G1
    clear D0
    go_enter Try.func9, Try.ntmps9
    go_wp2_with fail
    refine G1.mono ?_
    rintro e w1 ⟨rfl, D1⟩
    obtain ⟨_, c5, _, f5⟩ := D1.out.cells
    have HD := D1.out.set5 true
    rw [hZ1] at HD
    have HD : Hid (Duo w0 (w1.setCell ⟨g, 5, none⟩ (.bool true)) p r g base Z Z) := HD.duo
    clear G1 D1 hZ1 hZ
    go_wp2_with fail
    go_ret
    exact ⟨rfl, HD⟩
  by_cases k6 : ok = 6
  · subst k6
    have hZ1 : dnX x false = Z := hZ.out
    have G1 := two_up D0.out
    rw [hZ1] at G1
    clear D0
    go_enter Try.func9, Try.ntmps9
    go_wp2_with fail
    refine G1.mono ?_
    rintro e w1 ⟨rfl, D1⟩
    obtain ⟨_, c5, _, f5⟩ := D1.out.cells
    have HD := D1.out.set5 false
    rw [hZ1] at HD
    have HD : Hid (Duo w0 (w1.setCell ⟨g, 5, none⟩ (.bool false)) p r g base Z Z) := HD.duo
    clear G1 D1 hZ1 hZ
    go_wp2_with fail
    go_ret
    exact ⟨rfl, HD⟩
  · have hZ1 : x = Z := by rw [← hZ.out]; simp [stX, k1, k2, k3, k4, k5, k6]
    have HD : Hid (Duo w0 (w.alloc (.cells #[.int .i64 ok, .int .i64 on, .int .i64 xk, .int .i64 xs, .string xi, .string xy, .int .i64 xd, .int .i64 xq, .int .i64 xp] 36)) p r g base x x) := D0.out.duo
    rw [hZ1] at HD
    clear D0 hZ hZ1
    have q1 : (ok == 1) = false := beq_false_of_ne k1
    have q2 : (ok == 2) = false := beq_false_of_ne k2
    have q3 : (ok == 3) = false := beq_false_of_ne k3
    have q4 : (ok == 4) = false := beq_false_of_ne k4
    have q5 : (ok == 5) = false := beq_false_of_ne k5
    have q6 : (ok == 6) = false := beq_false_of_ne k6
    go_enter Try.func9, Try.ntmps9
    go_wp2_with fail
    go_ret
    exact ⟨rfl, HD⟩
end Go.Proofs.Ytlgnbnojjfgfmaa.SN
