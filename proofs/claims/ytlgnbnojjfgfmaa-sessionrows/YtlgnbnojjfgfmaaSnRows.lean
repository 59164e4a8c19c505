/-
  A session beside a list of orders of one's own, and a step in a block: what a call makes of them.
-/
import Derived.Test.YtlgnbnojjfgfmaaSnTwo
namespace Go.Proofs.Ytlgnbnojjfgfmaa.SN
open Go.ChangeShapes Go.WideShapes Go.ChangeAt Go.RowKit Go.Lib RU

/-- The session x at p, a list v of n orders, apart from each other; all is newer than w0. -/
def Rws (w0 w : World) (p r base : Nat) (x : Ss) (n : Nat) (L : Nat → Od) (v : Value) : Prop := ∃ S C f, SesAt w p r S C f x ∧ w.ownsRow base 34 7 v n (allO L n) ∧ (∀ k, ownS p r S k → w0.heap.size ≤ k ∧ ¬ v.ownBlock = some k) ∧ w0.heap.size ≤ base ∧ base ≤ w.heap.size ∧ Below w0.heap.size w0 w
/-- And a step in block b, which may be written, apart from both. -/
def Rwb (w0 w : World) (p r base b : Nat) (c : Opc) (x : Ss) (n : Nat) (L : Nat → Od) (v : Value) : Prop := ∃ S C f, SesAt w p r S C f x ∧ w.ownsRow base 34 7 v n (allO L n) ∧ (∀ k, ownS p r S k → w0.heap.size ≤ k ∧ ¬ v.ownBlock = some k ∧ k ≠ b) ∧ (¬ v.ownBlock = some b ∧ w0.heap.size ≤ b) ∧ w0.heap.size ≤ base ∧ base ≤ w.heap.size ∧ (Nine w b c ∧ ∀ j, w.frozen? ⟨b, j, none⟩ = false) ∧ Below w0.heap.size w0 w
theorem Rws.bel {w0 w : World} {p r base n : Nat} {x : Ss} {L : Nat → Od} {v : Value} (h : Rws w0 w p r base x n L v) : Below w0.heap.size w0 w := by
  obtain ⟨S, C, f, _, _, _, _, _, B⟩ := h
  exact B
theorem Rwb.rws {w0 w : World} {p r base b n : Nat} {c : Opc} {x : Ss} {L : Nat → Od} {v : Value} (h : Rwb w0 w p r base b c x n L v) : Rws w0 w p r base x n L v := by
  obtain ⟨S, C, f, h1, h2, h3, _, h4, h5, _, B⟩ := h
  exact ⟨S, C, f, h1, h2, fun k hk => ⟨(h3 k hk).1, (h3 k hk).2.1⟩, h4, h5, B⟩
theorem Rwb.nine {w0 w : World} {p r base b n : Nat} {c : Opc} {x : Ss} {L : Nat → Od} {v : Value} (h : Rwb w0 w p r base b c x n L v) : Nine w b c ∧ ∀ j, w.frozen? ⟨b, j, none⟩ = false := by
  obtain ⟨S, C, f, h1, h2, h3, _, h4, h5, n, B⟩ := h
  exact n
theorem Rwb.new {w0 w : World} {p r base n : Nat} {x : Ss} {L : Nat → Od} {v : Value} (h : Rws w0 w p r base x n L v) (c : Opc) : Rwb w0 (w.alloc (.cells c.cells 36)) p r base w.heap.size c x n L v := by
  obtain ⟨S, C, f, h1, h2, h3, h4, h5, B⟩ := h
  have k := below1 w (.cells c.cells 36)
  refine ⟨S, C, f, h1.below k, own_below h2 k, fun k hk => ⟨(h3 k hk).1, (h3 k hk).2, fun e => ?_⟩, ⟨fun e => ?_, B.size⟩, h4, Nat.le_trans h5 k.size, ⟨⟨by simp, by simp, by simp, by simp, by simp, by simp, by simp, by simp, by simp⟩, fun j => by simp⟩, B.trans (k.mono B.size)⟩
  · have := h1.there hk; omega
  · have := (h2.lt _ e).2; omega
theorem Rwb.below {w' : World} {w0 w : World} {p r base b n : Nat} {c : Opc} {x : Ss} {L : Nat → Od} {v : Value} (h : Rwb w0 w p r base b c x n L v) (k : Below w.heap.size w w') : Rwb w0 w' p r base b c x n L v := by
  obtain ⟨S, C, f, h1, h2, h3, hb, h4, h5, n, B⟩ := h
  exact ⟨S, C, f, h1.below k, own_below h2 k, h3, hb, h4, Nat.le_trans h5 k.size, ⟨n.1.kept (T := fun _ => False) (But.of_below k) id, fun j => (k.frozen (p := ⟨b, j, none⟩) n.1.lt).trans (n.2 j)⟩, B.trans (k.mono B.size)⟩
theorem Rwb.prog {w0 w w' : World} {p r base b n : Nat} {S : Option Addr} {c : Opc} {x' : Ss} {L : Nat → Od} {v : Value} (h2 : w.ownsRow base 34 7 v n (allO L n)) (h3 : ∀ k, ownS p r S k → w0.heap.size ≤ k ∧ ¬ v.ownBlock = some k ∧ k ≠ b) (hb : ¬ v.ownBlock = some b ∧ w0.heap.size ≤ b) (h4 : w0.heap.size ≤ base) (h5 : base ≤ w.heap.size) (hn : Nine w b c ∧ ∀ j, w.frozen? ⟨b, j, none⟩ = false) (B : Below w0.heap.size w0 w) (k : SesOk w w' p r S x') : Rwb w0 w' p r base b c x' n L v := by
  obtain ⟨S', C', f', h', bt, o⟩ := k
  have hnb : ¬ ownS p r S b := fun e => (h3 b e).2.2 rfl
  refine ⟨S', C', f', h', own_kept h2 bt (fun g hg e => (h3 g e).2.1 hg), fun j hj => ?_, hb, h4, Nat.le_trans h5 bt.size, ⟨hn.1.kept bt hnb, fun j => (bt.frozen hn.1.lt hnb).trans (hn.2 j)⟩, B.trans (bt.below B.size (fun i hi => (h3 i hi).1))⟩
  rcases o j hj with e | e
  · exact h3 j e
  · exact ⟨Nat.le_trans B.size e, fun e' => by have := (h2.lt j e').2; omega, fun e' => by have := hn.1.lt; omega⟩
theorem rw_send {w0 w : World} {p r base b n : Nat} {c : Opc} {x : Ss} {L : Nat → Od} {v : Value} (h : Rwb w0 w p r base b c x n L v) (o : Od) (hl : x.sn ≤ 4096) : Calls Try.prog 15 #[.pointer (some ⟨p, 0, none⟩), oV o] w fun e w' => e = .returned (.tuple #[.int .i64 (sndN x o), .int .i64 (sndE x o)]) ∧ Hid (Rwb w0 w' p r base b c (sndX x o) n L v) := by
  obtain ⟨S, C, f, h1, h2, h3, hb, h4, h5, n, B⟩ := h
  exact (send_any h1 o hl).mono fun _ _ ⟨he, k⟩ => ⟨he, Rwb.prog h2 h3 hb h4 h5 n B k⟩
theorem rw_pop {w0 w : World} {p r base b n : Nat} {c : Opc} {x : Ss} {L : Nat → Od} {v : Value} (h : Rwb w0 w p r base b c x n L v) : Calls Try.prog 16 #[.pointer (some ⟨p, 0, none⟩)] w fun e w' => e = .returned (.tuple #[oV (popO x), .int .i64 (popE x)]) ∧ Hid (Rwb w0 w' p r base b c (popX x) n L v) := by
  obtain ⟨S, C, f, h1, h2, h3, hb, h4, h5, n, B⟩ := h
  exact (spop_any h1).mono fun _ _ ⟨he, k⟩ => ⟨he, Rwb.prog h2 h3 hb h4 h5 n B k⟩
theorem rw_take {w0 w : World} {p r base b n : Nat} {c : Opc} {x : Ss} {L : Nat → Od} {v : Value} (h : Rwb w0 w p r base b c x n L v) (m : Int) (hm : m ≤ 9223372036854775807) (hl : x.tk ≤ 4096) : Calls Try.prog 20 #[.pointer (some ⟨p, 0, none⟩), .int .i64 m] w fun e w' => e = .returned (.int .i64 (tkE x m)) ∧ Hid (Rwb w0 w' p r base b c (tkX x m) n L v) := by
  obtain ⟨S, C, f, h1, h2, h3, hb, h4, h5, n, B⟩ := h
  exact (take_any h1 m hm hl).mono fun _ _ ⟨he, k⟩ => ⟨he, Rwb.prog h2 h3 hb h4 h5 n B k⟩
theorem rw_down {w0 w : World} {p r base b n : Nat} {c : Opc} {x : Ss} {L : Nat → Od} {v : Value} (h : Rwb w0 w p r base b c x n L v) : Calls Try.prog 18 #[.pointer (some ⟨p, 0, none⟩)] w fun e w' => e = .returned (.tuple #[]) ∧ Hid (Rwb w0 w' p r base b c (dnX x true) n L v) := by
  obtain ⟨S, C, f, h1, h2, h3, hb, h4, h5, n, B⟩ := h
  exact (down_any h1).mono fun _ _ ⟨he, k⟩ => ⟨he, Rwb.prog h2 h3 hb h4 h5 n B k⟩
theorem rw_up {w0 w : World} {p r base b n : Nat} {c : Opc} {x : Ss} {L : Nat → Od} {v : Value} (h : Rwb w0 w p r base b c x n L v) : Calls Try.prog 19 #[.pointer (some ⟨p, 0, none⟩)] w fun e w' => e = .returned (.tuple #[]) ∧ Hid (Rwb w0 w' p r base b c (dnX x false) n L v) := by
  obtain ⟨S, C, f, h1, h2, h3, hb, h4, h5, n, B⟩ := h
  exact (up_any h1).mono fun _ _ ⟨he, k⟩ => ⟨he, Rwb.prog h2 h3 hb h4 h5 n B k⟩
/-- Another number in the step's order. -/
theorem Rwb.number {w0 w : World} {p r base b n : Nat} {ok on : Int} {o : Od} {x : Ss} {L : Nat → Od} {v : Value} (h : Rwb w0 w p r base b ⟨ok, on, o⟩ x n L v) (z : Int) : Rwb w0 (w.setCell ⟨b, 3, none⟩ (.int .i64 z)) p r base b ⟨ok, on, num o z⟩ x n L v := by
  obtain ⟨S, C, f, h1, h2, h3, hb, h4, h5, n, B⟩ := h
  have k : But (fun j => j = b) w (w.setCell ⟨b, 3, none⟩ (.int .i64 z)) := (But.refl _ w).setCell b 3 _ (fun _ => rfl)
  have e : ∀ j, j ≠ 3 → (w.setCell ⟨b, 3, none⟩ (.int .i64 z)).cell? ⟨b, j, none⟩ = w.cell? ⟨b, j, none⟩ := fun j hj => World.cell?_setCell_other _ _ _ _ (nep (fun e => hj e.symm))
  refine ⟨S, C, f, h1.kept k (fun i hi e => (h3 i hi).2.2 e), own_kept h2 k (fun g hg e => hb.1 (e ▸ hg)), h3, hb, h4, Nat.le_trans h5 k.size, ⟨⟨(e 0 (by decide)).trans n.1.n0, (e 1 (by decide)).trans n.1.n1, (e 2 (by decide)).trans n.1.n2, World.cell?_setCell_same' _ _ _ (by rw [n.1.n3]; rfl), (e 4 (by decide)).trans n.1.n4, (e 5 (by decide)).trans n.1.n5, (e 6 (by decide)).trans n.1.n6, (e 7 (by decide)).trans n.1.n7, (e 8 (by decide)).trans n.1.n8⟩, fun j => by rw [World.frozen?_setCell]; exact n.2 j⟩, B.trans (k.below B.size (fun i e => by rw [e]; exact hb.2))⟩
/-- The list is one longer. -/
theorem Rwb.more {w0 w w1 w2 : World} {p r base b n : Nat} {c : Opc} {x : Ss} {L : Nat → Od} {v v' : Value} {o : Od} (h : Rwb w0 w p r base b c x n L v) (k1 : Below w.heap.size w w1) (hg : w1.grownBy w2 v.ownBlock) (ho : w2.ownsRow base 34 7 v' (n + 1) (allO L n ++ cellsO o)) (hat : v'.ownBlock = v.ownBlock ∨ v'.ownBlock = some w1.heap.size) : Rws w0 w2 p r base x (n + 1) (upd L n o) v' := by
  obtain ⟨S, C, f, h1, h2, h3, hb, h4, h5, nn, B⟩ := h
  have BG := But.of_grown hg
  have hs := k1.size
  refine ⟨S, C, f, (h1.below k1).kept BG (fun i hi e => (h3 i hi).2.1 e), by rw [allO_more]; exact ho, fun k hk => ⟨(h3 k hk).1, fun e => ?_⟩, h4, Nat.le_trans h5 (Nat.le_trans hs BG.size), (B.trans (k1.mono B.size)).trans (BG.below (Nat.le_trans B.size hs) (fun i e => Nat.le_trans h4 (h2.lt i e).1))⟩
  rcases hat with q | q
  · rw [q] at e; exact (h3 k hk).2.1 e
  · rw [q] at e
    injection e with e
    have := h1.there hk
    omega
end Go.Proofs.Ytlgnbnojjfgfmaa.SN
