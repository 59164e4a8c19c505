/-
  Sessions: what each call answers and makes (plain); a session in memory.
-/
import Derived.Test.YtlgnbnojjfgfmaaSnPush
import Derived.Test.YtlgnbnojjfgfmaaSnPop
import Derived.Test.YtlgnbnojjfgfmaaPostRightO
namespace Go.Proofs.Ytlgnbnojjfgfmaa.SN
open Go.ChangeShapes Go.WideShapes Go.ChangeAt Go.RowKit Go.Lib

/-- An order, its fields by places. -/
def th (o : Od) : PP.ThP := (fun j => if j = 2 then o.i else if j = 3 then o.y else ⟨#[]⟩, fun j => if j = 0 then o.k else if j = 1 then o.s else if j = 4 then o.d else if j = 5 then o.q else if j = 6 then o.p else 0)
/-- An order with another number. -/
def num (o : Od) (n : Int) : Od := ⟨o.k, n, o.i, o.y, o.d, o.q, o.p⟩
/-- Whether an order, with the number 1, is right. -/
def rgO (o : Od) : Bool := PP.O.rightB (th (num o 1))
/-- What a session is: its room, how many orders were sent, how many of them came out, the last reply, the faults, whether it is down; all orders that were sent. -/
structure Ss where
  room : Nat
  sn : Nat
  out : Nat
  tk : Nat
  fa : Nat
  dn : Bool
  L : Nat → Od
/-- Send: the error's number, the order's number, the session behind it. -/
def sndE (x : Ss) (o : Od) : Int := if rgO o = false then 2 else if x.dn = true then 222 else if x.room ≤ x.sn - x.out then 40 else 0
def sndN (x : Ss) (o : Od) : Int := if sndE x o = 0 then (x.sn : Int) + 1 else 0
def sndX (x : Ss) (o : Od) : Ss := if sndE x o = 0 then ⟨x.room, x.sn + 1, x.out, x.tk, x.fa, x.dn, upd x.L x.sn (num o ((x.sn : Int) + 1))⟩ else x
/-- Pop. -/
def popE (x : Ss) : Int := if x.sn ≤ x.out then 50 else 0
def popO (x : Ss) : Od := if x.sn ≤ x.out then o0 else x.L x.out
def popX (x : Ss) : Ss := if x.sn ≤ x.out then x else ⟨x.room, x.sn, x.out + 1, x.tk, x.fa, x.dn, x.L⟩
/-- Take. -/
def tkE (x : Ss) (n : Int) : Int := if n ≤ x.tk then 220 else if (x.tk : Int) + 1 < n then 221 else 0
def tkX (x : Ss) (n : Int) : Ss := if tkE x n = 0 then ⟨x.room, x.sn, x.out, x.tk + 1, x.fa, x.dn, x.L⟩ else x
/-- Fault, Down and Up. -/
def faX (x : Ss) : Ss := ⟨x.room, x.sn, x.out, x.tk, x.fa + 1, x.dn, x.L⟩
def dnX (x : Ss) (b : Bool) : Ss := ⟨x.room, x.sn, x.out, x.tk, x.fa, b, x.L⟩
/-- Healthy. -/
def hlB (x : Ss) : Bool := !x.dn && decide (x.fa = 0)
theorem snd_bad {x : Ss} {o : Od} (h : rgO o = false) : sndE x o = 2 ∧ sndN x o = 0 ∧ sndX x o = x := by
  have e : sndE x o = 2 := if_pos h
  exact ⟨e, by unfold sndN; rw [e, if_neg (by decide)], by unfold sndX; rw [e, if_neg (by decide)]⟩
theorem snd_down {x : Ss} {o : Od} (h : rgO o = true) (h2 : x.dn = true) : sndE x o = 222 ∧ sndN x o = 0 ∧ sndX x o = x := by
  have e : sndE x o = 222 := by unfold sndE; rw [if_neg (by rw [h]; decide), if_pos h2]
  exact ⟨e, by unfold sndN; rw [e, if_neg (by decide)], by unfold sndX; rw [e, if_neg (by decide)]⟩
theorem snd_full {x : Ss} {o : Od} (h : rgO o = true) (h2 : x.dn = false) (h3 : x.room ≤ x.sn - x.out) : sndE x o = 40 ∧ sndN x o = 0 ∧ sndX x o = x := by
  have e : sndE x o = 40 := by unfold sndE; rw [if_neg (by rw [h]; decide), if_neg (by rw [h2]; decide), if_pos h3]
  exact ⟨e, by unfold sndN; rw [e, if_neg (by decide)], by unfold sndX; rw [e, if_neg (by decide)]⟩
theorem snd_ok {x : Ss} {o : Od} (h : rgO o = true) (h2 : x.dn = false) (h3 : ¬ x.room ≤ x.sn - x.out) : sndE x o = 0 ∧ sndN x o = (x.sn : Int) + 1 ∧ sndX x o = ⟨x.room, x.sn + 1, x.out, x.tk, x.fa, x.dn, upd x.L x.sn (num o ((x.sn : Int) + 1))⟩ := by
  have e : sndE x o = 0 := by unfold sndE; rw [if_neg (by rw [h]; decide), if_neg (by rw [h2]; decide), if_neg h3]
  exact ⟨e, by unfold sndN; rw [if_pos e], by unfold sndX; rw [if_pos e]⟩
theorem tk_low {x : Ss} {n : Int} (h : n ≤ x.tk) : tkE x n = 220 ∧ tkX x n = x := by
  have e : tkE x n = 220 := if_pos h
  exact ⟨e, by unfold tkX; rw [e, if_neg (by decide)]⟩
theorem tk_high {x : Ss} {n : Int} (h : (x.tk : Int) + 1 < n) : tkE x n = 221 ∧ tkX x n = x := by
  have e : tkE x n = 221 := by unfold tkE; rw [if_neg (by omega), if_pos h]
  exact ⟨e, by unfold tkX; rw [e, if_neg (by decide)]⟩
theorem tk_ok {x : Ss} : tkE x ((x.tk : Int) + 1) = 0 ∧ tkX x ((x.tk : Int) + 1) = ⟨x.room, x.sn, x.out, x.tk + 1, x.fa, x.dn, x.L⟩ := by
  have e : tkE x ((x.tk : Int) + 1) = 0 := by unfold tkE; rw [if_neg (by omega), if_neg (by omega)]
  exact ⟨e, by unfold tkX; rw [if_pos e]⟩
/-- It counts no further than N. -/
def Lim (x : Ss) (N : Nat) : Prop := x.sn ≤ N ∧ x.tk ≤ N ∧ x.fa ≤ N
theorem Lim.more {x : Ss} {N : Nat} (h : Lim x N) : Lim x (N + 1) := ⟨Nat.le_succ_of_le h.1, Nat.le_succ_of_le h.2.1, Nat.le_succ_of_le h.2.2⟩
theorem Lim.snd {x : Ss} {N : Nat} (h : Lim x N) (o : Od) : Lim (sndX x o) (N + 1) := by
  unfold sndX
  split
  · exact ⟨Nat.succ_le_succ h.1, Nat.le_succ_of_le h.2.1, Nat.le_succ_of_le h.2.2⟩
  · exact h.more
theorem Lim.pop {x : Ss} {N : Nat} (h : Lim x N) : Lim (popX x) (N + 1) := by
  unfold popX
  split
  · exact h.more
  · exact ⟨Nat.le_succ_of_le h.1, Nat.le_succ_of_le h.2.1, Nat.le_succ_of_le h.2.2⟩
theorem Lim.tk {x : Ss} {N : Nat} (h : Lim x N) (n : Int) : Lim (tkX x n) (N + 1) := by
  unfold tkX
  split
  · exact ⟨Nat.le_succ_of_le h.1, Nat.succ_le_succ h.2.1, Nat.le_succ_of_le h.2.2⟩
  · exact h.more
theorem Lim.fa {x : Ss} {N : Nat} (h : Lim x N) : Lim (faX x) (N + 1) := ⟨Nat.le_succ_of_le h.1, Nat.le_succ_of_le h.2.1, Nat.succ_le_succ h.2.2⟩
theorem Lim.dn {x : Ss} {N : Nat} (h : Lim x N) (b : Bool) : Lim (dnX x b) (N + 1) := ⟨Nat.le_succ_of_le h.1, Nat.le_succ_of_le h.2.1, Nat.le_succ_of_le h.2.2⟩

/-- The six cells of a session in block p, its ring in block r. -/
structure Six (w : World) (p r : Nat) (x : Ss) : Prop where
  c0 : w.cell? ⟨p, 0, none⟩ = some (.pointer (some ⟨r, 0, none⟩))
  c1 : w.cell? ⟨p, 1, none⟩ = some (.bool true)
  c2 : w.cell? ⟨p, 2, none⟩ = some (.int .i64 (x.sn : Int))
  c3 : w.cell? ⟨p, 3, none⟩ = some (.int .i64 (x.tk : Int))
  c4 : w.cell? ⟨p, 4, none⟩ = some (.int .i64 (x.fa : Int))
  c5 : w.cell? ⟨p, 5, none⟩ = some (.bool x.dn)
  thaw : ∀ j, w.frozen? ⟨p, j, none⟩ = false
theorem Six.lt {w : World} {p r : Nat} {x : Ss} (h : Six w p r x) : p < w.heap.size := World.block_lt_of_cell? _ _ h.c0
theorem Six.kept {T : Nat → Prop} {w w' : World} {p r : Nat} {x : Ss} (h : Six w p r x) (k : But T w w') (hp : ¬ T p) : Six w' p r x :=
  ⟨(k.cell h.lt hp).trans h.c0, (k.cell h.lt hp).trans h.c1, (k.cell h.lt hp).trans h.c2, (k.cell h.lt hp).trans h.c3, (k.cell h.lt hp).trans h.c4, (k.cell h.lt hp).trans h.c5, fun j => (k.frozen h.lt hp).trans (h.thaw j)⟩
theorem nep {p i j : Nat} (h : i ≠ j) : (⟨p, i, none⟩ : Addr) ≠ ⟨p, j, none⟩ := fun e => by injection e with _ e2; exact h e2
theorem Six.set2 {w : World} {p r : Nat} {x y : Ss} (h : Six w p r x) (n : Int) (e : n = (y.sn : Int)) (e3 : y.tk = x.tk) (e4 : y.fa = x.fa) (e5 : y.dn = x.dn) : Six (w.setCell ⟨p, 2, none⟩ (.int .i64 n)) p r y := by
  refine ⟨?_, ?_, ?_, ?_, ?_, ?_, fun j => by rw [World.frozen?_setCell]; exact h.thaw j⟩
  · rw [World.cell?_setCell_other _ _ _ _ (nep (by decide))]; exact h.c0
  · rw [World.cell?_setCell_other _ _ _ _ (nep (by decide))]; exact h.c1
  · rw [World.cell?_setCell_same' _ _ _ (by rw [h.c2]; rfl), e]
  · rw [World.cell?_setCell_other _ _ _ _ (nep (by decide)), e3]; exact h.c3
  · rw [World.cell?_setCell_other _ _ _ _ (nep (by decide)), e4]; exact h.c4
  · rw [World.cell?_setCell_other _ _ _ _ (nep (by decide)), e5]; exact h.c5
theorem Six.set3 {w : World} {p r : Nat} {x y : Ss} (h : Six w p r x) (n : Int) (e : n = (y.tk : Int)) (e2 : y.sn = x.sn) (e4 : y.fa = x.fa) (e5 : y.dn = x.dn) : Six (w.setCell ⟨p, 3, none⟩ (.int .i64 n)) p r y := by
  refine ⟨?_, ?_, ?_, ?_, ?_, ?_, fun j => by rw [World.frozen?_setCell]; exact h.thaw j⟩
  · rw [World.cell?_setCell_other _ _ _ _ (nep (by decide))]; exact h.c0
  · rw [World.cell?_setCell_other _ _ _ _ (nep (by decide))]; exact h.c1
  · rw [World.cell?_setCell_other _ _ _ _ (nep (by decide)), e2]; exact h.c2
  · rw [World.cell?_setCell_same' _ _ _ (by rw [h.c3]; rfl), e]
  · rw [World.cell?_setCell_other _ _ _ _ (nep (by decide)), e4]; exact h.c4
  · rw [World.cell?_setCell_other _ _ _ _ (nep (by decide)), e5]; exact h.c5
theorem Six.set4 {w : World} {p r : Nat} {x : Ss} (h : Six w p r x) : Six (w.setCell ⟨p, 4, none⟩ (.int .i64 ((x.fa : Int) + 1))) p r (faX x) := by
  refine ⟨?_, ?_, ?_, ?_, ?_, ?_, fun j => by rw [World.frozen?_setCell]; exact h.thaw j⟩
  · rw [World.cell?_setCell_other _ _ _ _ (nep (by decide))]; exact h.c0
  · rw [World.cell?_setCell_other _ _ _ _ (nep (by decide))]; exact h.c1
  · rw [World.cell?_setCell_other _ _ _ _ (nep (by decide))]; exact h.c2
  · rw [World.cell?_setCell_other _ _ _ _ (nep (by decide))]; exact h.c3
  · rw [World.cell?_setCell_same' _ _ _ (by rw [h.c4]; rfl)]; rfl
  · rw [World.cell?_setCell_other _ _ _ _ (nep (by decide))]; exact h.c5
theorem Six.set5 {w : World} {p r : Nat} {x : Ss} (h : Six w p r x) (b : Bool) : Six (w.setCell ⟨p, 5, none⟩ (.bool b)) p r (dnX x b) := by
  refine ⟨?_, ?_, ?_, ?_, ?_, ?_, fun j => by rw [World.frozen?_setCell]; exact h.thaw j⟩
  · rw [World.cell?_setCell_other _ _ _ _ (nep (by decide))]; exact h.c0
  · rw [World.cell?_setCell_other _ _ _ _ (nep (by decide))]; exact h.c1
  · rw [World.cell?_setCell_other _ _ _ _ (nep (by decide))]; exact h.c2
  · rw [World.cell?_setCell_other _ _ _ _ (nep (by decide))]; exact h.c3
  · rw [World.cell?_setCell_other _ _ _ _ (nep (by decide))]; exact h.c4
  · rw [World.cell?_setCell_same' _ _ _ (by rw [h.c5]; rfl)]; rfl
/-- A session in memory. -/
structure SesAt (w : World) (p r : Nat) (S : Option Addr) (C f : Nat) (x : Ss) : Prop where
  six : Six w p r x
  rng : Rng w r S C f x.room (x.sn - x.out) (fun i => x.L (x.out + i))
  apart : ¬ own r S p
  ord : x.out ≤ x.sn
/-- The blocks that are a session's own. -/
def ownS (p r : Nat) (S : Option Addr) (k : Nat) : Prop := k = p ∨ own r S k
theorem SesAt.there {w : World} {p r C f : Nat} {S : Option Addr} {x : Ss} (h : SesAt w p r S C f x) {k : Nat} (hk : ownS p r S k) : k < w.heap.size := by
  rcases hk with rfl | hk
  · exact h.six.lt
  · exact h.rng.there hk
theorem SesAt.kept {T : Nat → Prop} {w w' : World} {p r C f : Nat} {S : Option Addr} {x : Ss} (h : SesAt w p r S C f x) (k : But T w w') (hT : ∀ i, ownS p r S i → ¬ T i) : SesAt w' p r S C f x :=
  ⟨h.six.kept k (hT p (.inl rfl)), h.rng.kept k (fun i hi => hT i (.inr hi)), h.apart, h.ord⟩
theorem SesAt.below {w w' : World} {p r C f : Nat} {S : Option Addr} {x : Ss} (h : SesAt w p r S C f x) (k : Below w.heap.size w w') : SesAt w' p r S C f x :=
  h.kept (T := fun _ => False) (But.of_below k) (fun _ _ => id)
/-- A session behind a call: only its own blocks changed. -/
def SesOk (w w' : World) (p r : Nat) (S : Option Addr) (x : Ss) : Prop := ∃ S' C' f', SesAt w' p r S' C' f' x ∧ But (ownS p r S) w w' ∧ ∀ k, ownS p r S' k → ownS p r S k ∨ w.heap.size ≤ k
theorem SesAt.ok {w w' : World} {p r C f : Nat} {S : Option Addr} {x : Ss} (h : SesAt w p r S C f x) (k : Below w.heap.size w w') : SesOk w w' p r S x :=
  ⟨S, C, f, h.below k, But.of_below k, fun _ hk => .inl hk⟩
/-- One of its cells was written. -/
theorem SesAt.wrote {w w' : World} {p r C f : Nat} {S : Option Addr} {x y : Ss} (h : SesAt w p r S C f x) (s : Six w' p r y) (k : But (fun j => j = p) w w') (e0 : y.room = x.room) (e1 : y.sn = x.sn) (e2 : y.out = x.out) (e3 : y.L = x.L) : SesOk w w' p r S y := by
  refine ⟨S, C, f, ⟨s, ?_, h.apart, ?_⟩, k.mono (fun _ _ e => .inl e), fun _ hk => .inl hk⟩
  · rw [e0, e1, e2, e3]
    exact h.rng.kept k (fun i hi e => h.apart (e ▸ hi))
  · rw [e1, e2]; exact h.ord
/-- A session that is none. -/
def NoSes (w : World) (v : Value) : Prop := v = .pointer none ∨ ∃ b, v = .pointer (some ⟨b, 0, none⟩) ∧ w.cell? ⟨b, 1, none⟩ = some (.bool false)
theorem NoSes.below {w w' : World} {v : Value} (h : NoSes w v) (k : Below w.heap.size w w') : NoSes w' v := by
  rcases h with h | ⟨b, e, h⟩
  · exact .inl h
  · exact .inr ⟨b, e, by rw [k.cell (p := ⟨b, 1, none⟩) (World.block_lt_of_cell? _ _ h)]; exact h⟩
end Go.Proofs.Ytlgnbnojjfgfmaa.SN
