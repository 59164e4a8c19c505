/-
  A session newer than a world; the contract of awake (the chapter's example).
-/
import Derived.Test.YtlgnbnojjfgfmaaSnSend
namespace Go.Proofs.Ytlgnbnojjfgfmaa.SN
open Go.ChangeShapes Go.WideShapes Go.ChangeAt Go.RowKit Go.Lib

/-- A session all of whose blocks are newer than w0. -/
def One (w0 w : World) (p r : Nat) (x : Ss) : Prop := ∃ S C f, SesAt w p r S C f x ∧ (∀ k, ownS p r S k → w0.heap.size ≤ k) ∧ Below w0.heap.size w0 w
theorem One.next {w0 w w' : World} {p r C f : Nat} {S : Option Addr} {x y : Ss} (_h : SesAt w p r S C f x) (lo : ∀ k, ownS p r S k → w0.heap.size ≤ k) (B : Below w0.heap.size w0 w) (k : SesOk w w' p r S y) : One w0 w' p r y := by
  obtain ⟨S', C', f', h', b, o⟩ := k
  exact ⟨S', C', f', h', fun j hj => (o j hj).elim (lo j) (fun e => Nat.le_trans B.size e), B.trans (b.below B.size lo)⟩
theorem One.lt {w0 w : World} {p r : Nat} {x : Ss} (h : One w0 w p r x) : p < w.heap.size := by
  obtain ⟨S, C, f, h, _, _⟩ := h
  exact h.six.lt
theorem One.bel {w0 w : World} {p r : Nat} {x : Ss} (h : One w0 w p r x) : Below w0.heap.size w0 w := by
  obtain ⟨S, C, f, _, _, b⟩ := h
  exact b
theorem one_take {w0 w : World} {p r : Nat} {x : Ss} (h : One w0 w p r x) (n : Int) (hn : n ≤ 9223372036854775807) (ht : x.tk ≤ 4096) : Calls Try.prog 20 #[.pointer (some ⟨p, 0, none⟩), .int .i64 n] w fun e w' => e = .returned (.int .i64 (tkE x n)) ∧ Hid (One w0 w' p r (tkX x n)) := by
  obtain ⟨S, C, f, h, lo, B⟩ := h
  exact (take_any h n hn ht).mono fun _ _ ⟨he, k⟩ => ⟨he, One.next h lo B k⟩
theorem one_send {w0 w : World} {p r : Nat} {x : Ss} (h : One w0 w p r x) (o : Od) (hs : x.sn ≤ 4096) : Calls Try.prog 15 #[.pointer (some ⟨p, 0, none⟩), oV o] w fun e w' => e = .returned (.tuple #[.int .i64 (sndN x o), .int .i64 (sndE x o)]) ∧ Hid (One w0 w' p r (sndX x o)) := by
  obtain ⟨S, C, f, h, lo, B⟩ := h
  exact (send_any h o hs).mono fun _ _ ⟨he, k⟩ => ⟨he, One.next h lo B k⟩
theorem one_pop {w0 w : World} {p r : Nat} {x : Ss} (h : One w0 w p r x) : Calls Try.prog 16 #[.pointer (some ⟨p, 0, none⟩)] w fun e w' => e = .returned (.tuple #[oV (popO x), .int .i64 (popE x)]) ∧ Hid (One w0 w' p r (popX x)) := by
  obtain ⟨S, C, f, h, lo, B⟩ := h
  exact (spop_any h).mono fun _ _ ⟨he, k⟩ => ⟨he, One.next h lo B k⟩
theorem one_new (room : Nat) (w : World) (h1 : 0 < room) (h2 : room ≤ 1024) : Calls Try.prog 8 #[.int .i64 (room : Int)] w fun e w' => e = .returned (.tuple #[.pointer (some ⟨w.heap.size + 1, 0, none⟩), .int .i64 0]) ∧ Hid (One w w' (w.heap.size + 1) w.heap.size (newX room)) :=
  (snew_yes room w h1 h2).mono fun _ _ ⟨he, h, b, _⟩ => ⟨he, none, 0, 0, h, fun k hk => (by
    rcases hk with e | e | e
    · omega
    · omega
    · cases e), b⟩
/-- The chapter's example: the session behind its calls. -/
def aw : Nat → Ss
  | 0 => newX 2
  | 1 => tkX (newX 2) 1
  | 2 => tkX (tkX (newX 2) 1) 1
  | 3 => tkX (tkX (tkX (newX 2) 1) 1) 3
  | 4 => tkX (tkX (tkX (tkX (newX 2) 1) 1) 3) 2
  | _ => sndX (tkX (tkX (tkX (tkX (newX 2) 1) 1) 3) 2) ⟨2, 0, ⟨#[99]⟩, ⟨#[]⟩, 0, 0, 0⟩
def aO : Od := ⟨2, 0, ⟨#[99]⟩, ⟨#[]⟩, 0, 0, 0⟩
theorem aO_right : rgO aO = true := by decide +kernel
theorem aw_tk : tkE (aw 0) 1 = 0 ∧ tkE (aw 1) 1 = 220 ∧ tkE (aw 2) 3 = 221 ∧ tkE (aw 3) 2 = 0 := by decide +kernel
theorem aw_snd : sndE (aw 4) aO = 0 ∧ sndN (aw 4) aO = 1 ∧ popE (aw 5) = 0 := by decide +kernel
theorem aw_pop : popO (aw 5) = ⟨2, 1, ⟨#[99]⟩, ⟨#[]⟩, 0, 0, 0⟩ := by
  have e : sndE (aw 4) aO = 0 := aw_snd.1
  have e5 : aw 5 = ⟨2, 1, 0, 2, 0, false, upd (fun _ => o0) 0 ⟨2, 1, ⟨#[99]⟩, ⟨#[]⟩, 0, 0, 0⟩⟩ := by
    show sndX (aw 4) aO = _
    unfold sndX
    rw [if_pos e]
    rfl
  rw [e5]
  rfl
set_option maxRecDepth 100000 in
set_option maxHeartbeats 8000000 in
theorem awake_any (w : World) : Calls Try.prog 6 #[] w fun e w' => e = .returned (.bool true) ∧ Below w.heap.size w w' := by
  have F0 := one_new 2 w (by omega) (by omega)
  have F1 : ∀ w', One w w' (w.heap.size + 1) w.heap.size (aw 0) → _ := fun w' h => one_take h 1 (by omega) (by decide)
  have F2 : ∀ w', One w w' (w.heap.size + 1) w.heap.size (aw 1) → _ := fun w' h => one_take h 1 (by omega) (by decide)
  have F3 : ∀ w', One w w' (w.heap.size + 1) w.heap.size (aw 2) → _ := fun w' h => one_take h 3 (by omega) (by decide)
  have F4 : ∀ w', One w w' (w.heap.size + 1) w.heap.size (aw 3) → _ := fun w' h => one_take h 2 (by omega) (by decide)
  have F5 : ∀ w', One w w' (w.heap.size + 1) w.heap.size (aw 4) → _ := fun w' h => one_send h aO (by decide)
  have F6 : ∀ w', One w w' (w.heap.size + 1) w.heap.size (aw 5) → _ := fun w' h => one_pop h
  rw [aw_tk.1] at F1
  rw [aw_tk.2.1] at F2
  rw [aw_tk.2.2.1] at F3
  rw [aw_tk.2.2.2] at F4
  rw [aw_snd.1, aw_snd.2.1] at F5
  rw [aw_snd.2.2, aw_pop] at F6
  dsimp only [oV, aO] at F5 F6
  go_enter Try.func6, Try.ntmps6
  go_wp2_with fail
  refine F0.mono ?_
  rintro e w1 ⟨rfl, h1⟩
  have G := F1 w1 h1.out
  clear F0 F1 h1
  go_wp2_with fail
  refine G.mono ?_
  rintro e w2 ⟨rfl, h1⟩
  clear G
  have G := F2 w2 h1.out
  clear F2 h1
  go_wp2_with fail
  refine G.mono ?_
  rintro e w3 ⟨rfl, h1⟩
  clear G
  have G := F3 w3 h1.out
  clear F3 h1
  go_wp2_with fail
  refine G.mono ?_
  rintro e w4 ⟨rfl, h1⟩
  clear G
  have G := F4 w4 h1.out
  clear F4 h1
  go_wp2_with fail
  refine G.mono ?_
  rintro e w5 ⟨rfl, h1⟩
  clear G
  have G := F5 w5 h1.out
  clear F5 h1
  go_wp2_with fail
  refine G.mono ?_
  rintro e w6 ⟨rfl, h1⟩
  clear G
  have G := F6 w6 h1.out
  clear F6 h1
  go_wp2_with fail
  refine G.mono ?_
  rintro e w7 ⟨rfl, h1⟩
  have HB : Hid (Below w.heap.size w w7) := h1.out.bel
  clear G h1
  go_wp2_with fail
  go_ret
  exact ⟨rfl, HB.out.alloc HB.out.size _⟩
end Go.Proofs.Ytlgnbnojjfgfmaa.SN
