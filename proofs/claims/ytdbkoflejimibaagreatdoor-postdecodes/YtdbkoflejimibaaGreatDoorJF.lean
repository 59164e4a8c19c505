/-
  Contracts of the functions that fields hands on (Order): each puts a field behind the others.
-/
import Derived.Deep.RegionHeld3
import Derived.Laws.EntriesVeiled
import Derived.Test.YtdbkoflejimibaaGreatDoorJA
import Derived.Test.YtdbkoflejimibaaGreatDoorJB
import Derived.Test.YtdbkoflejimibaaGreatDoorJD
import Derived.Test.YtdbkoflejimibaaGreatDoorGB
namespace Go.Proofs.YtdbkoflejimibaaGreatDoor.PP.O
open Go.ChangeShapes Go.WideShapes Go.ChangeAt Go.RowKit Go.Lib

set_option maxRecDepth 1000000 in
set_option maxHeartbeats 4000000 in
theorem put_at1 {w : World} {lb bs : Nat} {v : Value} {L : List Fd} (h : LstB w lb bs v L) (hL : L.length ≤ 1000) (tg : Int) (s : ByteArray) :
    Calls Tryz.prog 42 #[.int .i64 tg, .string s, .pointer (some ⟨lb, 0, none⟩)] w fun e w' => e = .returned (.tuple #[]) ∧ PutOk lb bs v (L ++ [(tg, s)]) w w' := by
  obtain ⟨i0, hi0, hz0, hzs, hzb⟩ := info_parts infoA
  obtain ⟨a, cap, rfl⟩ := own_shape h.own
  have c0 := h.cell
  have H : Hid (LstB w lb bs (.slice a L.length cap) L) := h
  have HL : Hid (L.length ≤ 1000) := hL
  clear h hL
  have b1 : Below w.heap.size w (w.alloc (.cells #[.int .i64 tg, .string s] 98)) := (Below.refl _ w).alloc (Nat.le_refl _) _
  have F4 := H.out.still b1
  have hown := F4.own
  have hz : (w.alloc (.cells #[.int .i64 tg, .string s] 98)).heap.size = w.heap.size + 1 := by simp
  have HZ1 : Hid ((w.alloc (.cells #[.int .i64 tg, .string s] 98)).heap.size = w.heap.size + 1 ∧ bs ≤ w.heap.size) := ⟨hz, H.out.lo⟩
  have HF : Hid (LstB (w.alloc (.cells #[.int .i64 tg, .string s] 98)) lb bs (.slice a L.length cap) L ∧ Below w.heap.size w (w.alloc (.cells #[.int .i64 tg, .string s] 98))) := ⟨F4, b1⟩
  clear F4 b1 hz
  go_enter Tryz.func42, Tryz.ntmps42
  go_wp2_with (at_builtin; refine wpList_append_own_at _ rfl _ _ 65 rfl bs 98 i0 (.agg #[.int .i64 0, .string ⟨#[]⟩]) 2 24 Tryz.underlying65 hi0 hz0 hzs hzb rfl (by decide) _ _ _ rfl hown ⟨w.heap.size, 0, none⟩ 1 1 (fd2 (tg, s)) rfl rfl ?hnews (fd2_one _) ?h63 ?hbytes ?hbase ?_)
  case hnews => exact cell_fd_new w (tg, s) 98
  case h63 => have := HL.out; unfold maxLen; omega
  case hbytes => have := HL.out; omega
  case hbase => have := HZ1.out; omega
  intro v5 w5 hown5 hg5 _ hat5
  obtain ⟨a5, cap5, rfl⟩ := own_shape hown5
  have BG := But.of_grown hg5
  have x5 := (BG.cell (o := 0) HF.out.1.lt HF.out.1.ne).trans HF.out.1.cell
  have y5 := (BG.frozen (o := 0) HF.out.1.lt HF.out.1.ne).trans HF.out.1.fz
  have HZ := lst_close ⟨HF.out.1, HF.out.2, hg5, hown5, by first | exact hat5 | (rw [HZ1.out.1]; exact hat5)⟩
  have HZ' : Hid (PutOk lb bs (.slice a L.length cap) (L ++ [(tg, s)]) w (w5.setCell ⟨lb, 0, none⟩ (.slice a5 (L.length + 1) cap5))) := HZ
  clear hown5 hg5 hat5 BG HZ hown HF c0
  go_wp2_with fail
  go_end0
  exact ⟨rfl, HZ'.out⟩
/-- The functions that fields hands on, in block vb; the one that puts, in block pb; the list, in block lb; k: the kind. -/
structure EV (W w : World) (b lb pb vb : Nat) (k : Int) (L : List Fd) (t : ThP) : Prop where
  at_ : ThAt nm w b t
  lst : ∃ v, LstB w lb W.heap.size v L ∧ ¬ v.ownBlock = some b ∧ ¬ v.ownBlock = some pb ∧ ¬ v.ownBlock = some vb
  pc : w.cell? ⟨pb, 0, none⟩ = some (.func (.func 42) #[] #[.pointer (some ⟨lb, 0, none⟩)])
  v0 : w.cell? ⟨vb, 0, none⟩ = some (.func (.func 43) #[] #[.pointer (some ⟨pb, 0, none⟩)])
  v1 : w.cell? ⟨vb, 1, none⟩ = some (.func (.func 44) #[] #[.pointer (some ⟨pb, 0, none⟩)])
  v2 : w.cell? ⟨vb, 2, none⟩ = some (.func (.func 46) #[] #[.pointer (some ⟨pb, 0, none⟩)])
  kd : t.2 0 = k
  nb : b ≠ lb
  np : pb ≠ lb
  nv : vb ≠ lb
  ll : W.heap.size ≤ lb
  be : Below W.heap.size W w
  pw : Pow W
  nn : ∀ j, j < 7 → nm j = false → 0 ≤ t.2 j ∧ t.2 j ≤ 9223372036854775807
theorem EV.kind {W w : World} {b lb pb vb : Nat} {k : Int} {L : List Fd} {t : ThP} (h : EV W w b lb pb vb k L t) : w.cell? ⟨b, 0, none⟩ = some (.int .i64 k) := by
  rw [← h.kd]
  exact h.at_.num (j := 0) (by omega) rfl
theorem EV.lt {W w : World} {b lb pb vb : Nat} {k : Int} {L : List Fd} {t : ThP} (h : EV W w b lb pb vb k L t) : pb < w.heap.size ∧ vb < w.heap.size := ⟨World.block_lt_of_cell? _ _ h.pc, World.block_lt_of_cell? _ _ h.v0⟩
theorem EV.still {W w w' : World} {b lb pb vb : Nat} {k : Int} {L : List Fd} {t : ThP} (h : EV W w b lb pb vb k L t) (B : Below w.heap.size w w') : EV W w' b lb pb vb k L t := by
  obtain ⟨v, l1, l2, l3, l4⟩ := h.lst
  obtain ⟨lp, lv⟩ := h.lt
  exact ⟨h.at_.still B, ⟨v, l1.still B, l2, l3, l4⟩, (B.cell (p := ⟨pb, 0, none⟩) lp).trans h.pc, (B.cell (p := ⟨vb, 0, none⟩) lv).trans h.v0, (B.cell (p := ⟨vb, 1, none⟩) lv).trans h.v1, (B.cell (p := ⟨vb, 2, none⟩) lv).trans h.v2, h.kd, h.nb, h.np, h.nv, h.ll, h.be.trans (B.mono h.be.size), h.pw, h.nn⟩
theorem EV.drew {W w : World} {b lb pb vb : Nat} {k : Int} {L : List Fd} {t : ThP} (h : EV W w b lb pb vb k L t) : EV W w.drew b lb pb vb k L t := h.still (below_drewN _ 1 _)
/-- Another field is put. -/
theorem EV.put {W w : World} {b lb pb vb : Nat} {k : Int} {L : List Fd} {t : ThP} (h : EV W w b lb pb vb k L t) (hL : L.length ≤ 1000) (tg : Int) (s : ByteArray) :
    Calls Tryz.prog 42 #[.int .i64 tg, .string s, .pointer (some ⟨lb, 0, none⟩)] w fun e w' => e = .returned (.tuple #[]) ∧ EV W w' b lb pb vb k (L ++ [(tg, s)]) t := by
  obtain ⟨v, l1, l2, l3, l4⟩ := h.lst
  obtain ⟨lp, lv⟩ := h.lt
  refine (put_at1 l1 hL tg s).mono ?_
  rintro e w' ⟨rfl, v', L', B', hv⟩
  refine ⟨rfl, h.at_.but B' (fun e => e.elim h.nb l2), ⟨v', L', own_away h.at_.lt l2 v' hv, own_away lp l3 v' hv, own_away lv l4 v' hv⟩, (B'.cell lp (fun e => e.elim h.np l3)).trans h.pc, (B'.cell lv (fun e => e.elim h.nv l4)).trans h.v0, (B'.cell lv (fun e => e.elim h.nv l4)).trans h.v1, (B'.cell lv (fun e => e.elim h.nv l4)).trans h.v2, h.kd, h.nb, h.np, h.nv, h.ll, h.be.trans (B'.below h.be.size (fun j e => ?_)), h.pw, h.nn⟩
  rcases e with rfl | e
  · exact h.ll
  · exact (l1.own.lt j e).1
set_option maxRecDepth 100000 in
set_option maxHeartbeats 4000000 in
theorem EV.name0 {W w : World} {b lb pb vb : Nat} {k : Int} {L : List Fd} {t : ThP} (h : EV W w b lb pb vb k L t) (hL : L.length ≤ 1000) (p : Pl) (h7 : p.off < 7) (hn : nm p.off = true) :
    Calls Tryz.prog 43 #[.int .i64 p.tag, .pointer (some ⟨b, p.off, none⟩), .pointer (some ⟨pb, 0, none⟩)] w fun e w' => e = .returned (.tuple #[]) ∧ EV W w' b lb pb vb k (L ++ [(p.tag, t.1 p.off)]) t := by
  have F := h.drew.put hL p.tag (t.1 p.off)
  have c0 := h.pc
  have c1 := h.at_.text h7 hn
  have HC : Hid (∀ w1, ThAt nm w1 b t → w1.cell? ⟨b, p.off, none⟩ = some (.string (t.1 p.off))) := fun w1 h1 => h1.text h7 hn
  generalize t.1 p.off = s at *
  generalize p.tag = tg at *
  generalize p.off = o at *
  clear h hL
  go_enter Tryz.func43, Tryz.ntmps43
  go_wp2_with fail
  go_region_held3 (fun w' => w'.cell? ⟨pb, 0, none⟩ = some (.func (.func 42) #[] #[.pointer (some ⟨lb, 0, none⟩)]) ∧ w'.cell? ⟨b, o, none⟩ = some (.string s)) (go_keep) ((go_at_call 42; refine F.mono ?_; rintro e w1 ⟨rfl, h1⟩; have H1 : Hid (EV W w1 b lb pb vb k (L ++ [(tg, s)]) t) := h1; have d0 := h1.pc; have d1 := HC.out _ h1.at_; clear h1))
  go_wp2_with fail
  go_end0
  exact ⟨rfl, H1.out⟩
set_option maxRecDepth 100000 in
set_option maxHeartbeats 4000000 in
theorem EV.num0 {W w : World} {b lb pb vb : Nat} {k : Int} {L : List Fd} {t : ThP} (h : EV W w b lb pb vb k L t) (hL : L.length ≤ 1000) (p : Pl) (h7 : p.off < 7) (hn : nm p.off = false) (h0 : 0 ≤ t.2 p.off) (h9 : t.2 p.off ≤ 9223372036854775807) :
    Calls Tryz.prog 44 #[.int .i64 p.tag, .pointer (some ⟨b, p.off, none⟩), .int .i64 p.low, .int .i64 p.high, .pointer (some ⟨pb, 0, none⟩)] w fun e w' => e = .returned (.tuple #[]) ∧ EV W w' b lb pb vb k (L ++ [(p.tag, numT (t.2 p.off))]) t := by
  have TX : Calls Tryz.prog 45 #[.int .i64 (t.2 p.off)] w.drew fun e w' => e = .returned (.string (numT (t.2 p.off))) ∧ Below w.heap.size w w' := by
    have := itoaP (t.2 p.off).toNat (by omega) (h.pw.still (below_more h.be 1))
    rw [show (((t.2 p.off).toNat : Nat) : Int) = t.2 p.off by omega] at this
    exact this.mono fun e w' ⟨he, hb⟩ => ⟨he, below_of_drew hb⟩
  have F : Hid (∀ w1, EV W w1 b lb pb vb k L t → Calls Tryz.prog 42 #[.int .i64 p.tag, .string (numT (t.2 p.off)), .pointer (some ⟨lb, 0, none⟩)] w1 fun e w' => e = .returned (.tuple #[]) ∧ EV W w' b lb pb vb k (L ++ [(p.tag, numT (t.2 p.off))]) t) := fun w1 h1 => h1.put hL p.tag _
  have c0 := h.pc
  have c1 := h.at_.num h7 hn
  have HC : Hid (∀ w1, ThAt nm w1 b t → w1.cell? ⟨b, p.off, none⟩ = some (.int .i64 (t.2 p.off))) := fun w1 h1 => h1.num h7 hn
  have HH : Hid (EV W w b lb pb vb k L t) := h
  clear h hL h0 h9
  generalize numT (t.2 p.off) = s at *
  generalize t.2 p.off = n at *
  generalize p.tag = tg at *
  generalize p.off = o at *
  generalize p.low = lo at *
  generalize p.high = hi at *
  go_enter Tryz.func44, Tryz.ntmps44
  go_wp2_with fail
  go_region_held3 (fun w' => w'.cell? ⟨pb, 0, none⟩ = some (.func (.func 42) #[] #[.pointer (some ⟨lb, 0, none⟩)]) ∧ w'.cell? ⟨b, o, none⟩ = some (.int .i64 n)) (go_keep) (first
    | (go_at_call 45; refine TX.mono ?_; rintro e w1 ⟨rfl, b1⟩; have h1 := HH.out.still b1; have H1 : Hid (EV W w1 b lb pb vb k L t) := h1; have d0 := h1.pc; have d1 := HC.out _ h1.at_; clear h1 b1)
    | (go_at_call 42; refine (F.out _ H1.out).mono ?_; rintro e w2 ⟨rfl, h2⟩; have H2 : Hid (EV W w2 b lb pb vb k (L ++ [(tg, s)]) t) := h2; have e0 := h2.pc; have e1 := HC.out _ h2.at_; clear h2))
  go_wp2_with fail
  go_end0
  exact ⟨rfl, H2.out⟩
theorem EV.name {W w : World} {b lb pb vb : Nat} {k : Int} {L : List Fd} {t : ThP} (h : EV W w b lb pb vb k L t) (p : Pl) (h7 : p.off < 7) (_ : p.off ≠ 0) (hn : nm p.off = true) (hp : p.isName = true) (hL : L.length ≤ 1000) :
    Calls Tryz.prog 43 #[.int .i64 p.tag, .pointer (some ⟨b, p.off, none⟩), .pointer (some ⟨pb, 0, none⟩)] w.drew fun e w' => e = .returned (.tuple #[]) ∧ EV W w' b lb pb vb k (L ++ [(p.tag, p.text t)]) t := by
  have e : p.text t = t.1 p.off := by unfold Pl.text; rw [if_pos hp]
  rw [e]
  exact h.drew.name0 hL p h7 hn
theorem EV.num {W w : World} {b lb pb vb : Nat} {k : Int} {L : List Fd} {t : ThP} (h : EV W w b lb pb vb k L t) (p : Pl) (h7 : p.off < 7) (_ : p.off ≠ 0) (hn : nm p.off = false) (hp : p.isName = false) (hL : L.length ≤ 1000) :
    Calls Tryz.prog 44 #[.int .i64 p.tag, .pointer (some ⟨b, p.off, none⟩), .int .i64 p.low, .int .i64 p.high, .pointer (some ⟨pb, 0, none⟩)] w.drew fun e w' => e = .returned (.tuple #[]) ∧ EV W w' b lb pb vb k (L ++ [(p.tag, p.text t)]) t := by
  have e : p.text t = numT (t.2 p.off) := by unfold Pl.text; rw [if_neg (by rw [hp]; decide)]
  rw [e]
  have := h.nn _ h7 hn
  exact h.drew.num0 hL p h7 hn this.1 this.2
end Go.Proofs.YtdbkoflejimibaaGreatDoor.PP.O
/-
  The walk of post's throughOrder with the functions that fields hands on, a theorem a kind.
-/
namespace Go.Proofs.YtdbkoflejimibaaGreatDoor.PP.O
open Go.ChangeShapes Go.WideShapes Go.ChangeAt Go.RowKit Go.Lib

set_option maxRecDepth 100000 in
set_option maxHeartbeats 4000000 in
theorem thrFields_1 {W w : World} {b lb pb : Nat} {wd : ByteArray} {t : ThP} (H0 : Hid (EV W (w.alloc (.cells #[.func (.func 43) #[] #[.pointer (some ⟨pb, 0, none⟩)], .func (.func 44) #[] #[.pointer (some ⟨pb, 0, none⟩)], .func (.func 46) #[] #[.pointer (some ⟨pb, 0, none⟩)]] 79)) b lb pb w.heap.size 1 [(35, wd)] t)) :
    Calls Tryz.prog 16 #[.pointer (some ⟨b, 0, none⟩), .agg #[.func (.func 43) #[] #[.pointer (some ⟨pb, 0, none⟩)], .func (.func 44) #[] #[.pointer (some ⟨pb, 0, none⟩)], .func (.func 46) #[] #[.pointer (some ⟨pb, 0, none⟩)]]] w fun e w' => e = .returned (.tuple #[]) ∧ EV W w' b lb pb w.heap.size 1 (fieldsG wd (listK 1) (thick t 1)) t := by
  go_enter Tryz.func16, Tryz.ntmps16
  have c0 := H0.out.kind
  have F1 := H0.out.num ⟨34, false, 1, 1, 1099511627776⟩ (by decide) (by decide) rfl rfl (by simp)
  dsimp only at F1
  go_wp2_with fail
  go_region_held3 (fun w' => w'.cell? ⟨w.heap.size, 0, none⟩ = some (.func (.func 43) #[] #[.pointer (some ⟨pb, 0, none⟩)]) ∧ w'.cell? ⟨w.heap.size, 1, none⟩ = some (.func (.func 44) #[] #[.pointer (some ⟨pb, 0, none⟩)]) ∧ w'.cell? ⟨w.heap.size, 2, none⟩ = some (.func (.func 46) #[] #[.pointer (some ⟨pb, 0, none⟩)])) (go_keep) ((go_at_call 44; refine F1.mono ?_; rintro e w1 ⟨rfl, h1⟩; have H1 : Hid (EV W w1 b lb pb w.heap.size _ _ _ ) := h1; have c1 := h1.kind; have x1 := h1.v0; have y1 := h1.v1; have z1 := h1.v2; clear h1 F1))
  have F2 := H1.out.name ⟨11, true, 2, 0, 0⟩ (by decide) (by decide) rfl rfl (by simp)
  dsimp only at F2
  go_wp2_with fail
  go_region_held3 (fun w' => w'.cell? ⟨w.heap.size, 0, none⟩ = some (.func (.func 43) #[] #[.pointer (some ⟨pb, 0, none⟩)]) ∧ w'.cell? ⟨w.heap.size, 1, none⟩ = some (.func (.func 44) #[] #[.pointer (some ⟨pb, 0, none⟩)]) ∧ w'.cell? ⟨w.heap.size, 2, none⟩ = some (.func (.func 46) #[] #[.pointer (some ⟨pb, 0, none⟩)])) (go_keep) ((go_at_call 43; refine F2.mono ?_; rintro e w2 ⟨rfl, h2⟩; have H2 : Hid (EV W w2 b lb pb w.heap.size _ _ _ ) := h2; have c2 := h2.kind; have x2 := h2.v0; have y2 := h2.v1; have z2 := h2.v2; clear h2 F2))
  have F3 := H2.out.name ⟨55, true, 3, 0, 0⟩ (by decide) (by decide) rfl rfl (by simp)
  dsimp only at F3
  go_wp2_with fail
  go_region_held3 (fun w' => w'.cell? ⟨w.heap.size, 0, none⟩ = some (.func (.func 43) #[] #[.pointer (some ⟨pb, 0, none⟩)]) ∧ w'.cell? ⟨w.heap.size, 1, none⟩ = some (.func (.func 44) #[] #[.pointer (some ⟨pb, 0, none⟩)]) ∧ w'.cell? ⟨w.heap.size, 2, none⟩ = some (.func (.func 46) #[] #[.pointer (some ⟨pb, 0, none⟩)])) (go_keep) ((go_at_call 43; refine F3.mono ?_; rintro e w3 ⟨rfl, h3⟩; have H3 : Hid (EV W w3 b lb pb w.heap.size _ _ _ ) := h3; have c3 := h3.kind; have x3 := h3.v0; have y3 := h3.v1; have z3 := h3.v2; clear h3 F3))
  have F4 := H3.out.num ⟨54, false, 4, 1, 2⟩ (by decide) (by decide) rfl rfl (by simp)
  dsimp only at F4
  go_wp2_with fail
  go_region_held3 (fun w' => w'.cell? ⟨w.heap.size, 0, none⟩ = some (.func (.func 43) #[] #[.pointer (some ⟨pb, 0, none⟩)]) ∧ w'.cell? ⟨w.heap.size, 1, none⟩ = some (.func (.func 44) #[] #[.pointer (some ⟨pb, 0, none⟩)]) ∧ w'.cell? ⟨w.heap.size, 2, none⟩ = some (.func (.func 46) #[] #[.pointer (some ⟨pb, 0, none⟩)])) (go_keep) ((go_at_call 44; refine F4.mono ?_; rintro e w4 ⟨rfl, h4⟩; have H4 : Hid (EV W w4 b lb pb w.heap.size _ _ _ ) := h4; have c4 := h4.kind; have x4 := h4.v0; have y4 := h4.v1; have z4 := h4.v2; clear h4 F4))
  have F5 := H4.out.num ⟨38, false, 5, 1, 1099511627776⟩ (by decide) (by decide) rfl rfl (by simp)
  dsimp only at F5
  go_wp2_with fail
  go_region_held3 (fun w' => w'.cell? ⟨w.heap.size, 0, none⟩ = some (.func (.func 43) #[] #[.pointer (some ⟨pb, 0, none⟩)]) ∧ w'.cell? ⟨w.heap.size, 1, none⟩ = some (.func (.func 44) #[] #[.pointer (some ⟨pb, 0, none⟩)]) ∧ w'.cell? ⟨w.heap.size, 2, none⟩ = some (.func (.func 46) #[] #[.pointer (some ⟨pb, 0, none⟩)])) (go_keep) ((go_at_call 44; refine F5.mono ?_; rintro e w5 ⟨rfl, h5⟩; have H5 : Hid (EV W w5 b lb pb w.heap.size _ _ _ ) := h5; have c5 := h5.kind; have x5 := h5.v0; have y5 := h5.v1; have z5 := h5.v2; clear h5 F5))
  have F6 := H5.out.num ⟨44, false, 6, 1, 1099511627776⟩ (by decide) (by decide) rfl rfl (by simp)
  dsimp only at F6
  go_wp2_with fail
  go_region_held3 (fun w' => w'.cell? ⟨w.heap.size, 0, none⟩ = some (.func (.func 43) #[] #[.pointer (some ⟨pb, 0, none⟩)]) ∧ w'.cell? ⟨w.heap.size, 1, none⟩ = some (.func (.func 44) #[] #[.pointer (some ⟨pb, 0, none⟩)]) ∧ w'.cell? ⟨w.heap.size, 2, none⟩ = some (.func (.func 46) #[] #[.pointer (some ⟨pb, 0, none⟩)])) (go_keep) ((go_at_call 44; refine F6.mono ?_; rintro e w6 ⟨rfl, h6⟩; have H6 : Hid (EV W w6 b lb pb w.heap.size _ _ _ ) := h6; have c6 := h6.kind; have x6 := h6.v0; have y6 := h6.v1; have z6 := h6.v2; clear h6 F6))
  go_wp2_with fail
  go_end0
  exact ⟨rfl, H6.out⟩
set_option maxRecDepth 100000 in
set_option maxHeartbeats 4000000 in
theorem thrFields_2 {W w : World} {b lb pb : Nat} {wd : ByteArray} {t : ThP} (H0 : Hid (EV W (w.alloc (.cells #[.func (.func 43) #[] #[.pointer (some ⟨pb, 0, none⟩)], .func (.func 44) #[] #[.pointer (some ⟨pb, 0, none⟩)], .func (.func 46) #[] #[.pointer (some ⟨pb, 0, none⟩)]] 79)) b lb pb w.heap.size 2 [(35, wd)] t)) :
    Calls Tryz.prog 16 #[.pointer (some ⟨b, 0, none⟩), .agg #[.func (.func 43) #[] #[.pointer (some ⟨pb, 0, none⟩)], .func (.func 44) #[] #[.pointer (some ⟨pb, 0, none⟩)], .func (.func 46) #[] #[.pointer (some ⟨pb, 0, none⟩)]]] w fun e w' => e = .returned (.tuple #[]) ∧ EV W w' b lb pb w.heap.size 2 (fieldsG wd (listK 2) (thick t 2)) t := by
  go_enter Tryz.func16, Tryz.ntmps16
  have c0 := H0.out.kind
  have F1 := H0.out.num ⟨34, false, 1, 1, 1099511627776⟩ (by decide) (by decide) rfl rfl (by simp)
  dsimp only at F1
  go_wp2_with fail
  go_region_held3 (fun w' => w'.cell? ⟨w.heap.size, 0, none⟩ = some (.func (.func 43) #[] #[.pointer (some ⟨pb, 0, none⟩)]) ∧ w'.cell? ⟨w.heap.size, 1, none⟩ = some (.func (.func 44) #[] #[.pointer (some ⟨pb, 0, none⟩)]) ∧ w'.cell? ⟨w.heap.size, 2, none⟩ = some (.func (.func 46) #[] #[.pointer (some ⟨pb, 0, none⟩)])) (go_keep) ((go_at_call 44; refine F1.mono ?_; rintro e w1 ⟨rfl, h1⟩; have H1 : Hid (EV W w1 b lb pb w.heap.size _ _ _ ) := h1; have c1 := h1.kind; have x1 := h1.v0; have y1 := h1.v1; have z1 := h1.v2; clear h1 F1))
  have F2 := H1.out.name ⟨11, true, 2, 0, 0⟩ (by decide) (by decide) rfl rfl (by simp)
  dsimp only at F2
  go_wp2_with fail
  go_region_held3 (fun w' => w'.cell? ⟨w.heap.size, 0, none⟩ = some (.func (.func 43) #[] #[.pointer (some ⟨pb, 0, none⟩)]) ∧ w'.cell? ⟨w.heap.size, 1, none⟩ = some (.func (.func 44) #[] #[.pointer (some ⟨pb, 0, none⟩)]) ∧ w'.cell? ⟨w.heap.size, 2, none⟩ = some (.func (.func 46) #[] #[.pointer (some ⟨pb, 0, none⟩)])) (go_keep) ((go_at_call 43; refine F2.mono ?_; rintro e w2 ⟨rfl, h2⟩; have H2 : Hid (EV W w2 b lb pb w.heap.size _ _ _ ) := h2; have c2 := h2.kind; have x2 := h2.v0; have y2 := h2.v1; have z2 := h2.v2; clear h2 F2))
  go_wp2_with fail
  go_end0
  exact ⟨rfl, H2.out⟩
set_option maxRecDepth 100000 in
set_option maxHeartbeats 4000000 in
theorem thrFields_3 {W w : World} {b lb pb : Nat} {wd : ByteArray} {t : ThP} (H0 : Hid (EV W (w.alloc (.cells #[.func (.func 43) #[] #[.pointer (some ⟨pb, 0, none⟩)], .func (.func 44) #[] #[.pointer (some ⟨pb, 0, none⟩)], .func (.func 46) #[] #[.pointer (some ⟨pb, 0, none⟩)]] 79)) b lb pb w.heap.size 3 [(35, wd)] t)) :
    Calls Tryz.prog 16 #[.pointer (some ⟨b, 0, none⟩), .agg #[.func (.func 43) #[] #[.pointer (some ⟨pb, 0, none⟩)], .func (.func 44) #[] #[.pointer (some ⟨pb, 0, none⟩)], .func (.func 46) #[] #[.pointer (some ⟨pb, 0, none⟩)]]] w fun e w' => e = .returned (.tuple #[]) ∧ EV W w' b lb pb w.heap.size 3 (fieldsG wd (listK 3) (thick t 3)) t := by
  go_enter Tryz.func16, Tryz.ntmps16
  have c0 := H0.out.kind
  have F1 := H0.out.num ⟨34, false, 1, 1, 1099511627776⟩ (by decide) (by decide) rfl rfl (by simp)
  dsimp only at F1
  go_wp2_with fail
  go_region_held3 (fun w' => w'.cell? ⟨w.heap.size, 0, none⟩ = some (.func (.func 43) #[] #[.pointer (some ⟨pb, 0, none⟩)]) ∧ w'.cell? ⟨w.heap.size, 1, none⟩ = some (.func (.func 44) #[] #[.pointer (some ⟨pb, 0, none⟩)]) ∧ w'.cell? ⟨w.heap.size, 2, none⟩ = some (.func (.func 46) #[] #[.pointer (some ⟨pb, 0, none⟩)])) (go_keep) ((go_at_call 44; refine F1.mono ?_; rintro e w1 ⟨rfl, h1⟩; have H1 : Hid (EV W w1 b lb pb w.heap.size _ _ _ ) := h1; have c1 := h1.kind; have x1 := h1.v0; have y1 := h1.v1; have z1 := h1.v2; clear h1 F1))
  have F2 := H1.out.name ⟨11, true, 2, 0, 0⟩ (by decide) (by decide) rfl rfl (by simp)
  dsimp only at F2
  go_wp2_with fail
  go_region_held3 (fun w' => w'.cell? ⟨w.heap.size, 0, none⟩ = some (.func (.func 43) #[] #[.pointer (some ⟨pb, 0, none⟩)]) ∧ w'.cell? ⟨w.heap.size, 1, none⟩ = some (.func (.func 44) #[] #[.pointer (some ⟨pb, 0, none⟩)]) ∧ w'.cell? ⟨w.heap.size, 2, none⟩ = some (.func (.func 46) #[] #[.pointer (some ⟨pb, 0, none⟩)])) (go_keep) ((go_at_call 43; refine F2.mono ?_; rintro e w2 ⟨rfl, h2⟩; have H2 : Hid (EV W w2 b lb pb w.heap.size _ _ _ ) := h2; have c2 := h2.kind; have x2 := h2.v0; have y2 := h2.v1; have z2 := h2.v2; clear h2 F2))
  have F3 := H2.out.num ⟨38, false, 5, 1, 1099511627776⟩ (by decide) (by decide) rfl rfl (by simp)
  dsimp only at F3
  go_wp2_with fail
  go_region_held3 (fun w' => w'.cell? ⟨w.heap.size, 0, none⟩ = some (.func (.func 43) #[] #[.pointer (some ⟨pb, 0, none⟩)]) ∧ w'.cell? ⟨w.heap.size, 1, none⟩ = some (.func (.func 44) #[] #[.pointer (some ⟨pb, 0, none⟩)]) ∧ w'.cell? ⟨w.heap.size, 2, none⟩ = some (.func (.func 46) #[] #[.pointer (some ⟨pb, 0, none⟩)])) (go_keep) ((go_at_call 44; refine F3.mono ?_; rintro e w3 ⟨rfl, h3⟩; have H3 : Hid (EV W w3 b lb pb w.heap.size _ _ _ ) := h3; have c3 := h3.kind; have x3 := h3.v0; have y3 := h3.v1; have z3 := h3.v2; clear h3 F3))
  have F4 := H3.out.num ⟨44, false, 6, 1, 1099511627776⟩ (by decide) (by decide) rfl rfl (by simp)
  dsimp only at F4
  go_wp2_with fail
  go_region_held3 (fun w' => w'.cell? ⟨w.heap.size, 0, none⟩ = some (.func (.func 43) #[] #[.pointer (some ⟨pb, 0, none⟩)]) ∧ w'.cell? ⟨w.heap.size, 1, none⟩ = some (.func (.func 44) #[] #[.pointer (some ⟨pb, 0, none⟩)]) ∧ w'.cell? ⟨w.heap.size, 2, none⟩ = some (.func (.func 46) #[] #[.pointer (some ⟨pb, 0, none⟩)])) (go_keep) ((go_at_call 44; refine F4.mono ?_; rintro e w4 ⟨rfl, h4⟩; have H4 : Hid (EV W w4 b lb pb w.heap.size _ _ _ ) := h4; have c4 := h4.kind; have x4 := h4.v0; have y4 := h4.v1; have z4 := h4.v2; clear h4 F4))
  go_wp2_with fail
  go_end0
  exact ⟨rfl, H4.out⟩
end Go.Proofs.YtdbkoflejimibaaGreatDoor.PP.O
/-
  The contracts of post's fields and EncodeOrder, for every Order.
-/
namespace Go.Proofs.YtdbkoflejimibaaGreatDoor.PP.O
open Go.ChangeShapes Go.WideShapes Go.ChangeAt Go.RowKit Go.Lib

theorem right_nn {t : ThP} (R : RightP t) : ∀ j, j < 7 → nm j = false → 0 ≤ t.2 j ∧ t.2 j ≤ 9223372036854775807 := by
  have a := R.all
  have hk := R.kind
  intro j hj hn
  have c : j = 0 ∨ j = 1 ∨ j = 4 ∨ j = 5 ∨ j = 6 := by
    rcases (show j = 0 ∨ j = 1 ∨ j = 2 ∨ j = 3 ∨ j = 4 ∨ j = 5 ∨ j = 6 by omega) with rfl | rfl | rfl | rfl | rfl | rfl | rfl <;> first | omega | (exfalso; revert hn; decide)
  rcases kinds hk with e | e | e
  · rw [e, show rlist 1 = _ from listK_1] at a
    simp [Pl.okB] at a
    rcases c with rfl | rfl | rfl | rfl | rfl <;> omega
  · have o := R.one (by omega)
    have u := R.two e
    rw [e, show rlist 2 = _ from listK_2] at a
    simp [Pl.okB] at a
    rcases c with rfl | rfl | rfl | rfl | rfl <;> omega
  · have o := R.one (by omega)
    rw [e, show rlist 3 = _ from listK_3] at a
    simp [Pl.okB] at a
    rcases c with rfl | rfl | rfl | rfl | rfl <;> omega
/-- The blocks that fields makes behind the thing: a list of one field, the list's cell, the function that puts. -/
abbrev laidL (W : World) (wd : ByteArray) : World := (W.alloc (.cells #[.int .i64 35, .string wd] 98)).alloc (.cells #[.slice (some ⟨W.heap.size, 0, none⟩) 1 1] 65)
abbrev laidF (W : World) (wd : ByteArray) : World := (laidL W wd).alloc (.cells #[.func (.func 42) #[] #[.pointer (some ⟨W.heap.size + 1, 0, none⟩)]] 104)
abbrev laidV (w : World) (pb : Nat) : World := w.alloc (.cells #[.func (.func 43) #[] #[.pointer (some ⟨pb, 0, none⟩)], .func (.func 44) #[] #[.pointer (some ⟨pb, 0, none⟩)], .func (.func 46) #[] #[.pointer (some ⟨pb, 0, none⟩)]] 79)
theorem laid_ev {W : World} {b : Nat} {t : ThP} (hb : ThAt nm W b t) (wd : ByteArray) (nn : ∀ j, j < 7 → nm j = false → 0 ≤ t.2 j ∧ t.2 j ≤ 9223372036854775807) (hp : Pow W) {k : Int} (hk : t.2 0 = k) :
    EV W (laidV (laidF W wd) (W.heap.size + 2)) b (W.heap.size + 1) (W.heap.size + 2) (laidF W wd).heap.size k [(35, wd)] t := by
  have z1 : (laidL W wd).heap.size = W.heap.size + 2 := by simp
  have z2 : (laidF W wd).heap.size = W.heap.size + 3 := by simp
  have b1 : Below W.heap.size W (laidL W wd) := ((Below.refl _ W).alloc (Nat.le_refl _) _).alloc (by simp) _
  have b2 : Below (laidL W wd).heap.size (laidL W wd) (laidV (laidF W wd) (W.heap.size + 2)) := ((Below.refl _ _).alloc (Nat.le_refl _) _).alloc (by simp) _
  have b3 : Below (laidF W wd).heap.size (laidF W wd) (laidV (laidF W wd) (W.heap.size + 2)) := (Below.refl _ _).alloc (Nat.le_refl _) _
  have b4 : Below W.heap.size W (laidV (laidF W wd) (W.heap.size + 2)) := b1.trans (b2.mono b1.size)
  have lb := hb.lt
  have G : ∀ X : World, ∀ n, X.heap.size = n → ∀ f, (X.alloc (.cells #[f] 104)).cell? ⟨n, 0, none⟩ = some f := fun X n h f => by rw [← h]; simp
  have G3 : ∀ (X : World) (f0 f1 f2 : Value), (X.alloc (.cells #[f0, f1, f2] 79)).cell? ⟨X.heap.size, 0, none⟩ = some f0 ∧ (X.alloc (.cells #[f0, f1, f2] 79)).cell? ⟨X.heap.size, 1, none⟩ = some f1 ∧ (X.alloc (.cells #[f0, f1, f2] 79)).cell? ⟨X.heap.size, 2, none⟩ = some f2 := fun X f0 f1 f2 => by simp
  refine ⟨hb.still b4, ⟨_, (lst_one W 35 wd).still b2, ?_, ?_, ?_⟩, ?_, (G3 _ _ _ _).1, (G3 _ _ _ _).2.1, (G3 _ _ _ _).2.2, hk, by omega, by omega, by omega, by omega, b4, hp, nn⟩
  · simp [Value.ownBlock]; omega
  · simp [Value.ownBlock]
  · simp [Value.ownBlock]; omega
  · exact (b3.cell (p := ⟨W.heap.size + 2, 0, none⟩) (by rw [z2]; show W.heap.size + 2 < W.heap.size + 3; omega)).trans (G _ _ z1 _)
set_option maxRecDepth 100000 in
set_option maxHeartbeats 4000000 in
theorem thr_fields {W : World} {b : Nat} {t : ThP} (hb : ThAt nm W b t) (wd : ByteArray) (R : RightP t) (hp : Pow W) :
    Calls Tryz.prog 16 #[.pointer (some ⟨b, 0, none⟩), .agg #[.func (.func 43) #[] #[.pointer (some ⟨W.heap.size + 2, 0, none⟩)], .func (.func 44) #[] #[.pointer (some ⟨W.heap.size + 2, 0, none⟩)], .func (.func 46) #[] #[.pointer (some ⟨W.heap.size + 2, 0, none⟩)]]] (laidF W wd) fun e w' => e = .returned (.tuple #[]) ∧ (∃ v, w'.cell? ⟨W.heap.size + 1, 0, none⟩ = some v ∧ Flds w' v (fieldsG wd (listK (t.2 0)) (thick t (t.2 0)))) ∧ Below W.heap.size W w' := by
  have V : ∀ k, t.2 0 = k → Hid (EV W (laidV (laidF W wd) (W.heap.size + 2)) b (W.heap.size + 1) (W.heap.size + 2) (laidF W wd).heap.size k [(35, wd)] t) := fun k hk => laid_ev hb wd (right_nn R) hp hk
  have hk := R.kind
  have fin : ∀ (k : Int) (L : List Fd) (e : Ending) (w' : World), (e = .returned (.tuple #[]) ∧ EV W w' b (W.heap.size + 1) (W.heap.size + 2) (laidF W wd).heap.size k L t) → e = .returned (.tuple #[]) ∧ (∃ v, w'.cell? ⟨W.heap.size + 1, 0, none⟩ = some v ∧ Flds w' v L) ∧ Below W.heap.size W w' := by
    rintro k L e w' ⟨he, h⟩
    obtain ⟨v, l1, _⟩ := h.lst
    exact ⟨he, ⟨v, l1.cell, flds_of_own l1.own⟩, h.be⟩
  rcases kinds hk with e | e | e
  · have := thrFields_1 (V _ e)
    rw [e]
    exact this.mono (fin _ _)
  · have := thrFields_2 (V _ e)
    rw [e]
    exact this.mono (fin _ _)
  · have := thrFields_3 (V _ e)
    rw [e]
    exact this.mono (fin _ _)
set_option maxRecDepth 100000 in
set_option maxHeartbeats 4000000 in
theorem fields_any (t : ThP) (w : World) (R : RightP t) (hp : Pow w) (wd : ByteArray) :
    Calls Tryz.prog 28 #[.string wd, .agg #[.int .i64 (t.2 0), .int .i64 (t.2 1), .string (t.1 2), .string (t.1 3), .int .i64 (t.2 4), .int .i64 (t.2 5), .int .i64 (t.2 6)], .func (.func 16) #[] #[]] w fun e w' => ∃ a n cap, e = .returned (.slice a n cap) ∧ Flds w' (.slice a n cap) (fieldsG wd (listK (t.2 0)) (thick t (t.2 0))) ∧ Below w.heap.size w w' := by
  have B0 := box_below w t
  have E := thr_fields (box_at w t) wd R (hp.still B0)
  have HB0 : Hid (Below w.heap.size w (boxT w t)) := B0
  have hz : (boxT w t).heap.size = w.heap.size + 1 := by simp
  have HZ : Hid ((boxT w t).heap.size = w.heap.size + 1) := hz
  rw [hz] at E
  unfold laidF laidL at E
  rw [hz] at E
  unfold boxT at E
  generalize fieldsG wd (listK (t.2 0)) (thick t (t.2 0)) = FT at *
  clear R hp B0 hz
  go_enter Tryz.func28, Tryz.ntmps28
  go_wp2_with fail
  refine E.mono ?_
  rintro e w2 ⟨rfl, ⟨v, cv, fv⟩, b2⟩
  obtain ⟨a, cap, rfl, hr⟩ := id fv
  have HF : Hid (Flds w2 (.slice a FT.length cap) FT ∧ Below w.heap.size w w2) := ⟨fv, HB0.out.trans (b2.mono (by have := HZ.out; omega))⟩
  clear E fv b2 hr
  go_wp2_with fail
  go_ret
  exact ⟨_, _, _, rfl, HF.out.1, HF.out.2⟩
set_option maxRecDepth 100000 in
set_option maxHeartbeats 8000000 in
theorem encode_yes (t : ThP) (w : World) (R : RightP t) (hl : Let w) (hp : Pow w) :
    Calls Tryz.prog 11 #[.agg #[.int .i64 (t.2 0), .int .i64 (t.2 1), .string (t.1 2), .string (t.1 3), .int .i64 (t.2 4), .int .i64 (t.2 5), .int .i64 (t.2 6)]] w fun e w' => e = .returned (.tuple #[.string (mk (cat (fieldsT t))), .int .i64 0]) ∧ Below w.heap.size w w' := by
  obtain ⟨ok, l64⟩ := right_allOk (list_good (t.2 0)) (word35_val R.kind) R.thick
  have ok : AllOk (fieldsT t) := ok
  have fe : formsE (fieldsT t) = (cat (fieldsT t), 0) := by
    unfold formsE
    rw [if_neg (by unfold fieldsT; omega), formsA_all _ _ ok]
    rfl
  have RT0 := right_any t (boxT w t)
  rw [(right_iff t).2 R] at RT0
  have HB0 : Hid (Below w.heap.size w (boxT w t)) := box_below w t
  have HA0 : Hid (ThAt nm (boxT w t) w.heap.size t) := box_at w t
  unfold boxT at RT0 HB0 HA0
  have FA : Hid (∀ w1, Below w.heap.size w w1 → Calls Tryz.prog 28 #[.string (word35 (t.2 0)), .agg #[.int .i64 (t.2 0), .int .i64 (t.2 1), .string (t.1 2), .string (t.1 3), .int .i64 (t.2 4), .int .i64 (t.2 5), .int .i64 (t.2 6)], .func (.func 16) #[] #[]] w1 fun e w' => ∃ a n cap, e = .returned (.slice a n cap) ∧ Flds w' (.slice a n cap) (fieldsT t) ∧ Below w1.heap.size w1 w') := fun w1 b1 => fields_any t w1 R (hp.still b1) _
  have FO : Hid (∀ w2 v, Below w.heap.size w w2 → Flds w2 v (fieldsT t) → Calls Tryz.prog 27 #[v] w2 fun e w' => e = .returned (.tuple #[.string (mk (cat (fieldsT t))), .int .i64 0]) ∧ Below w2.heap.size w2 w') := fun w2 v b2 hF => by
    have := forms_all v (fieldsT t) w2 hF (by unfold fieldsT; omega) (hp.still b2)
    rw [fe] at this
    exact this
  obtain ⟨K, hK⟩ : ∃ K : Nat, t.2 0 = (K : Int) := ⟨(t.2 0).toNat, by have := R.kind; omega⟩
  have HT : Hid (∀ w1, Below w.heap.size w w1 → w1.cell? ⟨0, K, none⟩ = some (.string (word35 (K : Int)))) := fun w1 b1 => (hl.still b1).at (by have := R.kind; omega)
  have kb : (K : Int) < 4 := by have := R.kind; omega
  rw [hK] at FA RT0 HA0 HB0 ⊢
  have HK : Hid (t.2 0 = (K : Int)) := hK
  clear hK
  clear R hl hp ok l64 fe
  generalize fieldsT t = FT at *
  generalize word35 (K : Int) = wd at *
  go_enter Tryz.func11, Tryz.ntmps11
  go_wp2_with fail
  refine RT0.mono ?_
  rintro e w1 ⟨rfl, b1⟩
  have HB1 : Hid (Below w.heap.size w w1) := HB0.out.trans (b1.mono HB0.out.size)
  have HA1 : Hid (ThAt nm w1 w.heap.size t) := HA0.out.still b1
  obtain ⟨d0, d1, d2, d3, d4, d5, d6⟩ := ThAt.all HA1.out
  have d7 := HT.out _ HB1.out
  rw [HK.out] at d0
  have FA1 := FA.out w1.drew (below_more HB1.out 1)
  clear RT0 b1 HA0
  go_wp2_with fail
  go_region_held3 (fun w' => w'.cell? ⟨w.heap.size, 0, none⟩ = some (.int .i64 (K : Int)) ∧ w'.cell? ⟨w.heap.size, 1, none⟩ = some (.int .i64 (t.2 1)) ∧ w'.cell? ⟨w.heap.size, 2, none⟩ = some (.string (t.1 2)) ∧ w'.cell? ⟨w.heap.size, 3, none⟩ = some (.string (t.1 3)) ∧ w'.cell? ⟨w.heap.size, 4, none⟩ = some (.int .i64 (t.2 4)) ∧ w'.cell? ⟨w.heap.size, 5, none⟩ = some (.int .i64 (t.2 5)) ∧ w'.cell? ⟨w.heap.size, 6, none⟩ = some (.int .i64 (t.2 6)) ∧ w'.cell? ⟨0, K, none⟩ = some (.string wd)) (go_keep) (first
    | (go_at_call 28; refine FA1.mono ?_; rintro e w2 ⟨a, n, cap, rfl, hF, b2⟩; have B2 : Below w1.heap.size w1 w2 := below_of_drew b2; have HB2 : Hid (Below w.heap.size w w2) := HB1.out.trans (B2.mono HB1.out.size); have HA2 : Hid (ThAt nm w2 w.heap.size t) := HA1.out.still B2; obtain ⟨u0, u1, u2, u3, u4, u5, u6⟩ := ThAt.all HA2.out; rw [HK.out] at u0; have u7 := HT.out _ HB2.out; have FO2 := FO.out _ _ HB2.out hF; clear hF b2 B2)
    | (go_at_call 27; refine FO2.mono ?_; rintro e w3 ⟨rfl, b3⟩; have HB3 : Hid (Below w.heap.size w w3) := HB2.out.trans (b3.mono HB2.out.size); have HA3 : Hid (ThAt nm w3 w.heap.size t) := HA2.out.still b3; obtain ⟨v0, v1, v2, v3, v4, v5, v6⟩ := ThAt.all HA3.out; rw [HK.out] at v0; have v7 := HT.out _ HB3.out; clear b3))
  go_wp2_with fail
  go_ret2
  exact ⟨rfl, HB3.out⟩
set_option maxHeartbeats 4000000 in
theorem encode_no (t : ThP) (w : World) (R : rightB t = false) :
    Calls Tryz.prog 11 #[.agg #[.int .i64 (t.2 0), .int .i64 (t.2 1), .string (t.1 2), .string (t.1 3), .int .i64 (t.2 4), .int .i64 (t.2 5), .int .i64 (t.2 6)]] w fun e w' => e = .returned (.tuple #[.string ⟨#[]⟩, .int .i64 2]) ∧ Below w.heap.size w w' := by
  have RT0 := right_any t (boxT w t)
  rw [R] at RT0
  have HB0 : Hid (Below w.heap.size w (boxT w t)) := box_below w t
  clear R
  go_enter Tryz.func11, Tryz.ntmps11
  go_wp2_with fail
  refine RT0.mono ?_
  rintro e w1 ⟨rfl, b1⟩
  go_wp2_with fail
  go_ret2
  exact ⟨rfl, HB0.out.trans (b1.mono HB0.out.size)⟩
/-- What Encode answers. -/
def encE (t : ThP) : List UInt8 × Int := if rightB t = true then (cat (fieldsT t), 0) else ([], 2)
theorem encode_any (t : ThP) (w : World) (hl : Let w) (hp : Pow w) :
    Calls Tryz.prog 11 #[.agg #[.int .i64 (t.2 0), .int .i64 (t.2 1), .string (t.1 2), .string (t.1 3), .int .i64 (t.2 4), .int .i64 (t.2 5), .int .i64 (t.2 6)]] w fun e w' => e = .returned (.tuple #[.string (mk (encE t).1), .int .i64 (encE t).2]) ∧ Below w.heap.size w w' := by
  unfold encE
  by_cases R : rightB t = true
  · rw [if_pos R]
    exact encode_yes t w ((right_iff t).1 R) hl hp
  · rw [if_neg R]
    exact encode_no t w (by simpa using R)
end Go.Proofs.YtdbkoflejimibaaGreatDoor.PP.O
