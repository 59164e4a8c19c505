/-
  SessionPlays: every play of orders that go, replies that come, and what goes wrong, is the document's. For every room and every list of steps, no condition.
-/
import Derived.Test.YtlgnbnojjfgfmaaSnTwo
namespace Go.Proofs.Ytlgnbnojjfgfmaa
open Go.ChangeShapes Go.WideShapes Go.ChangeAt Go.RowKit Go.Deep Go.WideElems Go.Lib SN

/-- A region's condition may be made stronger on the way. -/
theorem anyH_mono {P : Program} {md : Region.Mode} {ops : Array Oper} {Q : Exit → Act → World → Prop} {S S' : World → Prop} (hS : ∀ w, S' w → S w) : ∀ (fuel : Nat) (listed : Array Bool) (a : Act) (w : World), wpAnyH P md ops Q S' fuel listed a w → wpAnyH P md ops Q S fuel listed a w
  | 0, _, _, _, h => h
  | fuel + 1, _, _, _, h => ⟨h.1, fun i hi => wpOp_mono (fun a' w' h' => ⟨hS _ h'.1, anyH_mono hS fuel _ a' w' h'.2⟩) (h.2 i hi)⟩
/-- One operation of a region that may be taken first; its place told. -/
theorem take_at {P : Program} {md : Region.Mode} {ops : Array Oper} {Q : Exit → Act → World → Prop} {S : World → Prop} (i d : Nat) {oi : Oper} (v : Value) {fuel : Nat} {listed : Array Bool} {a : Act} {w : World} (hi : ops[i]? = some oi) (hd : oi.dst = some d)
    (hs : Region.noSelect ops = true) (hf : Region.free md ops listed i = true) (hr : (Region.ready md ops listed).contains i = true)
    (hQ : ∀ c a w, Q (.panic c) (a.put oi.dst v) w → Q (.panic c) a w) (hy : YieldsIf P ops S oi v a) (hS : S w)
    (h : wpAnyH P md ops Q S fuel (listed.setIfInBounds i true) (a.put (some d) v) w) : wpAnyH P md ops Q S (fuel + 1) listed a w :=
  wpAnyH_take hi hs hf hr hQ hy hS (by rw [hd]; exact h)
set_option maxRecDepth 100000 in
set_option maxHeartbeats 16000000 in
theorem sessionPlays_walk (w : World) (room : Int) (_bd : -9223372036854775808 ≤ room ∧ room ≤ 9223372036854775807) (v : Value) (n0 : Nat) (X : Nat → Opc) (h : Ops w v n0 X) : Calls Try.prog 3 #[.int .i64 room, v] w fun e w' => e = .returned (.bool true) ∧ Below w.heap.size w w' := by
  have HO : Hid (Ops w v n0 X) := h
  obtain ⟨ad, cap, rfl, q1, q2, h3⟩ := h
  have H3 : Hid (∀ i, i < n0 → (∃ b off, ad = some ⟨b, off, none⟩ ∧ w.cell? ⟨b, off + i * 9, none⟩ = some (.int .i64 (X i).k) ∧ w.cell? ⟨b, off + i * 9 + 1, none⟩ = some (.int .i64 (X i).n) ∧ w.cell? ⟨b, off + i * 9 + 2, none⟩ = some (.int .i64 (X i).o.k) ∧ w.cell? ⟨b, off + i * 9 + 3, none⟩ = some (.int .i64 (X i).o.s) ∧ w.cell? ⟨b, off + i * 9 + 4, none⟩ = some (.string (X i).o.i) ∧ w.cell? ⟨b, off + i * 9 + 5, none⟩ = some (.string (X i).o.y) ∧ w.cell? ⟨b, off + i * 9 + 6, none⟩ = some (.int .i64 (X i).o.d) ∧ w.cell? ⟨b, off + i * 9 + 7, none⟩ = some (.int .i64 (X i).o.q) ∧ w.cell? ⟨b, off + i * 9 + 8, none⟩ = some (.int .i64 (X i).o.p)) ∧ (X i).o.i.size ≤ maxLen ∧ (X i).o.y.size ≤ maxLen ∧ (X i).n ≤ 9223372036854775807) := h3
  clear h3
  unfold maxLen at q2
  have F1 := awake_any w
  go_enter Try.func3, Try.ntmps3
  go_wp2_with fail
  refine F1.mono ?_
  rintro e w1 ⟨rfl, hb1⟩
  have HB1 : Hid (Below w.heap.size w w1) := hb1
  clear F1 hb1
  have F2 := few_any (HO.out.below HB1.out)
  go_wp2_with fail
  refine F2.mono ?_
  rintro e w2 ⟨⟨T, rfl, hT⟩, hb2⟩
  have HB2 : Hid (Below w.heap.size w w2) := HB1.out.trans (hb2.mono HB1.out.size)
  clear F2 hb2 HB1 HO
  cases T
  · go_wp2_with fail
    go_ret
    exact ⟨rfl, HB2.out⟩
  have HS : Hid (fewB n0 X) := hT.out.1 rfl
  clear hT
  by_cases t0 : room < 1
  · have F3 := snew_no room w2 (by omega)
    go_wp2_with fail
    refine F3.mono ?_
    rintro e w3 ⟨rfl, rfl⟩
    go_wp2_with fail
    go_ret
    exact ⟨rfl, HB2.out⟩
  by_cases t1 : (1024 : Int) < room
  · have F3 := snew_no room w2 (by omega)
    go_wp2_with fail
    refine F3.mono ?_
    rintro e w3 ⟨rfl, rfl⟩
    go_wp2_with fail
    go_ret
    exact ⟨rfl, HB2.out⟩
  obtain ⟨m, rfl⟩ := Int.eq_ofNat_of_zero_le (show 0 ≤ room by omega)
  have F3 := snew_yes m w2 (by omega) (by omega)
  have tn : (n0 : Int) ≤ 100 := by have := HS.out.1; omega
  go_wp2_with fail
  refine F3.mono ?_
  rintro e w3 ⟨rfl, K3, B3, Z3⟩
  have I0 : Hid (Duo w (w3.alloc (.cells #[.int .i64 (m : Int), .int .i64 0, .int .i64 0, .int .i64 0, .slice none 0 0, .bool false] 32)) (w2.heap.size + 1) w2.heap.size w3.heap.size (w3.heap.size + 1) (newX m) (newX m)) := by
    have b3 : Below w.heap.size w w3 := HB2.out.trans (B3.mono HB2.out.size)
    have b4 : Below w3.heap.size w3 (w3.alloc (.cells #[.int .i64 (m : Int), .int .i64 0, .int .i64 0, .int .i64 0, .slice none 0 0, .bool false] 32)) := below1 _ _
    have hz := HB2.out.size
    refine ⟨none, 0, 0, .slice none 0 0, K3.below b4, ⟨⟨fun j hj => six_lt (P := fun j => (w3.alloc (.cells #[.int .i64 (m : Int), .int .i64 0, .int .i64 0, .int .i64 0, .slice none 0 0, .bool false] 32)).cell? ⟨w3.heap.size, j, none⟩ = some (rF (newX m) (.slice none 0 0) j)) hj ⟨by simp [rF, newX], by simp [rF, newX], by simp [rF, newX], by simp [rF, newX], by simp [rF], by simp [rF, newX]⟩, fun j => by simp⟩, World.ownsRow_nil _ _ _ _, by omega, by simp, Nat.le_refl _⟩, fun k hk => ?_, fun k hk => ?_, b3.trans (b4.mono b3.size)⟩
    · have hk' : k = w2.heap.size + 1 ∨ k = w2.heap.size := by
        rcases hk with e | e | e
        · exact .inl e
        · exact .inr e
        · cases e
      refine ⟨by omega, fun e => ?_⟩
      rcases e with e | e
      · omega
      · cases e
    · rcases hk with e | e
      · have := b3.size; omega
      · cases e
  clear F3 K3 B3 HB2 Z3
  go_upto_region 11 with fail
  generalize w3.alloc (.cells #[.int .i64 (m : Int), .int .i64 0, .int .i64 0, .int .i64 0, .slice none 0 0, .bool false] 32) = w4 at *
  generalize w3.heap.size = g at *
  generalize w2.heap.size = r at *
  go_wp2_with fail
  go_loopw [43] (fun c wr => ∃ (i : Nat) (x : Ss), c = .int .i64 (i : Int) ∧ i ≤ n0 ∧ Hid (Duo w wr (r + 1) r g (g + 1) x x ∧ Lim x i)) (fun c _ => n0 - (RowKit.intOf c).toNat)
  case atStart => exact ⟨0, newX m, rfl, Nat.zero_le _, I0.out, Nat.le_refl _, Nat.le_refl _, Nat.le_refl _⟩
  case round =>
    clear I0
    obtain ⟨i, x, rfl, hi, I⟩ := hrel
    by_cases hlt : i < n0
    · have hB := I.out.1.bel
      have tk : (i : Int) < (n0 : Int) := by omega
      obtain ⟨⟨b1, o1, e1, y0, y1, y2, y3, y4, y5, y6, y7, y8⟩, _, _, zn⟩ := H3.out i hlt
      have l1 := World.block_lt_of_cell? _ _ y0
      subst e1
      replace y0 := (hB.cell (p := ⟨b1, o1 + i * 9, none⟩) l1).trans y0
      replace y1 := (hB.cell (p := ⟨b1, o1 + i * 9 + 1, none⟩) l1).trans y1
      replace y2 := (hB.cell (p := ⟨b1, o1 + i * 9 + 2, none⟩) l1).trans y2
      replace y3 := (hB.cell (p := ⟨b1, o1 + i * 9 + 3, none⟩) l1).trans y3
      replace y4 := (hB.cell (p := ⟨b1, o1 + i * 9 + 4, none⟩) l1).trans y4
      replace y5 := (hB.cell (p := ⟨b1, o1 + i * 9 + 5, none⟩) l1).trans y5
      replace y6 := (hB.cell (p := ⟨b1, o1 + i * 9 + 6, none⟩) l1).trans y6
      replace y7 := (hB.cell (p := ⟨b1, o1 + i * 9 + 7, none⟩) l1).trans y7
      replace y8 := (hB.cell (p := ⟨b1, o1 + i * 9 + 8, none⟩) l1).trans y8
      replace l1 := Nat.lt_of_lt_of_le l1 hB.size
      have HZ : Hid (Sml (X i)) := HS.out.2 i hlt
      have hi1 : i < 100 := by omega
      obtain ⟨x1, hx1⟩ : ∃ x1, X i = x1 := ⟨_, rfl⟩
      rw [hx1] at y0 y1 y2 y3 y4 y5 y6 y7 y8 HZ zn
      clear hx1
      obtain ⟨ok, on, ⟨xk, xs, xi, xy, xd, xq, xp⟩⟩ := x1
      simp only at y0 y1 y2 y3 y4 y5 y6 y7 y8 zn
      obtain ⟨d0, d1, d2, d3, d4, d5, d6, d7, d8⟩ := (Two.new I.out.1 ⟨ok, on, ⟨xk, xs, xi, xy, xd, xq, xp⟩⟩).nine
      simp only [Opc.cells] at d0 d1 d2 d3 d4 d5 d6 d7 d8
      have D4 := I.out.1.below (below1 wr (.cells #[.int .i64 ok, .int .i64 on, .int .i64 xk, .int .i64 xs, .string xi, .string xy, .int .i64 xd, .int .i64 xq, .int .i64 xp] 36))
      have HL : Hid (Lim (stX x ⟨ok, on, ⟨xk, xs, xi, xy, xd, xq, xp⟩⟩) (i + 1)) := I.out.2.step _
      have hL : Lim x 200 := ⟨Nat.le_trans I.out.2.1 (by omega), Nat.le_trans I.out.2.2.1 (by omega), Nat.le_trans I.out.2.2.2 (by omega)⟩
      clear I hB
      go_upto_region 14 with fail
      generalize wr.alloc (.cells #[.int .i64 ok, .int .i64 on, .int .i64 xk, .int .i64 xs, .string xi, .string xy, .int .i64 xd, .int .i64 xq, .int .i64 xp] 36) = wB at *
      obtain ⟨gx, hgx⟩ : ∃ g, g = wr.heap.size := ⟨_, rfl⟩
      rw [← hgx] at d0 d1 d2 d3 d4 d5 d6 d7 d8
      rw [← hgx]
      clear hgx l1 y0 y1 y2 y3 y4 y5 y6 y7 y8
      have G := step_walk (D4.below (below_drewN _ 1 _)) ok on xk xs xi xy xd xq xp HZ.out zn hL
      obtain ⟨Z, hZ⟩ : ∃ Z, stX x ⟨ok, on, ⟨xk, xs, xi, xy, xd, xq, xp⟩⟩ = Z := ⟨_, rfl⟩
      rw [hZ] at G HL
      clear hZ HZ zn hL D4
      refine wp_region_held_drew (S := fun _ => True) (by kernel_rfl) trivial (fun _ => ?_)
      refine take_at 0 47 (.pointer (some ⟨r + 1, 0, none⟩)) rfl rfl (by kernel_rfl) (by kernel_rfl) (by kernel_rfl) (fun _ _ _ h => h) (Or.inl ⟨by rfl, fun W hSw => by first | (go_simp; done) | (go_simp; simp [*]; done) | (go_simp; rfl)⟩) (trivial) ?_
      try simp only [Act.put, List.setIfInBounds_toArray, List.set_cons_zero, List.set_cons_succ]
      refine take_at 1 48 (.pointer (some ⟨g, 0, none⟩)) rfl rfl (by kernel_rfl) (by kernel_rfl) (by kernel_rfl) (fun _ _ _ h => h) (Or.inl ⟨by rfl, fun W hSw => by first | (go_simp; done) | (go_simp; simp [*]; done) | (go_simp; rfl)⟩) (trivial) ?_
      try simp only [Act.put, List.setIfInBounds_toArray, List.set_cons_zero, List.set_cons_succ]
      refine wpAnyH_ready (rs := [2]) (by kernel_rfl) (by simp) ?_
      refine AllReadyH.cons rfl (fun K hK => ?_) AllReadyH.nil
      go_simp
      go_wp2_with fail
      refine hK.out _ _ (trivial) (fun _ => ?_)
      clear hK K
      try simp only [Act.put, List.setIfInBounds_toArray, List.set_cons_zero, List.set_cons_succ, List.getElem_toArray, List.getElem_cons_zero, List.getElem_cons_succ]
      refine wpAnyH_ready (rs := [3]) (by kernel_rfl) (by simp) ?_
      refine AllReadyH.cons rfl (fun K hK => ?_) AllReadyH.nil
      go_simp
      refine G.mono ?_
      rintro e w5 ⟨rfl, D5⟩
      clear G d0 d1 d2 d3 d4 d5 d6 d7 d8
      go_wp2_with fail
      refine hK.out _ _ (trivial) (fun _ => ?_)
      clear hK K
      try simp only [Act.put, List.setIfInBounds_toArray, List.set_cons_zero, List.set_cons_succ, List.getElem_toArray, List.getElem_cons_zero, List.getElem_cons_succ]
      refine anyH_mono (S' := fun W => Below w5.heap.size w5 W) (fun W hW => trivial) _ _ _ _ ?_
      have hHeld : Below w5.heap.size w5 w5 := Below.refl _ _
      obtain ⟨S, C, f, vv, hs, hr, _, _, _⟩ := D5.out
      obtain ⟨a, cp, rfl⟩ := own_shape hr.own
      have lg : g < w5.heap.size := hr.box.lt
      obtain ⟨k0, k1, k2, k3, k4, k5⟩ := hr.cells
      have l2 := HL.out.1
      have l3 := HL.out.2.2
      have ho := hs.ord
      have tz : (Z.sn : Int) ≤ 4096 := by omega
      have tz' : (Z.out : Int) ≤ 4096 := by omega
      have hw : IntKind.i64.wrap ((Z.sn : Int) - (Z.out : Int)) = (Z.sn : Int) - (Z.out : Int) := by rw [IntKind.wrap_i64]; omega
      have FW : ∀ W, Below w5.heap.size w5 W → Calls Try.prog 10 #[.pointer (some ⟨r + 1, 0, none⟩)] W fun e w' => e = .returned (.int .i64 ((Z.sn : Int) - (Z.out : Int))) ∧ Below w5.heap.size w5 w' := fun W hW => (waiting_any (hs.below hW)).mono fun _ _ h => ⟨by rw [h.1, show ((Z.sn - Z.out : Nat) : Int) = (Z.sn : Int) - (Z.out : Int) by omega], by rw [← h.2]; exact hW⟩
      have FS : ∀ W, Below w5.heap.size w5 W → Calls Try.prog 11 #[.pointer (some ⟨r + 1, 0, none⟩)] W fun e w' => e = .returned (.int .i64 (Z.sn : Int)) ∧ Below w5.heap.size w5 w' := fun W hW => (sent_any (hs.below hW)).mono fun _ _ h => ⟨h.1, by rw [← h.2]; exact hW⟩
      have FT : ∀ W, Below w5.heap.size w5 W → Calls Try.prog 12 #[.pointer (some ⟨r + 1, 0, none⟩)] W fun e w' => e = .returned (.int .i64 (Z.tk : Int)) ∧ Below w5.heap.size w5 w' := fun W hW => (taken_any (hs.below hW)).mono fun _ _ h => ⟨h.1, by rw [← h.2]; exact hW⟩
      have FF : ∀ W, Below w5.heap.size w5 W → Calls Try.prog 13 #[.pointer (some ⟨r + 1, 0, none⟩)] W fun e w' => e = .returned (.int .i64 (Z.fa : Int)) ∧ Below w5.heap.size w5 w' := fun W hW => (faults_any (hs.below hW)).mono fun _ _ h => ⟨h.1, by rw [← h.2]; exact hW⟩
      have FH : ∀ W, Below w5.heap.size w5 W → Calls Try.prog 14 #[.pointer (some ⟨r + 1, 0, none⟩)] W fun e w' => e = .returned (.bool (hlB Z)) ∧ Below w5.heap.size w5 w' := fun W hW => (healthy_any (hs.below hW)).mono fun _ _ h => ⟨h.1, by rw [← h.2]; exact hW⟩
      clear hs hr ho
      refine take_at 4 51 (.bool false) rfl rfl (by kernel_rfl) (by kernel_rfl) (by kernel_rfl) (fun _ _ _ h => h) (Or.inl ⟨by rfl, fun W hSw => by first | (go_simp; done) | (go_simp; simp [*]; done) | (go_simp; rfl)⟩) (hHeld) ?_
      try simp only [Act.put, List.setIfInBounds_toArray, List.set_cons_zero, List.set_cons_succ]
      refine take_at 5 52 (.bool false) rfl rfl (by kernel_rfl) (by kernel_rfl) (by kernel_rfl) (fun _ _ _ h => h) (Or.inl ⟨by rfl, fun W hSw => by first | (go_simp; done) | (go_simp; simp [*]; done) | (go_simp; rfl)⟩) (hHeld) ?_
      try simp only [Act.put, List.setIfInBounds_toArray, List.set_cons_zero, List.set_cons_succ]
      refine take_at 6 53 (.pointer (some ⟨r + 1, 0, none⟩)) rfl rfl (by kernel_rfl) (by kernel_rfl) (by kernel_rfl) (fun _ _ _ h => h) (Or.inl ⟨by rfl, fun W hSw => by first | (go_simp; done) | (go_simp; simp [*]; done) | (go_simp; rfl)⟩) (hHeld) ?_
      try simp only [Act.put, List.setIfInBounds_toArray, List.set_cons_zero, List.set_cons_succ]
      refine take_at 8 55 (.pointer (some ⟨g, 0, none⟩)) rfl rfl (by kernel_rfl) (by kernel_rfl) (by kernel_rfl) (fun _ _ _ h => h) (Or.inl ⟨by rfl, fun W hSw => by first | (go_simp; done) | (go_simp; simp [*]; done) | (go_simp; rfl)⟩) (hHeld) ?_
      try simp only [Act.put, List.setIfInBounds_toArray, List.set_cons_zero, List.set_cons_succ]
      refine take_at 9 56 (.pointer (some ⟨g, 0, none⟩)) rfl rfl (by kernel_rfl) (by kernel_rfl) (by kernel_rfl) (fun _ _ _ h => h) (Or.inl ⟨by rfl, fun W hSw => by first | (go_simp; done) | (go_simp; simp [*]; done) | (go_simp; rfl)⟩) (hHeld) ?_
      try simp only [Act.put, List.setIfInBounds_toArray, List.set_cons_zero, List.set_cons_succ]
      refine take_at 10 57 (.pointer (some ⟨g, 4, none⟩)) rfl rfl (by kernel_rfl) (by kernel_rfl) (by kernel_rfl) (fun _ _ _ h => h) (Or.inl ⟨by rfl, fun W hSw => by first | (go_simp; done) | (go_simp; simp [*]; done) | (go_simp; rfl)⟩) (hHeld) ?_
      try simp only [Act.put, List.setIfInBounds_toArray, List.set_cons_zero, List.set_cons_succ]
      refine take_at 11 58 (.slice a Z.sn cp) rfl rfl (by kernel_rfl) (by kernel_rfl) (by kernel_rfl) (fun _ _ _ h => h) (Or.inl ⟨by rfl, fun W hSw => by have rr := (hSw.cell (p := ⟨g, 4, none⟩) lg).trans k4; first | (go_simp; done) | (go_simp; simp [*]; done) | (go_simp; rfl)⟩) (hHeld) ?_
      try simp only [Act.put, List.setIfInBounds_toArray, List.set_cons_zero, List.set_cons_succ]
      refine take_at 12 59 (.int .i64 (Z.sn : Int)) rfl rfl (by kernel_rfl) (by kernel_rfl) (by kernel_rfl) (fun _ _ _ h => h) (Or.inl ⟨by rfl, fun W hSw => by first | (go_simp; done) | (go_simp; simp [*]; done) | (go_simp; rfl)⟩) (hHeld) ?_
      try simp only [Act.put, List.setIfInBounds_toArray, List.set_cons_zero, List.set_cons_succ]
      refine take_at 13 60 (.pointer (some ⟨g, 0, none⟩)) rfl rfl (by kernel_rfl) (by kernel_rfl) (by kernel_rfl) (fun _ _ _ h => h) (Or.inl ⟨by rfl, fun W hSw => by first | (go_simp; done) | (go_simp; simp [*]; done) | (go_simp; rfl)⟩) (hHeld) ?_
      try simp only [Act.put, List.setIfInBounds_toArray, List.set_cons_zero, List.set_cons_succ]
      refine take_at 14 61 (.pointer (some ⟨g, 0, none⟩)) rfl rfl (by kernel_rfl) (by kernel_rfl) (by kernel_rfl) (fun _ _ _ h => h) (Or.inl ⟨by rfl, fun W hSw => by first | (go_simp; done) | (go_simp; simp [*]; done) | (go_simp; rfl)⟩) (hHeld) ?_
      try simp only [Act.put, List.setIfInBounds_toArray, List.set_cons_zero, List.set_cons_succ]
      refine take_at 15 62 (.pointer (some ⟨g, 1, none⟩)) rfl rfl (by kernel_rfl) (by kernel_rfl) (by kernel_rfl) (fun _ _ _ h => h) (Or.inl ⟨by rfl, fun W hSw => by first | (go_simp; done) | (go_simp; simp [*]; done) | (go_simp; rfl)⟩) (hHeld) ?_
      try simp only [Act.put, List.setIfInBounds_toArray, List.set_cons_zero, List.set_cons_succ]
      refine take_at 16 63 (.int .i64 (Z.out : Int)) rfl rfl (by kernel_rfl) (by kernel_rfl) (by kernel_rfl) (fun _ _ _ h => h) (Or.inl ⟨by rfl, fun W hSw => by have rr := (hSw.cell (p := ⟨g, 1, none⟩) lg).trans k1; first | (go_simp; done) | (go_simp; simp [*]; done) | (go_simp; rfl)⟩) (hHeld) ?_
      try simp only [Act.put, List.setIfInBounds_toArray, List.set_cons_zero, List.set_cons_succ]
      refine take_at 17 64 (.int .i64 ((Z.sn : Int) - (Z.out : Int))) rfl rfl (by kernel_rfl) (by kernel_rfl) (by kernel_rfl) (fun _ _ _ h => h) (Or.inl ⟨by rfl, fun W hSw => by first | (go_simp; done) | (go_simp; simp [*]; done) | (go_simp; rfl)⟩) (hHeld) ?_
      try simp only [Act.put, List.setIfInBounds_toArray, List.set_cons_zero, List.set_cons_succ]
      refine wpAnyH_ready (rs := [7]) (by kernel_rfl) (by simp) ?_
      refine AllReadyH.cons rfl (fun K hK => ?_) AllReadyH.nil
      go_simp
      refine (FW _ hHeld).mono ?_
      rintro e w6 ⟨rfl, hb7⟩
      clear hHeld
      go_wp2_with fail
      refine hK.out _ _ (hb7) (fun hHeld => ?_)
      clear hK K
      try simp only [Act.put, List.setIfInBounds_toArray, List.set_cons_zero, List.set_cons_succ, List.getElem_toArray, List.getElem_cons_zero, List.getElem_cons_succ]
      refine take_at 18 65 (.bool false) rfl rfl (by kernel_rfl) (by kernel_rfl) (by kernel_rfl) (fun _ _ _ h => h) (Or.inl ⟨by rfl, fun W hSw => by first | (go_simp; done) | (go_simp; simp [*]; done) | (go_simp; rfl)⟩) (hHeld) ?_
      try simp only [Act.put, List.setIfInBounds_toArray, List.set_cons_zero, List.set_cons_succ]
      refine take_at 19 66 (.bool false) rfl rfl (by kernel_rfl) (by kernel_rfl) (by kernel_rfl) (fun _ _ _ h => h) (Or.inl ⟨by rfl, fun W hSw => by first | (go_simp; done) | (go_simp; simp [*]; done) | (go_simp; rfl)⟩) (hHeld) ?_
      try simp only [Act.put, List.setIfInBounds_toArray, List.set_cons_zero, List.set_cons_succ]
      refine take_at 20 67 (.bool false) rfl rfl (by kernel_rfl) (by kernel_rfl) (by kernel_rfl) (fun _ _ _ h => h) (Or.inl ⟨by rfl, fun W hSw => by first | (go_simp; done) | (go_simp; simp [*]; done) | (go_simp; rfl)⟩) (hHeld) ?_
      try simp only [Act.put, List.setIfInBounds_toArray, List.set_cons_zero, List.set_cons_succ]
      refine take_at 21 68 (.pointer (some ⟨r + 1, 0, none⟩)) rfl rfl (by kernel_rfl) (by kernel_rfl) (by kernel_rfl) (fun _ _ _ h => h) (Or.inl ⟨by rfl, fun W hSw => by first | (go_simp; done) | (go_simp; simp [*]; done) | (go_simp; rfl)⟩) (hHeld) ?_
      try simp only [Act.put, List.setIfInBounds_toArray, List.set_cons_zero, List.set_cons_succ]
      refine take_at 23 70 (.pointer (some ⟨g, 0, none⟩)) rfl rfl (by kernel_rfl) (by kernel_rfl) (by kernel_rfl) (fun _ _ _ h => h) (Or.inl ⟨by rfl, fun W hSw => by first | (go_simp; done) | (go_simp; simp [*]; done) | (go_simp; rfl)⟩) (hHeld) ?_
      try simp only [Act.put, List.setIfInBounds_toArray, List.set_cons_zero, List.set_cons_succ]
      refine take_at 24 71 (.pointer (some ⟨g, 0, none⟩)) rfl rfl (by kernel_rfl) (by kernel_rfl) (by kernel_rfl) (fun _ _ _ h => h) (Or.inl ⟨by rfl, fun W hSw => by first | (go_simp; done) | (go_simp; simp [*]; done) | (go_simp; rfl)⟩) (hHeld) ?_
      try simp only [Act.put, List.setIfInBounds_toArray, List.set_cons_zero, List.set_cons_succ]
      refine take_at 25 72 (.pointer (some ⟨g, 4, none⟩)) rfl rfl (by kernel_rfl) (by kernel_rfl) (by kernel_rfl) (fun _ _ _ h => h) (Or.inl ⟨by rfl, fun W hSw => by first | (go_simp; done) | (go_simp; simp [*]; done) | (go_simp; rfl)⟩) (hHeld) ?_
      try simp only [Act.put, List.setIfInBounds_toArray, List.set_cons_zero, List.set_cons_succ]
      refine take_at 26 73 (.slice a Z.sn cp) rfl rfl (by kernel_rfl) (by kernel_rfl) (by kernel_rfl) (fun _ _ _ h => h) (Or.inl ⟨by rfl, fun W hSw => by have rr := (hSw.cell (p := ⟨g, 4, none⟩) lg).trans k4; first | (go_simp; done) | (go_simp; simp [*]; done) | (go_simp; rfl)⟩) (hHeld) ?_
      try simp only [Act.put, List.setIfInBounds_toArray, List.set_cons_zero, List.set_cons_succ]
      refine take_at 27 74 (.int .i64 (Z.sn : Int)) rfl rfl (by kernel_rfl) (by kernel_rfl) (by kernel_rfl) (fun _ _ _ h => h) (Or.inl ⟨by rfl, fun W hSw => by first | (go_simp; done) | (go_simp; simp [*]; done) | (go_simp; rfl)⟩) (hHeld) ?_
      try simp only [Act.put, List.setIfInBounds_toArray, List.set_cons_zero, List.set_cons_succ]
      refine wpAnyH_ready (rs := [22]) (by kernel_rfl) (by simp) ?_
      refine AllReadyH.cons rfl (fun K hK => ?_) AllReadyH.nil
      go_simp
      refine (FS _ hHeld).mono ?_
      rintro e w7 ⟨rfl, hb22⟩
      clear hHeld
      go_wp2_with fail
      refine hK.out _ _ (hb22) (fun hHeld => ?_)
      clear hK K
      try simp only [Act.put, List.setIfInBounds_toArray, List.set_cons_zero, List.set_cons_succ, List.getElem_toArray, List.getElem_cons_zero, List.getElem_cons_succ]
      refine take_at 28 75 (.bool false) rfl rfl (by kernel_rfl) (by kernel_rfl) (by kernel_rfl) (fun _ _ _ h => h) (Or.inl ⟨by rfl, fun W hSw => by first | (go_simp; done) | (go_simp; simp [*]; done) | (go_simp; rfl)⟩) (hHeld) ?_
      try simp only [Act.put, List.setIfInBounds_toArray, List.set_cons_zero, List.set_cons_succ]
      refine take_at 29 76 (.bool false) rfl rfl (by kernel_rfl) (by kernel_rfl) (by kernel_rfl) (fun _ _ _ h => h) (Or.inl ⟨by rfl, fun W hSw => by first | (go_simp; done) | (go_simp; simp [*]; done) | (go_simp; rfl)⟩) (hHeld) ?_
      try simp only [Act.put, List.setIfInBounds_toArray, List.set_cons_zero, List.set_cons_succ]
      refine take_at 30 77 (.bool false) rfl rfl (by kernel_rfl) (by kernel_rfl) (by kernel_rfl) (fun _ _ _ h => h) (Or.inl ⟨by rfl, fun W hSw => by first | (go_simp; done) | (go_simp; simp [*]; done) | (go_simp; rfl)⟩) (hHeld) ?_
      try simp only [Act.put, List.setIfInBounds_toArray, List.set_cons_zero, List.set_cons_succ]
      refine take_at 31 78 (.pointer (some ⟨r + 1, 0, none⟩)) rfl rfl (by kernel_rfl) (by kernel_rfl) (by kernel_rfl) (fun _ _ _ h => h) (Or.inl ⟨by rfl, fun W hSw => by first | (go_simp; done) | (go_simp; simp [*]; done) | (go_simp; rfl)⟩) (hHeld) ?_
      try simp only [Act.put, List.setIfInBounds_toArray, List.set_cons_zero, List.set_cons_succ]
      refine take_at 33 80 (.pointer (some ⟨g, 0, none⟩)) rfl rfl (by kernel_rfl) (by kernel_rfl) (by kernel_rfl) (fun _ _ _ h => h) (Or.inl ⟨by rfl, fun W hSw => by first | (go_simp; done) | (go_simp; simp [*]; done) | (go_simp; rfl)⟩) (hHeld) ?_
      try simp only [Act.put, List.setIfInBounds_toArray, List.set_cons_zero, List.set_cons_succ]
      refine take_at 34 81 (.pointer (some ⟨g, 0, none⟩)) rfl rfl (by kernel_rfl) (by kernel_rfl) (by kernel_rfl) (fun _ _ _ h => h) (Or.inl ⟨by rfl, fun W hSw => by first | (go_simp; done) | (go_simp; simp [*]; done) | (go_simp; rfl)⟩) (hHeld) ?_
      try simp only [Act.put, List.setIfInBounds_toArray, List.set_cons_zero, List.set_cons_succ]
      refine take_at 35 82 (.pointer (some ⟨g, 2, none⟩)) rfl rfl (by kernel_rfl) (by kernel_rfl) (by kernel_rfl) (fun _ _ _ h => h) (Or.inl ⟨by rfl, fun W hSw => by first | (go_simp; done) | (go_simp; simp [*]; done) | (go_simp; rfl)⟩) (hHeld) ?_
      try simp only [Act.put, List.setIfInBounds_toArray, List.set_cons_zero, List.set_cons_succ]
      refine take_at 36 83 (.int .i64 (Z.tk : Int)) rfl rfl (by kernel_rfl) (by kernel_rfl) (by kernel_rfl) (fun _ _ _ h => h) (Or.inl ⟨by rfl, fun W hSw => by have rr := (hSw.cell (p := ⟨g, 2, none⟩) lg).trans k2; first | (go_simp; done) | (go_simp; simp [*]; done) | (go_simp; rfl)⟩) (hHeld) ?_
      try simp only [Act.put, List.setIfInBounds_toArray, List.set_cons_zero, List.set_cons_succ]
      refine wpAnyH_ready (rs := [32]) (by kernel_rfl) (by simp) ?_
      refine AllReadyH.cons rfl (fun K hK => ?_) AllReadyH.nil
      go_simp
      refine (FT _ hHeld).mono ?_
      rintro e w8 ⟨rfl, hb32⟩
      clear hHeld
      go_wp2_with fail
      refine hK.out _ _ (hb32) (fun hHeld => ?_)
      clear hK K
      try simp only [Act.put, List.setIfInBounds_toArray, List.set_cons_zero, List.set_cons_succ, List.getElem_toArray, List.getElem_cons_zero, List.getElem_cons_succ]
      refine take_at 37 84 (.bool false) rfl rfl (by kernel_rfl) (by kernel_rfl) (by kernel_rfl) (fun _ _ _ h => h) (Or.inl ⟨by rfl, fun W hSw => by first | (go_simp; done) | (go_simp; simp [*]; done) | (go_simp; rfl)⟩) (hHeld) ?_
      try simp only [Act.put, List.setIfInBounds_toArray, List.set_cons_zero, List.set_cons_succ]
      refine take_at 38 85 (.bool false) rfl rfl (by kernel_rfl) (by kernel_rfl) (by kernel_rfl) (fun _ _ _ h => h) (Or.inl ⟨by rfl, fun W hSw => by first | (go_simp; done) | (go_simp; simp [*]; done) | (go_simp; rfl)⟩) (hHeld) ?_
      try simp only [Act.put, List.setIfInBounds_toArray, List.set_cons_zero, List.set_cons_succ]
      refine take_at 39 86 (.bool false) rfl rfl (by kernel_rfl) (by kernel_rfl) (by kernel_rfl) (fun _ _ _ h => h) (Or.inl ⟨by rfl, fun W hSw => by first | (go_simp; done) | (go_simp; simp [*]; done) | (go_simp; rfl)⟩) (hHeld) ?_
      try simp only [Act.put, List.setIfInBounds_toArray, List.set_cons_zero, List.set_cons_succ]
      refine take_at 40 87 (.pointer (some ⟨r + 1, 0, none⟩)) rfl rfl (by kernel_rfl) (by kernel_rfl) (by kernel_rfl) (fun _ _ _ h => h) (Or.inl ⟨by rfl, fun W hSw => by first | (go_simp; done) | (go_simp; simp [*]; done) | (go_simp; rfl)⟩) (hHeld) ?_
      try simp only [Act.put, List.setIfInBounds_toArray, List.set_cons_zero, List.set_cons_succ]
      refine take_at 42 89 (.pointer (some ⟨g, 0, none⟩)) rfl rfl (by kernel_rfl) (by kernel_rfl) (by kernel_rfl) (fun _ _ _ h => h) (Or.inl ⟨by rfl, fun W hSw => by first | (go_simp; done) | (go_simp; simp [*]; done) | (go_simp; rfl)⟩) (hHeld) ?_
      try simp only [Act.put, List.setIfInBounds_toArray, List.set_cons_zero, List.set_cons_succ]
      refine take_at 43 90 (.pointer (some ⟨g, 0, none⟩)) rfl rfl (by kernel_rfl) (by kernel_rfl) (by kernel_rfl) (fun _ _ _ h => h) (Or.inl ⟨by rfl, fun W hSw => by first | (go_simp; done) | (go_simp; simp [*]; done) | (go_simp; rfl)⟩) (hHeld) ?_
      try simp only [Act.put, List.setIfInBounds_toArray, List.set_cons_zero, List.set_cons_succ]
      refine take_at 44 91 (.pointer (some ⟨g, 3, none⟩)) rfl rfl (by kernel_rfl) (by kernel_rfl) (by kernel_rfl) (fun _ _ _ h => h) (Or.inl ⟨by rfl, fun W hSw => by first | (go_simp; done) | (go_simp; simp [*]; done) | (go_simp; rfl)⟩) (hHeld) ?_
      try simp only [Act.put, List.setIfInBounds_toArray, List.set_cons_zero, List.set_cons_succ]
      refine take_at 45 92 (.int .i64 (Z.fa : Int)) rfl rfl (by kernel_rfl) (by kernel_rfl) (by kernel_rfl) (fun _ _ _ h => h) (Or.inl ⟨by rfl, fun W hSw => by have rr := (hSw.cell (p := ⟨g, 3, none⟩) lg).trans k3; first | (go_simp; done) | (go_simp; simp [*]; done) | (go_simp; rfl)⟩) (hHeld) ?_
      try simp only [Act.put, List.setIfInBounds_toArray, List.set_cons_zero, List.set_cons_succ]
      refine wpAnyH_ready (rs := [41]) (by kernel_rfl) (by simp) ?_
      refine AllReadyH.cons rfl (fun K hK => ?_) AllReadyH.nil
      go_simp
      refine (FF _ hHeld).mono ?_
      rintro e w9 ⟨rfl, hb41⟩
      clear hHeld
      go_wp2_with fail
      refine hK.out _ _ (hb41) (fun hHeld => ?_)
      clear hK K
      try simp only [Act.put, List.setIfInBounds_toArray, List.set_cons_zero, List.set_cons_succ, List.getElem_toArray, List.getElem_cons_zero, List.getElem_cons_succ]
      refine take_at 46 93 (.bool false) rfl rfl (by kernel_rfl) (by kernel_rfl) (by kernel_rfl) (fun _ _ _ h => h) (Or.inl ⟨by rfl, fun W hSw => by first | (go_simp; done) | (go_simp; simp [*]; done) | (go_simp; rfl)⟩) (hHeld) ?_
      try simp only [Act.put, List.setIfInBounds_toArray, List.set_cons_zero, List.set_cons_succ]
      refine take_at 47 94 (.bool false) rfl rfl (by kernel_rfl) (by kernel_rfl) (by kernel_rfl) (fun _ _ _ h => h) (Or.inl ⟨by rfl, fun W hSw => by first | (go_simp; done) | (go_simp; simp [*]; done) | (go_simp; rfl)⟩) (hHeld) ?_
      try simp only [Act.put, List.setIfInBounds_toArray, List.set_cons_zero, List.set_cons_succ]
      refine take_at 48 95 (.bool false) rfl rfl (by kernel_rfl) (by kernel_rfl) (by kernel_rfl) (fun _ _ _ h => h) (Or.inl ⟨by rfl, fun W hSw => by first | (go_simp; done) | (go_simp; simp [*]; done) | (go_simp; rfl)⟩) (hHeld) ?_
      try simp only [Act.put, List.setIfInBounds_toArray, List.set_cons_zero, List.set_cons_succ]
      refine take_at 49 96 (.pointer (some ⟨r + 1, 0, none⟩)) rfl rfl (by kernel_rfl) (by kernel_rfl) (by kernel_rfl) (fun _ _ _ h => h) (Or.inl ⟨by rfl, fun W hSw => by first | (go_simp; done) | (go_simp; simp [*]; done) | (go_simp; rfl)⟩) (hHeld) ?_
      try simp only [Act.put, List.setIfInBounds_toArray, List.set_cons_zero, List.set_cons_succ]
      cases hd : Z.dn
      · by_cases hf : Z.fa = 0
        · have hh : hlB Z = true := by unfold hlB; rw [hd, hf]; rfl
          rw [hd] at k5
          rw [hf] at k3
          rw [hh] at FH
          clear hh hd hf l3
          refine take_at 51 98 (.pointer (some ⟨g, 0, none⟩)) rfl rfl (by kernel_rfl) (by kernel_rfl) (by kernel_rfl) (fun _ _ _ h => h) (Or.inl ⟨by rfl, fun W hSw => by first | (go_simp; done) | (go_simp; simp [*]; done) | (go_simp; rfl)⟩) (hHeld) ?_
          try simp only [Act.put, List.setIfInBounds_toArray, List.set_cons_zero, List.set_cons_succ]
          refine take_at 52 99 (.pointer (some ⟨g, 0, none⟩)) rfl rfl (by kernel_rfl) (by kernel_rfl) (by kernel_rfl) (fun _ _ _ h => h) (Or.inl ⟨by rfl, fun W hSw => by first | (go_simp; done) | (go_simp; simp [*]; done) | (go_simp; rfl)⟩) (hHeld) ?_
          try simp only [Act.put, List.setIfInBounds_toArray, List.set_cons_zero, List.set_cons_succ]
          refine take_at 53 100 (.pointer (some ⟨g, 5, none⟩)) rfl rfl (by kernel_rfl) (by kernel_rfl) (by kernel_rfl) (fun _ _ _ h => h) (Or.inl ⟨by rfl, fun W hSw => by first | (go_simp; done) | (go_simp; simp [*]; done) | (go_simp; rfl)⟩) (hHeld) ?_
          try simp only [Act.put, List.setIfInBounds_toArray, List.set_cons_zero, List.set_cons_succ]
          refine take_at 54 101 (.bool false) rfl rfl (by kernel_rfl) (by kernel_rfl) (by kernel_rfl) (fun _ _ _ h => h) (Or.inl ⟨by rfl, fun W hSw => by have rr := (hSw.cell (p := ⟨g, 5, none⟩) lg).trans k5; first | (go_simp; done) | (go_simp; simp [*]; done) | (go_simp; rfl)⟩) (hHeld) ?_
          try simp only [Act.put, List.setIfInBounds_toArray, List.set_cons_zero, List.set_cons_succ]
          refine take_at 55 102 (.bool true) rfl rfl (by kernel_rfl) (by kernel_rfl) (by kernel_rfl) (fun _ _ _ h => h) (Or.inl ⟨by rfl, fun W hSw => by first | (go_simp; done) | (go_simp; simp [*]; done) | (go_simp; rfl)⟩) (hHeld) ?_
          try simp only [Act.put, List.setIfInBounds_toArray, List.set_cons_zero, List.set_cons_succ]
          refine wpAnyH_ready (rs := [50]) (by kernel_rfl) (by simp) ?_
          refine AllReadyH.cons rfl (fun K hK => ?_) AllReadyH.nil
          go_simp
          refine (FH _ hHeld).mono ?_
          rintro e w10 ⟨rfl, hb50⟩
          clear hHeld
          go_wp2_with fail
          refine hK.out _ _ (hb50) (fun hHeld => ?_)
          clear hK K
          try simp only [Act.put, List.setIfInBounds_toArray, List.set_cons_zero, List.set_cons_succ, List.getElem_toArray, List.getElem_cons_zero, List.getElem_cons_succ]
          refine take_at 56 103 (.bool true) rfl rfl (by kernel_rfl) (by kernel_rfl) (by kernel_rfl) (fun _ _ _ h => h) (Or.inl ⟨by rfl, fun W hSw => by first | (go_simp; done) | (go_simp; simp [*]; done) | (go_simp; rfl)⟩) (hHeld) ?_
          try simp only [Act.put, List.setIfInBounds_toArray, List.set_cons_zero, List.set_cons_succ]
          refine take_at 57 104 (.pointer (some ⟨g, 0, none⟩)) rfl rfl (by kernel_rfl) (by kernel_rfl) (by kernel_rfl) (fun _ _ _ h => h) (Or.inl ⟨by rfl, fun W hSw => by first | (go_simp; done) | (go_simp; simp [*]; done) | (go_simp; rfl)⟩) (hHeld) ?_
          try simp only [Act.put, List.setIfInBounds_toArray, List.set_cons_zero, List.set_cons_succ]
          refine take_at 58 105 (.pointer (some ⟨g, 0, none⟩)) rfl rfl (by kernel_rfl) (by kernel_rfl) (by kernel_rfl) (fun _ _ _ h => h) (Or.inl ⟨by rfl, fun W hSw => by first | (go_simp; done) | (go_simp; simp [*]; done) | (go_simp; rfl)⟩) (hHeld) ?_
          try simp only [Act.put, List.setIfInBounds_toArray, List.set_cons_zero, List.set_cons_succ]
          refine take_at 59 106 (.pointer (some ⟨g, 3, none⟩)) rfl rfl (by kernel_rfl) (by kernel_rfl) (by kernel_rfl) (fun _ _ _ h => h) (Or.inl ⟨by rfl, fun W hSw => by first | (go_simp; done) | (go_simp; simp [*]; done) | (go_simp; rfl)⟩) (hHeld) ?_
          try simp only [Act.put, List.setIfInBounds_toArray, List.set_cons_zero, List.set_cons_succ]
          refine take_at 60 107 (.int .i64 0) rfl rfl (by kernel_rfl) (by kernel_rfl) (by kernel_rfl) (fun _ _ _ h => h) (Or.inl ⟨by rfl, fun W hSw => by have rr := (hSw.cell (p := ⟨g, 3, none⟩) lg).trans k3; first | (go_simp; done) | (go_simp; simp [*]; done) | (go_simp; rfl)⟩) (hHeld) ?_
          try simp only [Act.put, List.setIfInBounds_toArray, List.set_cons_zero, List.set_cons_succ]
          refine take_at 61 108 (.bool true) rfl rfl (by kernel_rfl) (by kernel_rfl) (by kernel_rfl) (fun _ _ _ h => h) (Or.inl ⟨by rfl, fun W hSw => by first | (go_simp; done) | (go_simp; simp [*]; done) | (go_simp; rfl)⟩) (hHeld) ?_
          try simp only [Act.put, List.setIfInBounds_toArray, List.set_cons_zero, List.set_cons_succ]
          refine take_at 62 109 (.bool true) rfl rfl (by kernel_rfl) (by kernel_rfl) (by kernel_rfl) (fun _ _ _ h => h) (Or.inl ⟨by rfl, fun W hSw => by first | (go_simp; done) | (go_simp; simp [*]; done) | (go_simp; rfl)⟩) (hHeld) ?_
          try simp only [Act.put, List.setIfInBounds_toArray, List.set_cons_zero, List.set_cons_succ]
          refine take_at 63 110 (.bool false) rfl rfl (by kernel_rfl) (by kernel_rfl) (by kernel_rfl) (fun _ _ _ h => h) (Or.inl ⟨by rfl, fun W hSw => by first | (go_simp; done) | (go_simp; simp [*]; done) | (go_simp; rfl)⟩) (hHeld) ?_
          try simp only [Act.put, List.setIfInBounds_toArray, List.set_cons_zero, List.set_cons_succ]
          refine take_at 64 111 (.bool false) rfl rfl (by kernel_rfl) (by kernel_rfl) (by kernel_rfl) (fun _ _ _ h => h) (Or.inl ⟨by rfl, fun W hSw => by first | (go_simp; done) | (go_simp; simp [*]; done) | (go_simp; rfl)⟩) (hHeld) ?_
          try simp only [Act.put, List.setIfInBounds_toArray, List.set_cons_zero, List.set_cons_succ]
          refine wpAnyH_done (by kernel_rfl) ?_ _
          have I7 : Hid (Duo w w10 (r + 1) r g (g + 1) Z Z) := D5.out.below (by assumption)
          clear FW FS FT FF FH D5
          go_wp2_with fail
          go_roundw
          case rel => exact ⟨i + 1, Z, by simp, by omega, I7.out, HL.out⟩
          case measure => simp [RowKit.intOf]; omega
        · have hh : hlB Z = false := by unfold hlB; rw [hd, decide_eq_false hf]; rfl
          rw [hd] at k5
          rw [hh] at FH
          have hf' : ¬ (Z.fa : Int) = 0 := by omega
          have hfb : ((Z.fa : Int) == 0) = false := beq_false_of_ne hf'
          clear hh hd l3
          refine take_at 51 98 (.pointer (some ⟨g, 0, none⟩)) rfl rfl (by kernel_rfl) (by kernel_rfl) (by kernel_rfl) (fun _ _ _ h => h) (Or.inl ⟨by rfl, fun W hSw => by first | (go_simp; done) | (go_simp; simp [*]; done) | (go_simp; rfl)⟩) (hHeld) ?_
          try simp only [Act.put, List.setIfInBounds_toArray, List.set_cons_zero, List.set_cons_succ]
          refine take_at 52 99 (.pointer (some ⟨g, 0, none⟩)) rfl rfl (by kernel_rfl) (by kernel_rfl) (by kernel_rfl) (fun _ _ _ h => h) (Or.inl ⟨by rfl, fun W hSw => by first | (go_simp; done) | (go_simp; simp [*]; done) | (go_simp; rfl)⟩) (hHeld) ?_
          try simp only [Act.put, List.setIfInBounds_toArray, List.set_cons_zero, List.set_cons_succ]
          refine take_at 53 100 (.pointer (some ⟨g, 5, none⟩)) rfl rfl (by kernel_rfl) (by kernel_rfl) (by kernel_rfl) (fun _ _ _ h => h) (Or.inl ⟨by rfl, fun W hSw => by first | (go_simp; done) | (go_simp; simp [*]; done) | (go_simp; rfl)⟩) (hHeld) ?_
          try simp only [Act.put, List.setIfInBounds_toArray, List.set_cons_zero, List.set_cons_succ]
          refine take_at 54 101 (.bool false) rfl rfl (by kernel_rfl) (by kernel_rfl) (by kernel_rfl) (fun _ _ _ h => h) (Or.inl ⟨by rfl, fun W hSw => by have rr := (hSw.cell (p := ⟨g, 5, none⟩) lg).trans k5; first | (go_simp; done) | (go_simp; simp [*]; done) | (go_simp; rfl)⟩) (hHeld) ?_
          try simp only [Act.put, List.setIfInBounds_toArray, List.set_cons_zero, List.set_cons_succ]
          refine take_at 55 102 (.bool true) rfl rfl (by kernel_rfl) (by kernel_rfl) (by kernel_rfl) (fun _ _ _ h => h) (Or.inl ⟨by rfl, fun W hSw => by first | (go_simp; done) | (go_simp; simp [*]; done) | (go_simp; rfl)⟩) (hHeld) ?_
          try simp only [Act.put, List.setIfInBounds_toArray, List.set_cons_zero, List.set_cons_succ]
          refine wpAnyH_ready (rs := [50]) (by kernel_rfl) (by simp) ?_
          refine AllReadyH.cons rfl (fun K hK => ?_) AllReadyH.nil
          go_simp
          refine (FH _ hHeld).mono ?_
          rintro e w10 ⟨rfl, hb50⟩
          clear hHeld
          go_wp2_with fail
          refine hK.out _ _ (hb50) (fun hHeld => ?_)
          clear hK K
          try simp only [Act.put, List.setIfInBounds_toArray, List.set_cons_zero, List.set_cons_succ, List.getElem_toArray, List.getElem_cons_zero, List.getElem_cons_succ]
          refine take_at 56 103 (.bool true) rfl rfl (by kernel_rfl) (by kernel_rfl) (by kernel_rfl) (fun _ _ _ h => h) (Or.inl ⟨by rfl, fun W hSw => by first | (go_simp; done) | (go_simp; simp [*]; done) | (go_simp; rfl)⟩) (hHeld) ?_
          try simp only [Act.put, List.setIfInBounds_toArray, List.set_cons_zero, List.set_cons_succ]
          refine take_at 57 104 (.pointer (some ⟨g, 0, none⟩)) rfl rfl (by kernel_rfl) (by kernel_rfl) (by kernel_rfl) (fun _ _ _ h => h) (Or.inl ⟨by rfl, fun W hSw => by first | (go_simp; done) | (go_simp; simp [*]; done) | (go_simp; rfl)⟩) (hHeld) ?_
          try simp only [Act.put, List.setIfInBounds_toArray, List.set_cons_zero, List.set_cons_succ]
          refine take_at 58 105 (.pointer (some ⟨g, 0, none⟩)) rfl rfl (by kernel_rfl) (by kernel_rfl) (by kernel_rfl) (fun _ _ _ h => h) (Or.inl ⟨by rfl, fun W hSw => by first | (go_simp; done) | (go_simp; simp [*]; done) | (go_simp; rfl)⟩) (hHeld) ?_
          try simp only [Act.put, List.setIfInBounds_toArray, List.set_cons_zero, List.set_cons_succ]
          refine take_at 59 106 (.pointer (some ⟨g, 3, none⟩)) rfl rfl (by kernel_rfl) (by kernel_rfl) (by kernel_rfl) (fun _ _ _ h => h) (Or.inl ⟨by rfl, fun W hSw => by first | (go_simp; done) | (go_simp; simp [*]; done) | (go_simp; rfl)⟩) (hHeld) ?_
          try simp only [Act.put, List.setIfInBounds_toArray, List.set_cons_zero, List.set_cons_succ]
          refine take_at 60 107 (.int .i64 (Z.fa : Int)) rfl rfl (by kernel_rfl) (by kernel_rfl) (by kernel_rfl) (fun _ _ _ h => h) (Or.inl ⟨by rfl, fun W hSw => by have rr := (hSw.cell (p := ⟨g, 3, none⟩) lg).trans k3; first | (go_simp; done) | (go_simp; simp [*]; done) | (go_simp; rfl)⟩) (hHeld) ?_
          try simp only [Act.put, List.setIfInBounds_toArray, List.set_cons_zero, List.set_cons_succ]
          refine take_at 61 108 (.bool false) rfl rfl (by kernel_rfl) (by kernel_rfl) (by kernel_rfl) (fun _ _ _ h => h) (Or.inl ⟨by rfl, fun W hSw => by first | (go_simp; done) | (go_simp; simp [*]; done) | (go_simp; rfl)⟩) (hHeld) ?_
          try simp only [Act.put, List.setIfInBounds_toArray, List.set_cons_zero, List.set_cons_succ]
          refine take_at 62 109 (.bool false) rfl rfl (by kernel_rfl) (by kernel_rfl) (by kernel_rfl) (fun _ _ _ h => h) (Or.inl ⟨by rfl, fun W hSw => by first | (go_simp; done) | (go_simp; simp [*]; done) | (go_simp; rfl)⟩) (hHeld) ?_
          try simp only [Act.put, List.setIfInBounds_toArray, List.set_cons_zero, List.set_cons_succ]
          refine take_at 63 110 (.bool false) rfl rfl (by kernel_rfl) (by kernel_rfl) (by kernel_rfl) (fun _ _ _ h => h) (Or.inl ⟨by rfl, fun W hSw => by first | (go_simp; done) | (go_simp; simp [*]; done) | (go_simp; rfl)⟩) (hHeld) ?_
          try simp only [Act.put, List.setIfInBounds_toArray, List.set_cons_zero, List.set_cons_succ]
          refine take_at 64 111 (.bool false) rfl rfl (by kernel_rfl) (by kernel_rfl) (by kernel_rfl) (fun _ _ _ h => h) (Or.inl ⟨by rfl, fun W hSw => by first | (go_simp; done) | (go_simp; simp [*]; done) | (go_simp; rfl)⟩) (hHeld) ?_
          try simp only [Act.put, List.setIfInBounds_toArray, List.set_cons_zero, List.set_cons_succ]
          refine wpAnyH_done (by kernel_rfl) ?_ _
          have I7 : Hid (Duo w w10 (r + 1) r g (g + 1) Z Z) := D5.out.below (by assumption)
          clear FW FS FT FF FH D5
          go_wp2_with fail
          go_roundw
          case rel => exact ⟨i + 1, Z, by simp, by omega, I7.out, HL.out⟩
          case measure => simp [RowKit.intOf]; omega
      · have hh : hlB Z = false := by unfold hlB; rw [hd]; rfl
        rw [hd] at k5
        rw [hh] at FH
        clear hh hd l3
        refine take_at 51 98 (.pointer (some ⟨g, 0, none⟩)) rfl rfl (by kernel_rfl) (by kernel_rfl) (by kernel_rfl) (fun _ _ _ h => h) (Or.inl ⟨by rfl, fun W hSw => by first | (go_simp; done) | (go_simp; simp [*]; done) | (go_simp; rfl)⟩) (hHeld) ?_
        try simp only [Act.put, List.setIfInBounds_toArray, List.set_cons_zero, List.set_cons_succ]
        refine take_at 52 99 (.pointer (some ⟨g, 0, none⟩)) rfl rfl (by kernel_rfl) (by kernel_rfl) (by kernel_rfl) (fun _ _ _ h => h) (Or.inl ⟨by rfl, fun W hSw => by first | (go_simp; done) | (go_simp; simp [*]; done) | (go_simp; rfl)⟩) (hHeld) ?_
        try simp only [Act.put, List.setIfInBounds_toArray, List.set_cons_zero, List.set_cons_succ]
        refine take_at 53 100 (.pointer (some ⟨g, 5, none⟩)) rfl rfl (by kernel_rfl) (by kernel_rfl) (by kernel_rfl) (fun _ _ _ h => h) (Or.inl ⟨by rfl, fun W hSw => by first | (go_simp; done) | (go_simp; simp [*]; done) | (go_simp; rfl)⟩) (hHeld) ?_
        try simp only [Act.put, List.setIfInBounds_toArray, List.set_cons_zero, List.set_cons_succ]
        refine take_at 54 101 (.bool true) rfl rfl (by kernel_rfl) (by kernel_rfl) (by kernel_rfl) (fun _ _ _ h => h) (Or.inl ⟨by rfl, fun W hSw => by have rr := (hSw.cell (p := ⟨g, 5, none⟩) lg).trans k5; first | (go_simp; done) | (go_simp; simp [*]; done) | (go_simp; rfl)⟩) (hHeld) ?_
        try simp only [Act.put, List.setIfInBounds_toArray, List.set_cons_zero, List.set_cons_succ]
        refine take_at 55 102 (.bool false) rfl rfl (by kernel_rfl) (by kernel_rfl) (by kernel_rfl) (fun _ _ _ h => h) (Or.inl ⟨by rfl, fun W hSw => by first | (go_simp; done) | (go_simp; simp [*]; done) | (go_simp; rfl)⟩) (hHeld) ?_
        try simp only [Act.put, List.setIfInBounds_toArray, List.set_cons_zero, List.set_cons_succ]
        refine wpAnyH_ready (rs := [50]) (by kernel_rfl) (by simp) ?_
        refine AllReadyH.cons rfl (fun K hK => ?_) AllReadyH.nil
        go_simp
        refine (FH _ hHeld).mono ?_
        rintro e w10 ⟨rfl, hb50⟩
        clear hHeld
        go_wp2_with fail
        refine hK.out _ _ (hb50) (fun hHeld => ?_)
        clear hK K
        try simp only [Act.put, List.setIfInBounds_toArray, List.set_cons_zero, List.set_cons_succ, List.getElem_toArray, List.getElem_cons_zero, List.getElem_cons_succ]
        refine take_at 56 103 (.bool false) rfl rfl (by kernel_rfl) (by kernel_rfl) (by kernel_rfl) (fun _ _ _ h => h) (Or.inl ⟨by rfl, fun W hSw => by first | (go_simp; done) | (go_simp; simp [*]; done) | (go_simp; rfl)⟩) (hHeld) ?_
        try simp only [Act.put, List.setIfInBounds_toArray, List.set_cons_zero, List.set_cons_succ]
        refine take_at 57 104 undef rfl rfl (by kernel_rfl) (by kernel_rfl) (by kernel_rfl) (fun _ _ _ h => h) (Or.inr ⟨by rfl, rfl⟩) (hHeld) ?_
        try simp only [Act.put, List.setIfInBounds_toArray, List.set_cons_zero, List.set_cons_succ]
        refine take_at 58 105 undef rfl rfl (by kernel_rfl) (by kernel_rfl) (by kernel_rfl) (fun _ _ _ h => h) (Or.inr ⟨by rfl, rfl⟩) (hHeld) ?_
        try simp only [Act.put, List.setIfInBounds_toArray, List.set_cons_zero, List.set_cons_succ]
        refine take_at 59 106 undef rfl rfl (by kernel_rfl) (by kernel_rfl) (by kernel_rfl) (fun _ _ _ h => h) (Or.inr ⟨by rfl, rfl⟩) (hHeld) ?_
        try simp only [Act.put, List.setIfInBounds_toArray, List.set_cons_zero, List.set_cons_succ]
        refine take_at 60 107 undef rfl rfl (by kernel_rfl) (by kernel_rfl) (by kernel_rfl) (fun _ _ _ h => h) (Or.inr ⟨by rfl, rfl⟩) (hHeld) ?_
        try simp only [Act.put, List.setIfInBounds_toArray, List.set_cons_zero, List.set_cons_succ]
        refine take_at 61 108 undef rfl rfl (by kernel_rfl) (by kernel_rfl) (by kernel_rfl) (fun _ _ _ h => h) (Or.inr ⟨by rfl, rfl⟩) (hHeld) ?_
        try simp only [Act.put, List.setIfInBounds_toArray, List.set_cons_zero, List.set_cons_succ]
        refine take_at 62 109 (.bool false) rfl rfl (by kernel_rfl) (by kernel_rfl) (by kernel_rfl) (fun _ _ _ h => h) (Or.inl ⟨by rfl, fun W hSw => by first | (go_simp; done) | (go_simp; simp [*]; done) | (go_simp; rfl)⟩) (hHeld) ?_
        try simp only [Act.put, List.setIfInBounds_toArray, List.set_cons_zero, List.set_cons_succ]
        refine take_at 63 110 (.bool false) rfl rfl (by kernel_rfl) (by kernel_rfl) (by kernel_rfl) (fun _ _ _ h => h) (Or.inl ⟨by rfl, fun W hSw => by first | (go_simp; done) | (go_simp; simp [*]; done) | (go_simp; rfl)⟩) (hHeld) ?_
        try simp only [Act.put, List.setIfInBounds_toArray, List.set_cons_zero, List.set_cons_succ]
        refine take_at 64 111 (.bool false) rfl rfl (by kernel_rfl) (by kernel_rfl) (by kernel_rfl) (fun _ _ _ h => h) (Or.inl ⟨by rfl, fun W hSw => by first | (go_simp; done) | (go_simp; simp [*]; done) | (go_simp; rfl)⟩) (hHeld) ?_
        try simp only [Act.put, List.setIfInBounds_toArray, List.set_cons_zero, List.set_cons_succ]
        refine wpAnyH_done (by kernel_rfl) ?_ _
        have I7 : Hid (Duo w w10 (r + 1) r g (g + 1) Z Z) := D5.out.below (by assumption)
        clear FW FS FT FF FH D5
        go_wp2_with fail
        go_roundw
        case rel => exact ⟨i + 1, Z, by simp, by omega, I7.out, HL.out⟩
        case measure => simp [RowKit.intOf]; omega
    · obtain rfl : i = n0 := by omega
      have tk : ¬ (i : Int) < (i : Int) := by omega
      go_wp2_with fail
      go_ret
      exact ⟨rfl, I.out.1.bel⟩
theorem sessionPlays_own : ownKnob Try.prog.godebug = none := by kernel_rfl
theorem sessionPlays_laidOut : laidOutB Try.prog = true := by kernel_rfl
set_option maxRecDepth 100000 in
theorem sessionPlays_lifted (os : Os) (started : os.Started) (H : Type) (enc : TypeId × Value → H) :
    ReturnsInHanded {} Try.checked os 3 .any (Rows.sessionPlaysSpec.pre6 enc Try.prog Try.f3 Rows.sessionPlaysRow.domain false) (Rows.sessionPlaysSpec.post enc Try.prog Try.f3 false true false false) := by
  refine returnsInHanded_of_change (C := Try.checked) sessionPlays_own started (by kernel_rfl) Try.func3
    (ChangeSpec.witness6 (enc := enc) (C := Try.checked) false ⟨#[], #[.int .i64 0, .slice none 0 0], []⟩ 8 (by kernel_rfl) (by kernel_rfl) (by kernel_rfl) (by kernel_rfl)) ?_
  intro W base args ds gs before hval0 hW hcnd _
  have hval : ∀ (j : Nat) t v, Try.f3.params[j]? = some t → args[j]? = some v → Value.okWide Try.prog W .any base t v := hval0
  have hW' := hW
  obtain ⟨p, q, hA0, hV, rfl, hfz, hnd⟩ := hW
  have hA : DataW.TrodAll enc Try.prog W 0 (fun _ => true) true Try.f3.params.toList args.toList ds p := hA0
  rw [Try.params3] at hA hval
  obtain ⟨v0, vs0, d0, ds0, p0, q0, hargs, rfl, rfl, h0, r0⟩ := trodAll_cons hA
  obtain ⟨v1, vs1, d1, ds1, p1, q1, rfl, rfl, rfl, h1, r1⟩ := trodAll_cons r0
  obtain ⟨rfl, rfl, rfl⟩ := trodAll_nil r1
  obtain rfl : args = #[v0, v1] := by cases args; simp_all
  obtain ⟨rfl, rfl⟩ := trodVars_none hV
  obtain ⟨a0, rfl, rfl, rfl, w0⟩ := open_int Try.underlying3 (hval 0 3 v0 rfl rfl) h0
  have bd0 := bounds_i64 w0
  obtain ⟨ad1, n1, cap1, rfl⟩ := okWide_slice Try.underlying22 (hval 1 22 v1 rfl rfl)
  have k1 := h1
  have lt1 : ∀ x ∈ p1, x.block < W.heap.size := by obtain ⟨m, hm⟩ := k1; exact DataW.trod_lt m _ _ _ hm
  obtain ⟨X1, ops1⟩ : ∃ X, Ops W (.slice ad1 n1 cap1) n1 X := by obtain ⟨fuel, hf⟩ := h1; exact open_ops hf
  clear hA0 hval0
  simp only [List.append_nil, List.nil_append] at hW'
  refine (sessionPlays_walk W a0 bd0 _ n1 X1 ops1).mono fun e W' ⟨he, bel⟩ => ?_
  subst he
  exact ⟨_, rfl, _, _, _, [], _, [], hW', trodAll_mk1 (shut_bool Try.underlying4 _), (trodAll_cons_mk (shut_int Try.underlying3 w0) (trodAll_cons_mk (Below.trod sessionPlays_laidOut (by kernel_rfl) (of_decide_eq_true (by kernel_rfl)) k1 bel lt1) trodAll_mk0)), rfl, bel.frame _, fun h => by cases h⟩

/-- THE STATEMENT. -/
theorem sessionPlays_proved : Rows.SessionPlaysSaid :=
  OpenClaim.holds_of_wide 3 Try.f3 rfl rfl rfl rfl rfl rfl rfl ⟨rfl, rfl, rfl, rfl, rfl⟩ rfl rfl rfl rfl rfl (by kernel_rfl) Try.func3 (by kernel_rfl)
    (of_decide_eq_true (by kernel_rfl)) (by unfold Func.isWrapper; first | (rw [if_pos (by decide +kernel)]; kernel_rfl) | (rw [if_neg (by decide +kernel)]; exact ⟨rfl, rfl⟩))
    (fun os started H enc _ => sessionPlays_lifted os started H enc)
#print axioms sessionPlays_proved
end Go.Proofs.Ytlgnbnojjfgfmaa
