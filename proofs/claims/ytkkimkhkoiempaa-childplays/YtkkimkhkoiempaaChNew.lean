/-
  Contract of child's New: a child that was sent, or the error.
-/
import Derived.Test.YtkkimkhkoiempaaChHap
import Derived.Test.YtkkimkhkoiempaaRunes
namespace Go.Proofs.Ytkkimkhkoiempaa.CH
open Go.ChangeShapes Go.WideShapes Go.ChangeAt Go.RowKit Go.Lib MA

def sdB (s : Int) : Bool := s == 1 || s == 2
/-- New's error. -/
def nwE (id ve : ByteArray) (sd q p : Int) : Int := if (vldB id && vldB ve) = false then 43 else if sdB sd = false then 2 else if (upB q 1099511627776 && upB p 1099511627776) = false then 2 else 0
/-- A child was made, at a block of its own. -/
def Born (w : World) (x : Ch) (e : Ending) (w' : World) : Prop := ∃ n, e = .returned (.tuple #[.pointer (some ⟨n, 0, none⟩), .int .i64 0]) ∧ ChAt w' n x ∧ w.heap.size ≤ n ∧ Below w.heap.size w w'
theorem sd_false {s : Int} (h : sdB s = false) : ¬ s = 1 ∧ ¬ s = 2 := by
  simpa only [sdB, Bool.or_eq_false_iff, beq_eq_false_iff_ne, ne_eq] using h
theorem sd_true {s : Int} (h : sdB s = true) : s = 1 ∨ s = 2 := by
  simpa only [sdB, Bool.or_eq_true, beq_iff_eq] using h
theorem nw_name {id ve : ByteArray} {sd q p : Int} (h : (vldB id && vldB ve) = false) : nwE id ve sd q p = 43 := if_pos h
theorem nw_side {id ve : ByteArray} {sd q p : Int} (h : (vldB id && vldB ve) = true) (h1 : sdB sd = false) : nwE id ve sd q p = 2 := by
  unfold nwE
  rw [if_neg (by rw [h]; exact Bool.noConfusion), if_pos h1]
theorem nw_num {id ve : ByteArray} {sd q p : Int} (h : (vldB id && vldB ve) = true) (h1 : sdB sd = true) (h2 : (upB q 1099511627776 && upB p 1099511627776) = false) : nwE id ve sd q p = 2 := by
  unfold nwE
  rw [if_neg (by rw [h]; exact Bool.noConfusion), if_neg (by rw [h1]; exact Bool.noConfusion), if_pos h2]
theorem nw_ok {id ve : ByteArray} {sd q p : Int} (h : (vldB id && vldB ve) = true) (h1 : sdB sd = true) (h2 : (upB q 1099511627776 && upB p 1099511627776) = true) : nwE id ve sd q p = 0 := by
  unfold nwE
  rw [if_neg (by rw [h]; exact Bool.noConfusion), if_neg (by rw [h1]; exact Bool.noConfusion), if_neg (by rw [h2]; exact Bool.noConfusion)]
set_option maxRecDepth 100000 in
set_option maxHeartbeats 8000000 in
theorem new_name (id ve : ByteArray) (sd q p : Int) (w : World) (h : (vldB id && vldB ve) = false) : Calls Try.prog 7 #[.string id, .string ve, .int .i64 sd, .int .i64 q, .int .i64 p] w fun e w' => e = .returned (.tuple #[.pointer none, .int .i64 43]) ∧ Below w.heap.size w w' := by
  have V1 := valid_any id
  have V2 := valid_any ve
  cases h1 : vldB id
  · rw [h1] at V1
    clear h V2 h1
    go_enter Try.func7, Try.ntmps7
    go_wp2_with fail
    refine (V1 _).mono ?_
    rintro e w1 ⟨rfl, hb⟩
    have hb1 : Hid (Below w.heap.size w w1) := hb
    clear hb
    go_wp2_with fail
    go_ret2
    exact ⟨rfl, hb1.out⟩
  · rw [h1] at V1
    rw [h1, Bool.true_and] at h
    rw [h] at V2
    clear h h1
    go_enter Try.func7, Try.ntmps7
    go_wp2_with fail
    refine (V1 _).mono ?_
    rintro e w1 ⟨rfl, hb⟩
    have hb1 : Hid (Below w.heap.size w w1) := hb
    clear hb
    go_wp2_with fail
    refine (V2 _).mono ?_
    rintro e w2 ⟨rfl, hb⟩
    have hb2 : Hid (Below w.heap.size w w2) := hb1.out.trans (hb.mono hb1.out.size)
    clear hb hb1
    go_wp2_with fail
    go_ret2
    exact ⟨rfl, hb2.out⟩
set_option maxRecDepth 100000 in
set_option maxHeartbeats 8000000 in
theorem new_side (id ve : ByteArray) (sd q p : Int) (w : World) (h : (vldB id && vldB ve) = true) (hs : sdB sd = false) : Calls Try.prog 7 #[.string id, .string ve, .int .i64 sd, .int .i64 q, .int .i64 p] w fun e w' => e = .returned (.tuple #[.pointer none, .int .i64 2]) ∧ Below w.heap.size w w' := by
  have V1 := valid_any id
  have V2 := valid_any ve
  obtain ⟨h1, h2⟩ := Bool.and_eq_true_iff.1 h
  rw [h1] at V1
  rw [h2] at V2
  clear h h1 h2
  obtain ⟨s1, s2⟩ := sd_false hs
  have k1 : (sd == 1) = false := beq_false_of_ne s1
  have k2 : (sd != 1) = true := by simp [bne, k1]
  have k3 : (sd == 2) = false := beq_false_of_ne s2
  have k4 : (sd != 2) = true := by simp [bne, k3]
  clear hs
  go_enter Try.func7, Try.ntmps7
  go_wp2_with fail
  refine (V1 _).mono ?_
  rintro e w1 ⟨rfl, hb⟩
  have hb1 : Hid (Below w.heap.size w w1) := hb
  clear hb
  go_wp2_with fail
  refine (V2 _).mono ?_
  rintro e w2 ⟨rfl, hb⟩
  have hb2 : Hid (Below w.heap.size w w2) := hb1.out.trans (hb.mono hb1.out.size)
  clear hb hb1
  go_wp2_with fail
  go_ret2
  exact ⟨rfl, hb2.out⟩
set_option maxRecDepth 100000 in
set_option maxHeartbeats 8000000 in
theorem new_num (id ve : ByteArray) (sd q p : Int) (w : World) (h : (vldB id && vldB ve) = true) (hs : sdB sd = true) (hn : (upB q 1099511627776 && upB p 1099511627776) = false) : Calls Try.prog 7 #[.string id, .string ve, .int .i64 sd, .int .i64 q, .int .i64 p] w fun e w' => e = .returned (.tuple #[.pointer none, .int .i64 2]) ∧ Below w.heap.size w w' := by
  have V1 := valid_any id
  have V2 := valid_any ve
  have U1 := upTo_any q 1099511627776
  have U2 := upTo_any p 1099511627776
  obtain ⟨h1, h2⟩ := Bool.and_eq_true_iff.1 h
  rw [h1] at V1
  rw [h2] at V2
  clear h h1 h2
  have hs := sd_true hs
  rcases hs with rfl | rfl
  · cases h1 : upB q 1099511627776
    · rw [h1] at U1
      clear hn U2 h1
      go_enter Try.func7, Try.ntmps7
      go_wp2_with fail
      refine (V1 _).mono ?_
      rintro e w1 ⟨rfl, hb⟩
      have hb1 : Hid (Below w.heap.size w w1) := hb
      clear hb
      go_wp2_with fail
      refine (V2 _).mono ?_
      rintro e w2 ⟨rfl, hb⟩
      have hb2 : Hid (Below w.heap.size w w2) := hb1.out.trans (hb.mono hb1.out.size)
      clear hb hb1
      go_wp2_with fail
      refine (U1 _).mono ?_
      rintro e w2 ⟨rfl, rfl⟩
      clear U1
      go_wp2_with fail
      go_ret2
      exact ⟨rfl, hb2.out⟩
    · rw [h1] at U1
      rw [h1, Bool.true_and] at hn
      rw [hn] at U2
      clear hn h1
      go_enter Try.func7, Try.ntmps7
      go_wp2_with fail
      refine (V1 _).mono ?_
      rintro e w1 ⟨rfl, hb⟩
      have hb1 : Hid (Below w.heap.size w w1) := hb
      clear hb
      go_wp2_with fail
      refine (V2 _).mono ?_
      rintro e w2 ⟨rfl, hb⟩
      have hb2 : Hid (Below w.heap.size w w2) := hb1.out.trans (hb.mono hb1.out.size)
      clear hb hb1
      go_wp2_with fail
      refine (U1 _).mono ?_
      rintro e w2 ⟨rfl, rfl⟩
      clear U1
      go_wp2_with fail
      refine (U2 _).mono ?_
      rintro e w2 ⟨rfl, rfl⟩
      clear U2
      go_wp2_with fail
      go_ret2
      exact ⟨rfl, hb2.out⟩
  · cases h1 : upB q 1099511627776
    · rw [h1] at U1
      clear hn U2 h1
      go_enter Try.func7, Try.ntmps7
      go_wp2_with fail
      refine (V1 _).mono ?_
      rintro e w1 ⟨rfl, hb⟩
      have hb1 : Hid (Below w.heap.size w w1) := hb
      clear hb
      go_wp2_with fail
      refine (V2 _).mono ?_
      rintro e w2 ⟨rfl, hb⟩
      have hb2 : Hid (Below w.heap.size w w2) := hb1.out.trans (hb.mono hb1.out.size)
      clear hb hb1
      go_wp2_with fail
      refine (U1 _).mono ?_
      rintro e w2 ⟨rfl, rfl⟩
      clear U1
      go_wp2_with fail
      go_ret2
      exact ⟨rfl, hb2.out⟩
    · rw [h1] at U1
      rw [h1, Bool.true_and] at hn
      rw [hn] at U2
      clear hn h1
      go_enter Try.func7, Try.ntmps7
      go_wp2_with fail
      refine (V1 _).mono ?_
      rintro e w1 ⟨rfl, hb⟩
      have hb1 : Hid (Below w.heap.size w w1) := hb
      clear hb
      go_wp2_with fail
      refine (V2 _).mono ?_
      rintro e w2 ⟨rfl, hb⟩
      have hb2 : Hid (Below w.heap.size w w2) := hb1.out.trans (hb.mono hb1.out.size)
      clear hb hb1
      go_wp2_with fail
      refine (U1 _).mono ?_
      rintro e w2 ⟨rfl, rfl⟩
      clear U1
      go_wp2_with fail
      refine (U2 _).mono ?_
      rintro e w2 ⟨rfl, rfl⟩
      clear U2
      go_wp2_with fail
      go_ret2
      exact ⟨rfl, hb2.out⟩
set_option maxRecDepth 100000 in
set_option maxHeartbeats 8000000 in
theorem new_ok (id ve : ByteArray) (sd q p : Int) (w : World) (h : (vldB id && vldB ve) = true) (hs : sdB sd = true) (hn : (upB q 1099511627776 && upB p 1099511627776) = true) : Calls Try.prog 7 #[.string id, .string ve, .int .i64 sd, .int .i64 q, .int .i64 p] w fun e w' => Born w (newC id ve sd q p) e w' := by
  have V1 := valid_any id
  have V2 := valid_any ve
  have U1 := upTo_any q 1099511627776
  have U2 := upTo_any p 1099511627776
  obtain ⟨h1, h2⟩ := Bool.and_eq_true_iff.1 h
  rw [h1] at V1
  rw [h2] at V2
  clear h h1 h2
  have hs := sd_true hs
  rcases hs with rfl | rfl
  · obtain ⟨n1, n2⟩ := Bool.and_eq_true_iff.1 hn
    have HN : Hid (1 ≤ q ∧ q ≤ 1099511627776) := (up_iff _ _).1 n1
    rw [n1] at U1
    rw [n2] at U2
    clear hn n1 n2
    go_enter Try.func7, Try.ntmps7
    go_wp2_with fail
    refine (V1 _).mono ?_
    rintro e w1 ⟨rfl, hb⟩
    have hb1 : Hid (Below w.heap.size w w1) := hb
    clear hb
    go_wp2_with fail
    refine (V2 _).mono ?_
    rintro e w2 ⟨rfl, hb⟩
    have hb2 : Hid (Below w.heap.size w w2) := hb1.out.trans (hb.mono hb1.out.size)
    clear hb hb1
    go_wp2_with fail
    refine (U1 _).mono ?_
    rintro e w2 ⟨rfl, rfl⟩
    clear U1
    go_wp2_with fail
    refine (U2 _).mono ?_
    rintro e w2 ⟨rfl, rfl⟩
    clear U2
    go_wp2_with fail
    go_ret2
    refine ⟨w2.heap.size, by simp, ⟨box9_new w2 (newC id ve 1 q p) _, Good.start HN.out⟩, hb2.out.size, hb2.out.alloc hb2.out.size _⟩
  · obtain ⟨n1, n2⟩ := Bool.and_eq_true_iff.1 hn
    have HN : Hid (1 ≤ q ∧ q ≤ 1099511627776) := (up_iff _ _).1 n1
    rw [n1] at U1
    rw [n2] at U2
    clear hn n1 n2
    go_enter Try.func7, Try.ntmps7
    go_wp2_with fail
    refine (V1 _).mono ?_
    rintro e w1 ⟨rfl, hb⟩
    have hb1 : Hid (Below w.heap.size w w1) := hb
    clear hb
    go_wp2_with fail
    refine (V2 _).mono ?_
    rintro e w2 ⟨rfl, hb⟩
    have hb2 : Hid (Below w.heap.size w w2) := hb1.out.trans (hb.mono hb1.out.size)
    clear hb hb1
    go_wp2_with fail
    refine (U1 _).mono ?_
    rintro e w2 ⟨rfl, rfl⟩
    clear U1
    go_wp2_with fail
    refine (U2 _).mono ?_
    rintro e w2 ⟨rfl, rfl⟩
    clear U2
    go_wp2_with fail
    go_ret2
    refine ⟨w2.heap.size, by simp, ⟨box9_new w2 (newC id ve 2 q p) _, Good.start HN.out⟩, hb2.out.size, hb2.out.alloc hb2.out.size _⟩
theorem new_any (id ve : ByteArray) (sd q p : Int) (w : World) : Calls Try.prog 7 #[.string id, .string ve, .int .i64 sd, .int .i64 q, .int .i64 p] w fun e w' => (nwE id ve sd q p ≠ 0 → e = .returned (.tuple #[.pointer none, .int .i64 (nwE id ve sd q p)]) ∧ Below w.heap.size w w') ∧ (nwE id ve sd q p = 0 → Born w (newC id ve sd q p) e w') := by
  cases h : (vldB id && vldB ve)
  · rw [nw_name h]
    exact (new_name id ve sd q p w h).mono fun _ _ k => ⟨fun _ => k, fun e => absurd e (by omega)⟩
  cases hs : sdB sd
  · rw [nw_side h hs]
    exact (new_side id ve sd q p w h hs).mono fun _ _ k => ⟨fun _ => k, fun e => absurd e (by omega)⟩
  cases hn : (upB q 1099511627776 && upB p 1099511627776)
  · rw [nw_num h hs hn]
    exact (new_num id ve sd q p w h hs hn).mono fun _ _ k => ⟨fun _ => k, fun e => absurd e (by omega)⟩
  · rw [nw_ok h hs hn]
    exact (new_ok id ve sd q p w h hs hn).mono fun _ _ k => ⟨fun e => absurd rfl e, fun _ => k⟩
end Go.Proofs.Ytkkimkhkoiempaa.CH
